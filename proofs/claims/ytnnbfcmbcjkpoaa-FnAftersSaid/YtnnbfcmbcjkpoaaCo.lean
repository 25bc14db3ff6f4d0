/- The program's deferred functions in memory: a struct behind a pointer, its slots, the handles in order, the map, and the boxes that its functions hold; what each kind of write leaves; no program's function is walked here. -/
import Derived.Test.YtnnbfcmbcjkpoaaCn
import Derived.Test.YtnnbfcmbcjkpoaaCe
namespace Go.Proofs.Ytnnbfcmbcjkpoaa
open Go.RowKit Go.Sort

/-- Blocks that p says no to stay as they are. -/
def Off (p : Obj → Bool) (w w' : World) : Prop := ∀ (k : Nat) (o : Obj), w.heap[k]? = some o → p o = false → w'.heap[k]? = some o
def isTy (t : TypeId) : Obj → Bool | .cells _ t' _ => t == t' | _ => false
def isMp : Obj → Bool | .map .. => true | _ => false
section
variable {p q : Obj → Bool} {w w' w'' : World}
theorem Off.refl (p : Obj → Bool) (w : World) : Off p w w := fun _ _ h _ => h
theorem Off.trans (h : Off p w w') (k : Off p w' w'') : Off p w w'' := fun i o hi hp => k i o (h i o hi hp) hp
theorem Off.of_kept (h : Kept 0 0 w w') : Off p w w' := fun i _ hi _ => (h.block i (Array.getElem?_eq_some_iff.1 hi).1 (.inr (Nat.zero_le _))).trans hi
theorem Off.weak (h : Off p w w') (hpq : ∀ x, q x = false → p x = false) : Off q w w' := fun i o hi hq => h i o hi (hpq o hq)
theorem Off.app {lo e k n c : Nat} {D : Option Addr} {xs : List Value} (h : w.ownsRow lo e k (.slice D n c) n xs) (hg : w.grownBy w' (rowAt D)) : Off (isTy e) w w' := fun i o hi hp => by
  refine (hg.block i (Array.getElem?_eq_some_iff.1 hi).1 ?_).trans hi
  intro he
  obtain ⟨cs, hb⟩ := row_blk h (b := i) (by rw [rowAt_eq]; exact he.symm)
  unfold Blk at hb
  rw [hi] at hb
  injection hb with hb
  subst hb
  simp [isTy] at hp
theorem Off.range {g : Nat} {e : TypeId} {cs : Array Value} (h : Blk w g e cs) (hk : Kept g (g + 1) w w') : Off (isTy e) w w' := fun i o hi hp => by
  refine (hk.block i (Array.getElem?_eq_some_iff.1 hi).1 ?_).trans hi
  have : i ≠ g := by
    rintro rfl
    unfold Blk at h
    rw [hi] at h
    injection h with h
    subst h
    simp [isTy] at hp
  omega
theorem Off.set_ {g : Nat} {e : TypeId} {cs : Array Value} (h : Blk w g e cs) (i : Nat) (u : Value) : Off (isTy e) w (w.setCell ⟨g, i, none⟩ u) :=
  Off.range h ((Kept.refl g (g + 1) w).setCell (p := ⟨g, i, none⟩) (.inr ⟨Nat.le_refl _, Nat.lt_succ_self _⟩) u)
theorem Off.map {m : Nat} {kvs : List ((Int × Int) × Value)} (h : MapAt w m kvs) (hk : Kept m (m + 1) w w') : Off isMp w w' := fun i o hi hp => by
  refine (hk.block i (Array.getElem?_eq_some_iff.1 hi).1 ?_).trans hi
  have : i ≠ m := by
    rintro rfl
    obtain ⟨es, clock, h1, _⟩ := h
    rw [hi] at h1
    injection h1 with h1
    subst h1
    simp [isMp] at hp
  omega
theorem Blk.off {g t : Nat} {cs : Array Value} (h : Blk w g t cs) (ho : Off p w w') (hp : p (.cells cs t (0, 0)) = false) : Blk w' g t cs := ho _ _ h hp
theorem MapAt.off {m : Nat} {kvs : List ((Int × Int) × Value)} (h : MapAt w m kvs) (ho : Off p w w') (hp : ∀ es clock, p (.map es clock) = false) : MapAt w' m kvs := by
  obtain ⟨es, clock, hb, he⟩ := h
  exact ⟨es, clock, ho _ _ hb (hp _ _), he⟩
theorem row_off {lo e size n : Nat} {v : Value} {xs : List Value} (h : w.ownsRow lo e size v n xs) (ho : Off p w w') (hp : ∀ cs, p (.cells cs e (0, 0)) = false) : w'.ownsRow lo e size v n xs := by
  refine ⟨h.1, ?_⟩
  rcases h.2 with hn | ⟨g, cap, cur, hv, hb, hg, rest⟩
  · exact .inl hn
  · exact .inr ⟨g, cap, cur, hv, hb, ho _ _ hg (hp _), rest⟩
theorem OwnZ.off {lo hi e size n c : Nat} {A : Option Addr} {xs : List Value} (h : OwnZ w lo hi e size A n c xs) (ho : Off p w w') (hp : ∀ cs, p (.cells cs e (0, 0)) = false) : OwnZ w' lo hi e size A n c xs := ⟨row_off h.1 ho hp, h.2⟩
end

/-- A list of handles in memory. -/
def hdR : Rec (Int × Int) := ⟨2, fun h => [.int .i64 h.1, .int .i64 h.2], fun _ => rfl, by decide, fun x u hu => by
  simp only [List.mem_cons, List.not_mem_nil, or_false] at hu
  rcases hu with rfl | rfl <;> rfl⟩
theorem hdR_k : hdR.k = 2 := rfl
theorem hdSlice : SliceOf Try.prog 37 40 hdR.k 16 := SliceOf.of Try.underlying37 Try.infoHd rfl
theorem RdR.hd {w : World} {B : Nat} {A : Option Addr} {xs : List (Int × Int)} {k : Nat} (h : RdR hdR w B A xs) (hk : k < xs.length) :
    ∃ ad, A = some ad ∧ ad.block < B ∧ w.cell? (ad.add (k * 2)) = some (.int .i64 xs[k].1) ∧ w.cell? ⟨(ad.add (k * 2)).block, (ad.add (k * 2)).off + 1, none⟩ = some (.int .i64 xs[k].2) := by
  obtain ⟨ad, e, hb, hc⟩ := h.at_ hk
  refine ⟨ad, e, hb, ?_, ?_⟩
  · have := hc 0 (.int .i64 xs[k].1) rfl
    simpa [hdR_k] using this
  · have := hc 1 (.int .i64 xs[k].2) rfl
    rw [hdR_k, fieldAt_eq _ _ _ (by decide)] at this
    exact this

def hnd (x : Aft) : Int × Int := (x.slot, x.age)
def afC (x : Aft) : Array Value := #[.int .i64 x.slot, .int .i64 x.age, .int .i64 x.node, .int .i64 x.func, .bool x.queued]
/-- The function whose function lies in box b. -/
def clo (b : Nat) : Value := .func (.func 69) #[] #[.pointer (some ⟨b, 0, none⟩)]
def kvOf (ps : List (Aft × Nat)) : List ((Int × Int) × Value) := ps.map fun p => (hnd p.1, clo p.2)
theorem kvOf_len (ps : List (Aft × Nat)) : (kvOf ps).length = ps.length := by simp [kvOf]
/-- Deferred functions in memory. -/
structure Dfr (w : World) (lo g m : Nat) (A1 : Option Addr) (c1 : Nat) (A2 : Option Addr) (c2 : Nat) (A3 : Option Addr) (c3 : Nat) (t : Slt) (hs : List (Int × Int)) (ps : List (Aft × Nat)) : Prop where
  glo : lo ≤ g
  blk : Blk w g 77 #[.slice A1 t.ages.length c1, .slice A2 t.used.length c2, .slice A3 hs.length c3, .map (some m)]
  i : OwnZ w lo w.heap.size 2 1 A1 t.ages.length c1 (iR.flat t.ages)
  b : OwnZ w lo w.heap.size 4 1 A2 t.used.length c2 (bR.flat t.used)
  o : w.ownsRow lo 40 2 (.slice A3 hs.length c3) hs.length (hdR.flat hs)
  mlo : lo ≤ m
  map : MapAt w m (kvOf ps)
  box : ∀ p ∈ ps, lo ≤ p.2 ∧ Blk w p.2 42 (afC p.1)
  nod : (ps.map Prod.snd).Nodup
section
variable {w w' : World} {lo g m c1 c2 c3 : Nat} {A1 A2 A3 : Option Addr} {t : Slt} {hs : List (Int × Int)} {ps : List (Aft × Nat)}
theorem Dfr.kept (h : Dfr w lo g m A1 c1 A2 c2 A3 c3 t hs ps) (hk : Kept 0 0 w w') : Dfr w' lo g m A1 c1 A2 c2 A3 c3 t hs ps :=
  have z := hk.size
  ⟨h.glo, h.blk.kept hk (.inl (Nat.le_refl _)), (h.i.kept hk (.inl (Nat.le_refl _))).wide (Nat.le_refl _) z, (h.b.kept hk (.inl (Nat.le_refl _))).wide (Nat.le_refl _) z, row_kept h.o hk, h.mlo, h.map.kept hk (.inl (Nat.le_refl _)), fun p hp => ⟨(h.box p hp).1, (h.box p hp).2.kept hk (.inl (Nat.le_refl _))⟩, h.nod⟩
/-- The slots as one value. -/
theorem Dfr.sl (h : Dfr w lo g m A1 c1 A2 c2 A3 c3 t hs ps) : OwnSl w lo w.heap.size (.agg #[.slice A1 t.ages.length c1, .slice A2 t.used.length c2]) t := ⟨_, _, rfl, ⟨A1, c1, rfl, h.i⟩, ⟨A2, c2, rfl, h.b⟩⟩
theorem Dfr.rdS (h : Dfr w lo g m A1 c1 A2 c2 A3 c3 t hs ps) : RdSl w w.heap.size (.agg #[.slice A1 t.ages.length c1, .slice A2 t.used.length c2]) t := h.sl.rdW (Nat.le_refl _)
theorem Dfr.row (h : Dfr w lo g m A1 c1 A2 c2 A3 c3 t hs ps) : OwnZ w lo w.heap.size 40 hdR.k A3 hs.length c3 (hdR.flat hs) := OwnZ.of_row h.o
/-- The order of handles is written anew. -/
theorem Dfr.order {w1 w2 : World} (h : Dfr w lo g m A1 c1 A2 c2 A3 c3 t hs ps) (hk : Kept 0 0 w w1) (hg : w1.grownBy w2 (rowAt A3)) {D : Option Addr} {d : Nat} {hs' : List (Int × Int)} (ho : w2.ownsRow lo 40 2 (.slice D hs'.length d) hs'.length (hdR.flat hs')) :
    Dfr (w2.setCell ⟨g, 2, none⟩ (.slice D hs'.length d)) lo g m A1 c1 A2 c2 D d t hs' ps := by
  have h1 := h.kept hk
  have o1 : Off (isTy 40) w1 w2 := Off.app h1.o hg
  have b2 := h1.blk.off o1 (by rfl)
  have o2 : Off (isTy 77) w2 (w2.setCell ⟨g, 2, none⟩ (.slice D hs'.length d)) := Off.set_ b2 2 _
  have z1 := hg.size
  have z2 : w2.heap.size ≤ (w2.setCell ⟨g, 2, none⟩ (.slice D hs'.length d)).heap.size := by simp [World.setCell]
  refine ⟨h.glo, by simpa using b2.set_ 2 _, ?_, ?_, ?_, h.mlo, ?_, ?_, h.nod⟩
  · exact ((h1.i.off o1 (fun _ => rfl)).off o2 (fun _ => rfl)).wide (Nat.le_refl _) (by omega)
  · exact ((h1.b.off o1 (fun _ => rfl)).off o2 (fun _ => rfl)).wide (Nat.le_refl _) (by omega)
  · exact row_off ho o2 (fun _ => rfl)
  · exact (h1.map.off o1 (fun _ _ => rfl)).off o2 (fun _ _ => rfl)
  · exact fun p hp => ⟨(h1.box p hp).1, ((h1.box p hp).2.off o1 (by rfl)).off o2 (by rfl)⟩
/-- The slots are written anew. -/
theorem Dfr.slots (h : Dfr w lo g m A1 c1 A2 c2 A3 c3 t hs ps) {D1 D2 : Option Addr} {d1 d2 : Nat} {t' : Slt} (h1 : OwnZ w lo w.heap.size 2 1 D1 t'.ages.length d1 (iR.flat t'.ages)) (h2 : OwnZ w lo w.heap.size 4 1 D2 t'.used.length d2 (bR.flat t'.used)) :
    Dfr ((w.setCell ⟨g, 0, none⟩ (.slice D1 t'.ages.length d1)).setCell ⟨g, 1, none⟩ (.slice D2 t'.used.length d2)) lo g m D1 d1 D2 d2 A3 c3 t' hs ps := by
  have b1 := h.blk.set_ 0 (.slice D1 t'.ages.length d1)
  have o1 : Off (isTy 77) w _ := Off.set_ h.blk 0 (.slice D1 t'.ages.length d1)
  have o2 : Off (isTy 77) _ ((w.setCell ⟨g, 0, none⟩ (.slice D1 t'.ages.length d1)).setCell ⟨g, 1, none⟩ (.slice D2 t'.used.length d2)) := Off.set_ b1 1 _
  have o3 := o1.trans o2
  have z : w.heap.size = ((w.setCell ⟨g, 0, none⟩ (.slice D1 t'.ages.length d1)).setCell ⟨g, 1, none⟩ (.slice D2 t'.used.length d2)).heap.size := by simp [World.setCell]
  refine ⟨h.glo, by simpa using b1.set_ 1 _, ?_, ?_, row_off h.o o3 (fun _ => rfl), h.mlo, h.map.off o3 (fun _ _ => rfl), fun p hp => ⟨(h.box p hp).1, (h.box p hp).2.off o3 (by rfl)⟩, h.nod⟩
  · rw [← z]; exact h1.off o3 (fun _ => rfl)
  · rw [← z]; exact h2.off o3 (fun _ => rfl)
/-- The map is written. -/
theorem Dfr.mapped (h : Dfr w lo g m A1 c1 A2 c2 A3 c3 t hs ps) {ps' : List (Aft × Nat)} (hk : Kept m (m + 1) w w') (hm : MapAt w' m (kvOf ps')) (hb : ∀ p ∈ ps', lo ≤ p.2 ∧ Blk w p.2 42 (afC p.1)) (hn : (ps'.map Prod.snd).Nodup) : Dfr w' lo g m A1 c1 A2 c2 A3 c3 t hs ps' := by
  have o1 : Off isMp w w' := Off.map h.map hk
  have z := hk.size
  exact ⟨h.glo, h.blk.off o1 (by rfl), (h.i.off o1 (fun _ => rfl)).wide (Nat.le_refl _) z, (h.b.off o1 (fun _ => rfl)).wide (Nat.le_refl _) z, row_off h.o o1 (fun _ => rfl), h.mlo, hm, fun p hp => ⟨(hb p hp).1, (hb p hp).2.off o1 (by rfl)⟩, hn⟩
/-- Box k is written. -/
theorem Dfr.mark (h : Dfr w lo g m A1 c1 A2 c2 A3 c3 t hs ps) {k : Nat} (hk : k < ps.length) {x : Aft} (hx : hnd x = hnd ps[k].1) (hK : Kept ps[k].2 (ps[k].2 + 1) w w') (hB : Blk w' ps[k].2 42 (afC x)) : Dfr w' lo g m A1 c1 A2 c2 A3 c3 t hs (ps.set k (x, ps[k].2)) := by
  obtain ⟨b1, b2⟩ := h.box _ (List.getElem_mem hk)
  have o1 : Off (isTy 42) w w' := Off.range b2 hK
  have z := hK.size
  have en : (ps.set k (x, ps[k].2)).map Prod.snd = ps.map Prod.snd := by
    rw [List.map_set]
    apply List.ext_getElem (by simp)
    intro j h1 h2
    rw [List.getElem_set]
    split
    · rename_i e; subst e; simp
    · rfl
  have em : kvOf (ps.set k (x, ps[k].2)) = kvOf ps := by
    unfold kvOf
    rw [List.map_set]
    apply List.ext_getElem (by simp)
    intro j h1 h2
    rw [List.getElem_set]
    split
    · rename_i e; subst e; simp [hx]
    · rfl
  refine ⟨h.glo, h.blk.off o1 (by rfl), (h.i.off o1 (fun _ => rfl)).wide (Nat.le_refl _) z, (h.b.off o1 (fun _ => rfl)).wide (Nat.le_refl _) z, row_off h.o o1 (fun _ => rfl), h.mlo, by rw [em]; exact h.map.off o1 (fun _ _ => rfl), ?_, by rw [en]; exact h.nod⟩
  intro p hp
  obtain ⟨j, hj, rfl⟩ := List.getElem_of_mem hp
  rw [List.getElem_set]
  split
  · exact ⟨b1, hB⟩
  · rename_i e
    have hj' : j < ps.length := by simpa using hj
    obtain ⟨q1, q2⟩ := h.box _ (List.getElem_mem hj')
    have hne : ps[j].2 ≠ ps[k].2 := by
      intro heq'
      have hp := List.pairwise_iff_getElem.1 h.nod
      rcases Nat.lt_trichotomy j k with hlt | he | hgt
      · have := hp j k (by simpa using hj') (by simpa using hk) hlt
        simp only [List.getElem_map] at this
        exact this heq'
      · exact e he.symm
      · have := hp k j (by simpa using hk) (by simpa using hj') hgt
        simp only [List.getElem_map] at this
        exact this heq'.symm
    exact ⟨q1, q2.kept hK (by omega)⟩
end
end Go.Proofs.Ytnnbfcmbcjkpoaa
