/- The program's arming and creation of a timer; no condition beyond that the timers lie in memory. -/
import Derived.Test.YtnphjohmkjoefaaQf
import Derived.Deep.RegionWith
namespace Go.Proofs.Ytnphjohmkjoefaa
open Go.RowKit Go.Sort

theorem set_alloc (w : World) (o : Obj) (p : Addr) (u : Value) (hp : p.block < w.heap.size) : (w.alloc o).setCell p u = (w.setCell p u).alloc o := by
  simp only [World.alloc, World.setCell]
  congr 1
  apply Array.ext_getElem?
  intro i
  simp only [Array.getElem?_modify, Array.getElem?_push, Array.size_modify]
  by_cases h : p.block = i
  · subst h
    simp [hp, Nat.ne_of_lt hp]
  · simp [h]
/-- The timer at place k, armed with a new element. -/
def onAt (zs : List Tr) (k : Nat) (hk : k < zs.length) (g : Nat) (due : Int) : List Tr := zs.set k ⟨zs[k].p, g, rearm due zs[k].x⟩
def oneP (g : Nat) (d s : Int) : PT := .node g d s .nil .nil
def ArmPost (w : World) (lo b d : Nat) (U : PT) (D : Option Addr) (zs : List Tr) (next : Int) (e : Ending) (w' : World) : Prop :=
  e = .returned (.tuple #[]) ∧ (∃ par, Alm w' lo b par U D d zs next) ∧ Fr lo w w'
set_option maxHeartbeats 1600000 in
set_option maxRecDepth 100000 in
theorem arm_any (w : World) (lo b d : Nat) (par : Value) (t : PT) (D : Option Addr) (zs : List Tr) (next due : Int) (h : Alm w lo b par t D d zs next) (k : Nat) (hk : k < zs.length) (hs : t.size ≤ 999) :
    Calls Try.prog 20 #[toBlk b, toBlk zs[k].p, .int .i64 due] w (ArmPost w lo b d (mergeP t (oneP w.heap.size due zs[k].x.seq)) D (onAt zs k hk w.heap.size due) next) := by
  have hz := h.get hk
  have c0 : w.cell? ⟨zs[k].p, 0, none⟩ = some (toBlk zs[k].e) := hz.1.cell 0
  have c3 : w.cell? ⟨zs[k].p, 3, none⟩ = some (.bool zs[k].x.armed) := hz.1.cell 3
  have f0 := hz.1.frozen 0
  have f3 := hz.1.frozen 3
  have e1 := hz.2.c1
  have np : zs[k].p < w.heap.size := hz.1.lt
  have hlo : lo ≤ w.heap.size := Nat.le_trans h.bnew (Nat.le_of_lt h.blk.lt)
  obtain ⟨W1, hW1⟩ : ∃ W1, W1 = w.alloc (.cells #[.int .i64 due, .int .i64 zs[k].x.seq, .pointer none, .pointer none, .pointer none] 61) := ⟨_, rfl⟩
  have K1 : Kept 0 0 w W1 := by rw [hW1]; exact Kept.alloc0 _ _
  have B1 : Blk W1 w.heap.size 61 #[.int .i64 due, .int .i64 zs[k].x.seq, .pointer none, .pointer none, .pointer none] := by rw [hW1]; exact Blk.new _ _ _
  have A1 := h.kept K1
  obtain ⟨W2, hW2⟩ : ∃ W2, W2 = W1.setCell ⟨zs[k].p, 0, none⟩ (toBlk w.heap.size) := ⟨_, rfl⟩
  have hz1 := A1.get hk
  have A2 : Alm W2 lo b par t D d (zs.set k ⟨zs[k].p, w.heap.size, { zs[k].x with due := due }⟩) next := by
    rw [hW2]
    refine A1.timer hk 0 (toBlk w.heap.size) _ rfl ⟨?_, ?_⟩
    · have := hz1.1.set_ 0 (toBlk w.heap.size)
      simpa using this
    · exact (show ElAt W1 w.heap.size due zs[k].x.seq from ⟨_, _, _, B1⟩).beside (Beside.set_ hz1.1 0 _) (by decide)
  have B2 : Blk W2 w.heap.size 61 #[.int .i64 due, .int .i64 zs[k].x.seq, .pointer none, .pointer none, .pointer none] := by rw [hW2]; exact Beside.set_ hz1.1 0 (toBlk w.heap.size) _ _ _ (by decide) B1
  obtain ⟨W3, hW3⟩ : ∃ W3, W3 = W2.setCell ⟨zs[k].p, 3, none⟩ (.bool true) := ⟨_, rfl⟩
  have hk2 : k < (zs.set k ⟨zs[k].p, w.heap.size, { zs[k].x with due := due }⟩).length := by simpa using hk
  have hz2 : TimAt W2 ⟨zs[k].p, w.heap.size, { zs[k].x with due := due }⟩ := by have := A2.get hk2; simpa using this
  have A3 : Hid (Alm W3 lo b par t D d (onAt zs k hk w.heap.size due) next) := by
    show Alm _ _ _ _ _ _ _ _ _
    rw [hW3]
    have := A2.timer hk2 3 (.bool true) ⟨zs[k].p, w.heap.size, rearm due zs[k].x⟩ (by simp)
    simp only [List.getElem_set_self, List.set_set] at this
    refine this ⟨?_, ?_⟩
    · have := hz2.1.set_ 3 (.bool true)
      simpa [rearm] using this
    · exact hz2.2.beside (Beside.set_ hz2.1 3 _) (by decide)
  have B3 : Hid (Blk W3 w.heap.size 61 #[.int .i64 due, .int .i64 zs[k].x.seq, .pointer none, .pointer none, .pointer none]) := by show Blk _ _ _ _; rw [hW3]; exact Beside.set_ hz2.1 3 (.bool true) _ _ _ (by decide) B2
  have T3 : Hid (TimAt W3 ⟨zs[k].p, w.heap.size, rearm due zs[k].x⟩) := by show TimAt _ _; have := A3.out.get (k := k) (by simpa [onAt] using hk); simpa [onAt] using this
  have F3 : Hid (Fr lo w W3) := by
    show Fr _ _ _
    have pn := h.pnew _ (List.getElem_mem hk)
    have := (Fr.kept (lo := lo) K1).trans ((Fr.set_ W1 pn 0 (toBlk w.heap.size)).trans (Fr.set_ _ pn 3 (.bool true)))
    rw [hW3, hW2]
    exact this
  have et : Hid (w.heap.size ∉ t.blocks) := fun hx => by have := h.lay.lt _ hx; omega
  have H3 : Hid (W3 = ((w.setCell ⟨zs[k].p, 0, none⟩ (toBlk w.heap.size)).setCell ⟨zs[k].p, 3, none⟩ (.bool true)).alloc (.cells #[.int .i64 due, .int .i64 zs[k].x.seq, .pointer none, .pointer none, .pointer none] 61)) := by
    show _ = _
    rw [hW3, hW2, hW1, set_alloc _ _ _ _ np, set_alloc _ _ _ _ (by simpa using np)]
  have TN := Lib.hid h.tnew
  clear h hz hW1 hW2 hW3 A1 A2 B1 B2 hz1 hz2 hk2 K1
  go_enter Try.func20, Try.ntmps20
  go_wp2_with fail
  rw [← H3.out]
  clear c0 c3 f0 f3 e1 H3
  have c0 : W3.cell? ⟨zs[k].p, 0, none⟩ = some (toBlk w.heap.size) := T3.out.1.cell 0
  have b0 := bx0 A3.out.blk
  obtain ⟨Y, hY⟩ : ∃ Y, Y = W3.drew := ⟨_, rfl⟩
  have KY : Hid (Kept 0 0 W3 Y) := by show Kept _ _ _ _; rw [hY]; exact (Kept.refl _ _ _).drew
  have AY := Lib.hid (A3.out.kept KY.out)
  have LN : Hid (Lay Y (.pointer none) (oneP w.heap.size due zs[k].x.seq)) := ⟨B3.out.kept KY.out (.inl (Nat.le_refl _)), trivial, trivial⟩
  have ND : Hid ((t.blocks ++ (oneP w.heap.size due zs[k].x.seq).blocks).Nodup) := by
    refine List.nodup_append.2 ⟨AY.out.tnd, by simp [oneP, PT.blocks], ?_⟩
    intro a ha c hc e
    simp [oneP, PT.blocks] at hc
    subst hc e
    exact et.out ha
  have CU : Hid (Calls Try.prog 37 #[t.ptr, toBlk w.heap.size] Y (UnionPost t (oneP w.heap.size due zs[k].x.seq) Y)) := unionP_any t (oneP w.heap.size due zs[k].x.seq) _ _ Y (by simp [oneP, PT.size]; omega) AY.out.lay LN.out ND.out
  have isEl : Hid (∀ g ∈ t.blocks ++ (oneP w.heap.size due zs[k].x.seq).blocks, ∃ cs, Blk Y g 61 cs) := fun g hg => by
    rcases List.mem_append.1 hg with hg | hg
    · exact AY.out.lay.isEl g hg
    · exact LN.out.isEl g hg
  have new : Hid (∀ g ∈ t.blocks ++ (oneP w.heap.size due zs[k].x.seq).blocks, lo ≤ g) := fun g hg => by
    rcases List.mem_append.1 hg with hg | hg
    · exact TN.out g hg
    · simp [oneP, PT.blocks] at hg; omega
  have PB := Lib.hid (mergeP_blocks t (oneP w.heap.size due zs[k].x.seq))
  have QQ : Hid (∀ w4 par', Lay w4 par' (mergeP t (oneP w.heap.size due zs[k].x.seq)) → Turned (t.blocks ++ (oneP w.heap.size due zs[k].x.seq).blocks) Y w4 → Alm (w4.setCell ⟨b, 0, none⟩ (mergeP t (oneP w.heap.size due zs[k].x.seq)).ptr) lo b par' (mergeP t (oneP w.heap.size due zs[k].x.seq)) D d (onAt zs k hk w.heap.size due) next ∧ Fr lo w (w4.setCell ⟨b, 0, none⟩ (mergeP t (oneP w.heap.size due zs[k].x.seq)).ptr) ∧ Beside 61 Y w4) := by
    intro w4 par' l4 t4
    refine ⟨AY.out.tree t4 isEl.out (keeps_union AY.out.lay LN.out l4 t4) l4 ((List.Perm.nodup_iff PB.out).2 ND.out) (fun g hg => new.out g (PB.out.mem_iff.1 hg)), (F3.out.trans (Fr.kept KY.out)).trans ((Fr.turned t4 new.out).trans (Fr.set_ w4 AY.out.bnew 0 _)), fun g ty cs hne hb => hb.turned t4 (fun hg => ?_)⟩
    obtain ⟨cs', hb'⟩ := isEl.out g hg
    exact blk_ne hb hb' (Ne.symm hne) rfl
  clear isEl new PB
  subst hY
  go_region_with ((go_at_call 37; refine (CU.out).mono ?_; rintro e w4 ⟨rfl, ⟨par', l4⟩, t4⟩; have Q4 := Lib.hid (QQ.out w4 par' l4 t4); have b4 := Q4.out.2.2 _ _ _ (by decide) AY.out.blk; have r0 := bx0 b4; have fr0 := b4.frozen 0; clear l4 t4 b4))
  all_goals go_wp2_with fail
  all_goals go_end0
  all_goals exact ⟨rfl, ⟨par', Q4.out.1⟩, Q4.out.2.1⟩
theorem arm_at (w : World) (lo b d : Nat) (par : Value) (t : PT) (D : Option Addr) (zs : List Tr) (next due : Int) (h : Alm w lo b par t D d zs next) (k : Nat) (z : Tr) (hz : zs[k]? = some z) (hs : t.size ≤ 999) :
    Calls Try.prog 20 #[toBlk b, toBlk z.p, .int .i64 due] w (ArmPost w lo b d (mergeP t (oneP w.heap.size due z.x.seq)) D (zs.set k ⟨z.p, w.heap.size, rearm due z.x⟩) next) := by
  obtain ⟨hk, rfl⟩ := List.getElem?_eq_some_iff.1 hz
  exact arm_any w lo b d par t D zs next due h k hk hs
theorem disarm_at (w : World) (lo b d : Nat) (t : PT) (D : Option Addr) (zs : List Tr) (next : Int) (h : Alm w lo b (.pointer none) t D d zs next) (k : Nat) (z : Tr) (hz : zs[k]? = some z) (ha : z.x.armed = true) (c : List Step) (l r : PT) (hf : findP t z.x.seq [] = some (c, .node z.e z.x.due z.x.seq l r)) (hs : t.size ≤ 1000) :
    Calls Try.prog 19 #[toBlk b, toBlk z.p] w (DisPost w lo b d (plugJ c (mergeP l r)) D (zs.set k ⟨z.p, z.e, disarm z.x⟩) next) := by
  obtain ⟨hk, rfl⟩ := List.getElem?_eq_some_iff.1 hz
  exact disarm_yes w lo b d t D zs next h k hk ha c l r hf hs
theorem Alm.nextSet {w : World} {lo b d : Nat} {par : Value} {t : PT} {D : Option Addr} {zs : List Tr} {next : Int} (h : Alm w lo b par t D d zs next) (n : Int) : Alm (w.setCell ⟨b, 2, none⟩ (.int .i64 n)) lo b par t D d zs n := by
  have s := Beside.set_ h.blk 2 (.int .i64 n)
  refine ⟨?_, row_beside h.row s (by decide), fun z hz => (h.tim z hz).beside s (by decide) (by decide), h.nd, h.lay.beside s (by decide), h.tnd, h.bnew, h.pnew, h.tnew⟩
  have := h.blk.set_ 2 (.int .i64 n)
  simpa using this

def NewPost (w : World) (lo b : Nat) (t : PT) (zs : List Tr) (next due what whom : Int) (e : Ending) (w' : World) : Prop :=
  e = .returned (.int .i64 next) ∧ (∃ par D d p g, Alm w' lo b par (mergeP t (oneP g due next)) D d (zs ++ [⟨p, g, ⟨next, due, what, whom, true⟩⟩]) (next + 1)) ∧ Fr lo w w'
end Go.Proofs.Ytnphjohmkjoefaa
