/- The program's removal of an element from a linked heap; condition: the heap lies in memory, its root without a parent. -/
import Derived.Test.YtnphjohmkjoefaaPd
import Derived.StillTailTactics
import Derived.LaidEqlPtr
namespace Go.Proofs.Ytnphjohmkjoefaa
open Go.RowKit Go.Sort

theorem wayBlocks_cons (f : Step) (k : List Step) : wayBlocks (f :: k) = f.g :: (f.sib.blocks ++ wayBlocks k) := by simp [wayBlocks, stepBlocks]
theorem way_nd {f : Step} {k : List Step} {u : List Nat} (h : (u ++ wayBlocks (f :: k)).Nodup) :
    (f.g :: (u ++ f.sib.blocks)).Nodup ∧ (f.g :: (f.sib.blocks ++ u)).Nodup ∧ ((f.g :: (u ++ f.sib.blocks)) ++ wayBlocks k).Nodup := by
  have e : (u ++ wayBlocks (f :: k)).Perm ((f.g :: (u ++ f.sib.blocks)) ++ wayBlocks k) := by
    rw [wayBlocks_cons, List.cons_append, List.append_assoc]
    exact List.perm_middle
  have h1 := (List.Perm.nodup_iff e).1 h
  have h2 := (List.nodup_append.1 h1).1
  exact ⟨h2, (List.Perm.nodup_iff (List.Perm.cons _ List.perm_append_comm)).1 h2, h1⟩
theorem joinP_par {g : Nat} {d s : Int} {a b : PT} {w : World} {par : Value} (h : Lay w par (joinP g d s a b)) : w.cell? ⟨g, 2, none⟩ = some par := by
  unfold joinP at h
  split at h <;> exact h.1.cell 2

theorem joinP_blk {g : Nat} {d s : Int} {a b : PT} {w : World} {par : Value} (h : Lay w par (joinP g d s a b)) : ∃ cs, Blk w g 61 cs := by
  unfold joinP at h
  split at h <;> exact ⟨_, h.1⟩

/-- How far it is up to the root, as the parents lie in memory. -/
def climb (w : World) : Nat → Option Addr → Nat
  | 0, _ => 0
  | _ + 1, none => 0
  | n + 1, some a => match w.cell? ⟨a.block, 2, none⟩ with
    | some (.pointer q) => climb w n q + 1
    | _ => 0
def upLen (w : World) : Value → Nat
  | .pointer q => climb w 1000 q
  | _ => 0
theorem climb_way {w : World} : ∀ (k : List Step) (q : Value) (n : Nat), LayC w q k → k.length ≤ n → climb w n (parAt k) = k.length
  | [], _, n, _, _ => by cases n <;> rfl
  | f :: k, q, 0, _, hn => by simp at hn
  | f :: k, q, n + 1, h, hn => by
    have c : w.cell? ⟨f.g, 2, none⟩ = some (.pointer (parAt k)) := h.1.cell 2
    have e : climb w (n + 1) (parAt (f :: k)) = climb w n (parAt k) + 1 := by
      show (match w.cell? ⟨f.g, 2, none⟩ with | some (.pointer q) => climb w n q + 1 | _ => 0) = _
      rw [c]
    rw [e, climb_way k _ n h.2.2 (by simpa using hn)]
    simp

theorem infoEl : (Try.prog.info? 61).map (fun i => (i.zero, i.size, i.bytes)) = some (some (.agg #[.int .i64 0, .int .i64 0, .pointer none, .pointer none, .pointer none]), 5, 40) := by kernel_rfl
theorem eqlP_same (g : Nat) (w : World) : (binOp .eql 55 (toBlk g) (toBlk g)).run Try.prog w = .ok (.bool true) w := by
  obtain ⟨i, h1, h2, h3, h4⟩ := info_parts infoEl
  exact run_eql_ptr_same w _ Try.underlying55 h1
theorem eqlP_other (u : PT) (ch : Nat) (w : World) (p : Value) (cs : Array Value) (hu : Lay w p u) (hb : Blk w ch 61 cs) (hne : ch ∉ u.blocks) : (binOp .eql 55 u.ptr (toBlk ch)).run Try.prog w = .ok (.bool false) w := by
  obtain ⟨i, h1, h2, h3, h4⟩ := info_parts infoEl
  cases u with
  | nil =>
    have h : ∀ d : Nat, (Op.equalIn (d + 1) 55 (.pointer none) (toBlk ch)).run Try.prog w = .ok false w := fun d => by
      simp [Op.equalIn, run_underlying Try.underlying55]
    simp only [PT.adr, binOp]
    simp [Op.equal, Op.maxDepth, h 9999]
  | node g d s l r =>
    refine run_eql_ptr_other w Try.underlying55 h1 (by omega) ?_ hu.1 hb
    intro e
    injection e with e
    subst e
    exact hne (by simp [PT.blocks])

/-- Where the way up stands: u is what is to hang below k, ch what k has in its place. -/
structure UpSt (U : PT) (S : List Nat) (w wr : World) (k : List Step) (u : PT) (ch : Nat) : Prop where
  eq : plugJ k u = U
  lay : Lay wr (parOf k) u
  way : LayC wr (toBlk ch) k
  nd : (u.blocks ++ wayBlocks k).Nodup
  out : ch ∉ wayBlocks k
  sub : ∀ x ∈ u.blocks ++ wayBlocks k, x ∈ S
  tu : Turned S w wr
  sz : U.size ≤ 1000
  own : ∃ cs, Blk wr ch 61 cs
section
variable {U : PT} {S : List Nat} {w wr w' : World} {f : Step} {k : List Step} {u : PT} {ch : Nat}
theorem sum_len (k : List Step) : k.length ≤ (k.map fun f => f.sib.size + 1).sum := by
  induction k with
  | nil => simp
  | cons f k ih => simp only [List.length_cons, List.map_cons, List.sum_cons]; omega
theorem UpSt.small (h : UpSt U S w wr k u ch) : u.size + k.length ≤ 1000 := by
  have := plugJ_size k u
  rw [h.eq] at this
  have := h.sz
  have := sum_len k
  omega
theorem UpSt.sib (h : UpSt U S w wr (f :: k) u ch) : f.sib.size ≤ 1000 := by
  have := plugJ_size (f :: k) u
  rw [h.eq] at this
  have := h.sz
  simp only [List.map_cons, List.sum_cons] at *
  omega
theorem UpSt.upLen (h : UpSt U S w wr k u ch) : upLen wr (parOf k) = k.length := climb_way k _ 1000 h.way (by have := h.small; omega)
theorem UpSt.step (h : UpSt U S w wr (f :: k) u ch) {v : PT} (hv : v.blocks.Perm (f.g :: (u.blocks ++ f.sib.blocks))) (he : plugJ k v = U) (hl : Lay w' (parOf k) v) (hb : ∃ cs, Blk w' f.g 61 cs) (ht : Turned (f.g :: (u.blocks ++ f.sib.blocks)) wr w') : UpSt U S w w' k v f.g := by
  have hn := (way_nd h.nd).2.2
  have hd : ∀ g ∈ wayBlocks k, g ∉ f.g :: (u.blocks ++ f.sib.blocks) := fun g hg hx => (List.nodup_append.1 hn).2.2 g hx g hg rfl
  have hs : ∀ x, x ∈ f.g :: (u.blocks ++ f.sib.blocks) → x ∈ S := fun x hx => h.sub x (by rw [wayBlocks_cons]; simp only [List.mem_cons, List.mem_append] at hx ⊢; rcases hx with hx | hx | hx <;> simp [hx])
  refine ⟨he, hl, h.way.2.2.turned ht hd, ?_, fun hx => hd _ hx (by simp), ?_, h.tu.trans (ht.mono hs), h.sz, hb⟩
  · exact (List.Perm.nodup_iff (List.Perm.append_right _ hv)).2 hn
  · intro x hx
    rcases List.mem_append.1 hx with hx | hx
    · exact hs x (hv.mem_iff.1 hx)
    · exact h.sub x (by rw [wayBlocks_cons]; simp [hx])
theorem UpSt.stepL (h : UpSt U S w wr (f :: k) u ch) (hf : f.left = true) (hl : Lay w' (parOf k) (joinP f.g f.d f.s u f.sib)) (ht : Turned (f.g :: (u.blocks ++ f.sib.blocks)) wr w') : UpSt U S w w' k (joinP f.g f.d f.s u f.sib) f.g :=
  h.step (joinP_blocks _ _ _ _ _) (by have := h.eq; simp only [plugJ, hf, if_true] at this; exact this) hl (joinP_blk hl) ht
theorem UpSt.stepR (h : UpSt U S w wr (f :: k) u ch) (hf : f.left = false) (hl : Lay w' (parOf k) (joinP f.g f.d f.s f.sib u)) (ht : Turned (f.g :: (f.sib.blocks ++ u.blocks)) wr w') : UpSt U S w w' k (joinP f.g f.d f.s f.sib u) f.g :=
  h.step ((joinP_blocks _ _ _ _ _).trans (List.Perm.cons _ List.perm_append_comm)) (by have := h.eq; simp only [plugJ, hf, Bool.false_eq_true, if_false] at this; exact this) hl (joinP_blk hl) (ht.mono (by intro x hx; simp only [List.mem_cons, List.mem_append] at hx ⊢; rcases hx with hx | hx | hx <;> simp [hx]))
end

/-- What remains of a heap behind a removal. -/
def RemPost (U : PT) (S : List Nat) (w : World) (e : Ending) (w' : World) : Prop := e = .returned U.ptr ∧ Lay w' (.pointer none) U ∧ Turned S w w'
set_option maxHeartbeats 3200000 in
set_option maxRecDepth 100000 in
theorem removedP_out (c : List Step) (g : Nat) (d s : Int) (l r : PT) (w : World) (h : Lay w (.pointer none) (plug c (.node g d s l r))) (hnd : (plug c (.node g d s l r)).blocks.Nodup) (hn : (plug c (.node g d s l r)).size ≤ 1000) :
    Calls Try.prog 36 #[toBlk g] w (RemPost (plugJ c (mergeP l r)) ((mergeP l r).blocks ++ wayBlocks c) w) := by
  obtain ⟨U, hU⟩ : ∃ U, U = plugJ c (mergeP l r) := ⟨_, rfl⟩
  obtain ⟨S, hS⟩ : ∃ S, S = (mergeP l r).blocks ++ wayBlocks c := ⟨_, rfl⟩
  have PS := Lib.hid (plug_blocks c (.node g d s l r))
  obtain ⟨h1, h2⟩ := Lay.way c _ h
  have hN : ((PT.node g d s l r).blocks ++ wayBlocks c).Nodup := (List.Perm.nodup_iff PS.out).1 hnd
  have hsz : U.size ≤ 1000 := by
    rw [hU, plugJ_size, mergeP_size]
    rw [plug_size] at hn
    simp only [PT.size] at hn
    omega
  have hlr : l.size + r.size ≤ 1000 := by
    rw [plug_size] at hn
    simp only [PT.size] at hn
    omega
  rw [← hU, ← hS]
  have NT := Lib.hid (nd_top (show ((g :: (l.blocks ++ r.blocks)) ++ wayBlocks c).Nodup from hN))
  have NL : Hid ((l.blocks ++ r.blocks).Nodup) := by
    have := NT.out.2.2.2.2
    rw [← List.append_assoc] at this
    exact (List.nodup_append.1 (List.nodup_cons.1 this).2).1
  have HU := Lib.hid hU.symm
  have HB := Lib.hid h1.1
  have HL := Lib.hid h1.2.1
  have HR := Lib.hid h1.2.2
  have HC := Lib.hid h2
  have c3 : w.cell? ⟨g, 3, none⟩ = some l.ptr := h1.1.cell 3
  have c4 : w.cell? ⟨g, 4, none⟩ = some r.ptr := h1.1.cell 4
  have PM := Lib.hid (mergeP_blocks l r)
  have gm : Hid (g ∉ l.blocks ++ r.blocks) := by
    intro hx
    rcases List.mem_append.1 hx with hx | hx
    · exact NT.out.2.1 hx
    · exact NT.out.2.2.1 (List.mem_append_left _ hx)
  have SUB : Hid (∀ x ∈ (mergeP l r).blocks ++ wayBlocks c, x ∈ S) := by
    intro x hx
    rw [hS]
    exact hx
  have NDU : Hid (((mergeP l r).blocks ++ wayBlocks c).Nodup) := by
    refine (List.Perm.nodup_iff (List.Perm.append_right _ PM.out)).2 ?_
    have := NT.out.2.2.2.2
    rw [← List.append_assoc] at this
    exact (List.nodup_cons.1 this).2
  have GW : Hid (g ∉ wayBlocks c) := fun hx => NT.out.2.2.1 (List.mem_append_right _ hx)
  have WD : Hid (∀ x ∈ wayBlocks c, x ∉ l.blocks ++ r.blocks) := by
    intro x hx hy
    have := NT.out.2.2.2.2
    rw [← List.append_assoc] at this
    exact (List.nodup_append.1 (List.nodup_cons.1 this).2).2.2 x hy x hx rfl
  clear h hnd hn h1 h2 hN hU hS
  go_enter Try.func36, Try.ntmps36
  go_wp2_with fail
  go_still_tail 8, (by kernel_rfl)
  go_wp2_with fail
  with_reducible refine (unionP_any l r _ _ _ hlr HL.out.drew HR.out.drew NL.out).mono ?_
  rintro e w1 ⟨rfl, ⟨par1, l1⟩, t1⟩
  have T1 := Lib.hid (((Turned.refl [] w).drew.mono (by simp)).trans t1)
  have L1 := Lib.hid l1
  have B1 := Lib.hid (HB.out.turned T1.out gm.out)
  have C1 := Lib.hid (HC.out.turned T1.out WD.out)
  clear l1 t1
  clear c3 c4
  have c2 : w1.cell? ⟨g, 2, none⟩ = some (parOf c) := B1.out.cell 2
  have CH := Lib.hid (hangP_any (mergeP l r) par1 (parAt c) w1 L1.out (List.nodup_append.1 NDU.out).1)
  go_wp2_with fail
  with_reducible refine CH.out.mono ?_
  rintro e w2 ⟨rfl, l2, t2⟩
  have T2 := Lib.hid t2
  have T12 : Hid (Turned S w w2) := (T1.out.mono (fun x hx => SUB.out x (List.mem_append_left _ (PM.out.mem_iff.2 hx)))).trans (t2.mono (fun x hx => SUB.out x (List.mem_append_left _ hx)))
  have ST : Hid (UpSt U S w w2 c (mergeP l r) g) := ⟨HU.out, l2, C1.out.turned T2.out (fun x hx hy => WD.out x hx (PM.out.mem_iff.1 hy)), NDU.out, GW.out, SUB.out, T12.out, hsz, ⟨_, B1.out.turned T2.out (fun hx => gm.out (PM.out.mem_iff.1 hx))⟩⟩
  have B2 := Lib.hid (B1.out.turned T2.out (fun hx => gm.out (PM.out.mem_iff.1 hx)))
  clear c2
  have c2 : w2.cell? ⟨g, 2, none⟩ = some (parOf c) := B2.out.cell 2
  clear l2 t2 T1 T2 T12 L1 B1 C1 CH HL HR HB HC NT NL gm NDU GW WD SUB PM PS HU
  go_wp2_with fail
  go_loopw [3, 4, 5] (fun v3 v4 v5 wr => ∃ (k : List Step) (u : PT) (ch : Nat), v3 = .pointer u.adr ∧ v4 = toBlk ch ∧ v5 = .pointer (parAt k) ∧ Hid (UpSt U S w wr k u ch)) (fun _ _ v5 wr => upLen wr v5)
  case atStart => exact ⟨c, mergeP l r, g, rfl, rfl, rfl, ST⟩
  case round =>
    clear ST c2 B2
    obtain ⟨k, u, ch, rfl, rfl, rfl, St⟩ := hrel
    cases k with
    | nil =>
      have E : Hid (u = U) := St.out.eq
      simp only [parAt]
      go_wp2_with fail
      go_ret
      exact ⟨ret_ptr (by rw [E.out]), by rw [← E.out]; exact St.out.lay, St.out.tu⟩
    | cons f k =>
      have M0 := Lib.hid St.out.upLen
      have M1 : Hid (k.length < upLen wr (parOf (f :: k))) := by show _ < _; rw [M0.out]; simp
      have ND := Lib.hid (way_nd St.out.nd)
      have zu : u.rank ≤ 1000 := by have := u.rank_size; have := St.out.small; omega
      have zs : f.sib.rank ≤ 1000 := by have := f.sib.rank_size; have := St.out.sib; omega
      have hno : ch ∉ f.sib.blocks := fun hx => St.out.out (by rw [wayBlocks_cons]; simp [hx])
      simp only [parAt]
      clear M0
      cases hl : f.left
      · obtain ⟨cs, hcs⟩ := St.out.own
        have q1 := eqlP_other f.sib ch wr _ cs St.out.way.2.1 hcs hno
        clear hno hcs
        have c3 : wr.cell? ⟨f.g, 3, none⟩ = some f.sib.ptr := by have := St.out.way.1.cell 3; simpa [hl] using this
        have c4 : wr.cell? ⟨f.g, 4, none⟩ = some (toBlk ch) := by have := St.out.way.1.cell 4; simpa [hl] using this
        have CJ := Lib.hid (joinP_any f.g f.d f.s (parOf k) _ _ f.sib u _ _ wr St.out.way.1 (St.out.way.2.1) St.out.lay ND.out.2.1 (by omega) (by omega))
        have QS := Lib.hid (fun w' (h : Lay w' (parOf k) (joinP f.g f.d f.s f.sib u)) t => St.out.stepR hl h t)
        clear St hl
        go_wp2_with fail
        with_reducible refine CJ.out.mono ?_
        rintro e w2 ⟨rfl, l2, t2⟩
        have c2 := joinP_par l2
        have S2 := Lib.hid (QS.out w2 l2 t2)
        clear l2 t2
        go_wp2_with fail
        go_roundw
        case rel => exact ⟨k, joinP f.g f.d f.s f.sib u, f.g, by rw [joinP_adr], rfl, rfl, S2⟩
        case measure => rw [S2.out.upLen]; exact M1.out
      · have q1 := eqlP_same ch wr
        clear hno
        have c3 : wr.cell? ⟨f.g, 3, none⟩ = some (toBlk ch) := by have := St.out.way.1.cell 3; simpa [hl] using this
        have c4 : wr.cell? ⟨f.g, 4, none⟩ = some f.sib.ptr := by have := St.out.way.1.cell 4; simpa [hl] using this
        have CJ := Lib.hid (joinP_any f.g f.d f.s (parOf k) _ _ u f.sib _ _ wr St.out.way.1 St.out.lay (St.out.way.2.1) ND.out.1 (by omega) (by omega))
        have QS := Lib.hid (fun w' (h : Lay w' (parOf k) (joinP f.g f.d f.s u f.sib)) t => St.out.stepL hl h t)
        clear St hl
        go_wp2_with fail
        with_reducible refine CJ.out.mono ?_
        rintro e w2 ⟨rfl, l2, t2⟩
        have c2 := joinP_par l2
        have S2 := Lib.hid (QS.out w2 l2 t2)
        clear l2 t2
        go_wp2_with fail
        go_roundw
        case rel => exact ⟨k, joinP f.g f.d f.s u f.sib, f.g, by rw [joinP_adr], rfl, rfl, S2⟩
        case measure => rw [S2.out.upLen]; exact M1.out
/-- The element itself stays as it was; what hangs elsewhere may turn. -/
theorem rem_sub {c : List Step} {g : Nat} {d s : Int} {l r : PT} {x : Nat} (hx : x ∈ (mergeP l r).blocks ++ wayBlocks c) : x ∈ (plug c (.node g d s l r)).blocks := by
  refine (plug_blocks c (.node g d s l r)).mem_iff.2 ?_
  rcases List.mem_append.1 hx with hx | hx
  · have := (mergeP_blocks l r).mem_iff.1 hx
    simp only [PT.blocks, List.mem_append, List.mem_cons] at this ⊢
    rcases this with hx | hx <;> simp [hx]
  · exact List.mem_append_right _ hx
theorem rem_out {c : List Step} {g : Nat} {d s : Int} {l r : PT} (hnd : (plug c (.node g d s l r)).blocks.Nodup) : g ∉ (mergeP l r).blocks ++ wayBlocks c := by
  have h := (List.Perm.nodup_iff (plug_blocks c (.node g d s l r))).1 hnd
  intro hx
  have hn := List.nodup_append.1 h
  rcases List.mem_append.1 hx with hx | hx
  · have := (mergeP_blocks l r).mem_iff.1 hx
    exact (List.nodup_cons.1 hn.1).1 this
  · exact hn.2.2 g (by simp [PT.blocks]) g hx rfl
theorem removedP_any (c : List Step) (g : Nat) (d s : Int) (l r : PT) (w : World) (h : Lay w (.pointer none) (plug c (.node g d s l r))) (hnd : (plug c (.node g d s l r)).blocks.Nodup) (hn : (plug c (.node g d s l r)).size ≤ 1000) :
    Calls Try.prog 36 #[toBlk g] w (RemPost (plugJ c (mergeP l r)) (plug c (.node g d s l r)).blocks w) :=
  (removedP_out c g d s l r w h hnd hn).mono fun e w' ⟨h1, h2, h3⟩ => ⟨h1, h2, h3.mono (fun x hx => rem_sub hx)⟩
end Go.Proofs.Ytnphjohmkjoefaa
