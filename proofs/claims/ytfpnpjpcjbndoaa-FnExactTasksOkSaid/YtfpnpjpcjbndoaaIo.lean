/- The program's waitingIn: a map that holds who waits for what; condition: at most 60 tasks, which can be read. -/
import Derived.Test.YtfpnpjpcjbndoaaIn
import Derived.Test.YtfpnpjpcjbndoaaIc
namespace Go.Proofs.Ytfpnpjpcjbndoaa
open Go.RowKit Go.Sort

set_option maxHeartbeats 3200000 in
set_option maxRecDepth 100000 in
theorem waitingIn_any (l : List Tk) (v : Value) (w : World) (h0 : RdTk w w.heap.size v l) (L : l.length ≤ 60) :
    Calls Try.prog 33 #[v] w fun e w' => ∃ m E, e = .returned (.map (some m)) ∧ Waits w' w.heap.size m E l l.length ∧ Kept 0 0 w w' := by
  have H := Lib.hid h0
  obtain ⟨A, c, rfl, h1⟩ := h0
  clear h1
  have HS := Lib.hid iSlice
  have hmm := @run_makeMap Try.prog
  obtain ⟨W, hW⟩ : ∃ W, W = w.alloc (.map #[] 0) := ⟨_, rfl⟩
  have KW : Hid (Kept 0 0 w W) := by show Kept _ _ _ _; rw [hW]; exact Kept.alloc0 _ _
  have S0 : Hid (Waits W w.heap.size w.heap.size [] l 0) := by show Waits _ _ _ _ _ _; rw [hW]; exact ⟨Nat.le_refl _, RMap.made w, OwnE.nil _ _, Follows.zero l⟩
  have HW := Lib.hid hW
  clear hW
  go_enter Try.func33, Try.ntmps33
  go_wp2_with fail
  rw [← HW.out]
  go_loopw [10] (fun i wr => ∃ (k : Nat) (E : List WEnt), k ≤ l.length ∧ i = .int .i64 k ∧ Hid (Waits wr w.heap.size w.heap.size E l k) ∧ Hid (Kept 0 0 w wr)) (fun i _ => l.length - (intOf i).toNat)
  case atStart => exact ⟨0, [], Nat.zero_le _, rfl, S0, KW⟩
  case round =>
    clear S0 KW HW
    obtain ⟨k, E, hk, rfl, HE, HK⟩ := hrel
    have z := HK.out.size
    by_cases hlt : k < l.length
    · obtain ⟨A', c', e', s'⟩ := H.out.kept (Nat.le_refl _) HK.out (.inl (Nat.le_refl _))
      injection e' with e1 _ e2
      subst e1 e2
      obtain ⟨ad, rfl, _, c0, c1, c2, c3, c4, c5, c6, c7, c8⟩ := s'.rd.tk hlt
      clear s'
      obtain ⟨t, ht⟩ : ∃ t, t = l[k] := ⟨_, rfl⟩
      rw [← ht] at c0 c1 c2 c3 c4 c5 c6 c7 c8
      have HT : Hid (l[k]? = some t) := by show _ = _; rw [List.getElem?_eq_getElem hlt, ht]
      have HN : Hid (t.st ≠ 1 → Waits wr w.heap.size w.heap.size E l (k + 1)) := fun q => ⟨HE.out.1, HE.out.2.1, HE.out.2.2.1, HE.out.2.2.2.skip hlt (by rw [← ht]; exact q)⟩
      clear ht
      have i1 : (k : Int) < (l.length : Int) := by omega
      by_cases h1 : t.st = 1
      case neg =>
        have g : (t.st == 1) = false := by simpa using h1
        have E1 := Lib.hid (HN.out h1)
        go_wp2_with fail
        go_roundw
        case rel => exact ⟨k + 1, E, by omega, by go_num, E1.out.kept ((Kept.alloc0 _ _)), HK.out.alloc _⟩
        case measure => simp [intOf]; omega
      have gh1 : (t.st == 1) = true := by simpa using h1
      go_upto_region 7 with fail
      have G1 := Lib.hid h1
      obtain ⟨X, hX⟩ : ∃ X, X = ((wr.alloc (.cells #[.int .i64 t.prog, .int .i64 t.pc, .int .i64 1, .int .i64 t.why, .int .i64 t.what, .int .i64 t.timer, .int .i64 t.reg, .int .i64 t.grp, .int .i64 t.err] 35)).alloc (.cells #[.int .i64 t.why, .int .i64 t.what] 57)) := ⟨_, rfl⟩
      have KX : Hid (Kept 0 0 wr X) := by show Kept _ _ _ _; rw [hX]; exact (Kept.alloc0 _ _).alloc _
      have BX : Blk X (wr.heap.size + 1) 57 #[.int .i64 t.why, .int .i64 t.what] := by
        rw [hX]
        have := Blk.new (wr.alloc (.cells #[.int .i64 t.prog, .int .i64 t.pc, .int .i64 1, .int .i64 t.why, .int .i64 t.what, .int .i64 t.timer, .int .i64 t.reg, .int .i64 t.grp, .int .i64 t.err] 35)) 57 #[.int .i64 t.why, .int .i64 t.what]
        simpa using this
      have x0 : X.cell? ⟨wr.heap.size + 1, 0, none⟩ = some (.int .i64 t.why) := BX.cell 0
      have x1 : X.cell? ⟨wr.heap.size + 1, 1, none⟩ = some (.int .i64 t.what) := BX.cell 1
      have xl := BX.lt
      have HX := Lib.hid hX
      clear BX c0 c1 c2 c3 c4 c5 c6 c7 c8 hX
      obtain ⟨Y, hY⟩ : ∃ Y, Y = X.alloc (.cells #[.int .i64 k] 2) := ⟨_, rfl⟩
      have KY : Hid (Kept 0 0 wr Y) := by show Kept _ _ _ _; rw [hY]; exact KX.out.alloc _
      have OY : Hid (OwnZ Y X.heap.size (X.heap.size + 1) 2 1 (some ⟨X.heap.size, 0, none⟩) 1 1 (iR.flat [(k : Int)])) := by show OwnZ _ _ _ _ _ _ _ _ _; rw [hY]; exact OwnZ.mk_ (own_litJ X k) (Nat.lt_succ_self _)
      have HY := Lib.hid hY
      clear hY
      obtain ⟨E1, i, D0, d0, ks, b, w1, er, ex, we, ke⟩ := (HE.out.kept KY.out).entryX (t.why, t.what)
      have ER : Hid ((Instr.mapEntry 53 (.map (some w.heap.size)) (.agg #[.int .i64 t.why, .int .i64 t.what])).run Try.prog Y = .ok (.tuple #[.slice D0 ks.length d0, .int .i64 b]) w1) := er
      have O1 : Hid (RdR iR w1 (X.heap.size + 1) (some ⟨X.heap.size, 0, none⟩) [(k : Int)]) := (OwnZ.rd (R := iR) (OY.out.kept ke (by have := KX.out.size; have := HE.out.2.1.lt; omega))).2
      have EX := Lib.hid ex
      have WE := Lib.hid we
      have KE := Lib.hid ke
      obtain ⟨rw_, LK⟩ := we.rowX ex
      have RW : Hid (w1.ownsRow w.heap.size 2 1 (.slice D0 ks.length d0) ks.length (iR.flat ks)) := rw_
      have LK2 : ks.length ≤ l.length := LK
      have w1z : w.heap.size ≤ w1.heap.size := by have := ke.size; have := KY.out.size; omega
      clear er ex we ke rw_ LK
      refine Eq.mpr (congrArg (fun Z => Code.wp Try.prog _ _ _ Z) HX.out.symm) ?_
      go_wp2_with (first | (rw [← HY.out]; refine wpList_entM Y w1 rfl (.tmp 23) (.tmp 24) 53 rfl (.map (some w.heap.size)) (.agg #[.int .i64 t.why, .int .i64 t.what]) _ rfl rfl ER.out ?_) | (at_builtin; go_loud (refine wpList_app (R := iR) rfl (.tmp 25) (.tmp 27) rfl HS.out w.heap.size D0 d0 ks rfl RW.out (X.heap.size + 1) (some ⟨X.heap.size, 0, none⟩) 1 [(k : Int)] rfl O1.out (by simp [maxLen]; omega) (by simp; omega) w1z ?_; intro D1 d1 w2 hown hgrow hat; obtain ⟨w3, E2, st3, we3, k3⟩ := WE.out.putX HT.out G1.out EX.out hgrow hown hat; have WE3 := Lib.hid we3; have KE3 := Lib.hid k3; have ST := Lib.hid st3; have GR := Lib.hid hgrow; have OW := Lib.hid hown; clear we3 k3 hgrow hown st3)))
      rw [ST.out]
      simp only [Result.andThen_ok]
      go_wp2_with fail
      have KF : Hid (Kept 0 0 w w3) := (((HK.out.trans KY.out).trans2 KE.out (.inr (Nat.le_refl _))).app GR.out (fun g hg => (own_row_lo RW.out g hg).1)).trans2 KE3.out (.inr (Nat.le_refl _))
      go_roundw
      case rel => exact ⟨k + 1, E2, by omega, by go_num, WE3, KF⟩
      case measure => simp [intOf]; omega
    · go_wp2
      go_ret
      have : k = l.length := by omega
      subst this
      exact ⟨_, E, rfl, HE.out, HK.out⟩

set_option maxHeartbeats 1600000 in
set_option maxRecDepth 100000 in
theorem takenOut_any {w : World} {lo m k : Nat} {E : List WEnt} {l : List Tk} (h : Waits w lo m E l k) (y g : Int) :
    Calls Try.prog 34 #[.map (some m), .agg #[.int .i64 y, .int .i64 g]] w fun e w' => ∃ D d, e = .returned (.slice D (idxTo (isPk y g) l k).length d) ∧ w'.ownsRow lo 2 1 (.slice D (idxTo (isPk y g) l k).length d) (idxTo (isPk y g) l k).length (iR.flat (idxTo (isPk y g) l k)) ∧ Kept m (m + 1) w w' := by
  obtain ⟨W, hW⟩ : ∃ W, W = w.alloc (.cells #[.int .i64 y, .int .i64 g] 57) := ⟨_, rfl⟩
  have KW : Hid (Kept 0 0 w W) := by show Kept _ _ _ _; rw [hW]; exact Kept.alloc0 _ _
  have B0 : Blk W w.heap.size 57 #[.int .i64 y, .int .i64 g] := by rw [hW]; exact Blk.new _ _ _
  have H := h.kept KW.out
  obtain ⟨D, d, ks, lk, ek, ro, ne⟩ := H.look (y, g)
  have ek' : ks = idxTo (isPk y g) l k := ek
  rw [← ek']
  have LK : (Instr.lookup 53 (.map (some m)) (.agg #[.int .i64 y, .int .i64 g]) false).run Try.prog W = .ok (.slice D ks.length d) W := lk
  obtain ⟨w2, dl, kd⟩ := H.2.1.del (y, g) 0
  have DL : (Builtin.delete_ #[53, 57] 0 #[.map (some m), .agg #[.int .i64 y, .int .i64 g]]).run Try.prog W = .ok (.tuple #[]) w2 := dl
  have gz := B0.lt
  have x0 : W.cell? ⟨w.heap.size, 0, none⟩ = some (.int .i64 y) := B0.cell 0
  have x1 : W.cell? ⟨w.heap.size, 1, none⟩ = some (.int .i64 g) := B0.cell 1
  have RO : Hid (w2.ownsRow lo 2 1 (.slice D ks.length d) ks.length (iR.flat ks)) := row_far ro fun q hq => kd.block q (own_row_lo ro q hq).2 (by have : q ≠ m := fun e => ne (by rw [hq, e]); omega)
  have KD : Hid (Kept m (m + 1) w w2) := (KW.out.wide (.inl (Nat.le_refl _))).trans kd
  have HW := Lib.hid hW
  clear hW h B0 H lk ek ek' dl kd ro ne
  go_enter Try.func34, Try.ntmps34
  go_wp2_with fail
  rw [← HW.out, LK]
  simp only [Result.andThen_ok]
  clear LK
  have DL' := Lib.hid DL
  clear DL
  go_wp2_with fail
  rw [DL'.out]
  simp only [Result.andThen_ok]
  go_wp2_with fail
  go_ret
  exact ⟨_, _, rfl, RO.out, KD.out⟩
end Go.Proofs.Ytfpnpjpcjbndoaa
