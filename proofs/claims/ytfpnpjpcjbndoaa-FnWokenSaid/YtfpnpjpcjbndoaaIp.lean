/- The program's TasksOk, ReadyIn, ParkedOn and Woken, and the library's Clone at tasks; no condition beyond that the slice can be read. -/
import Derived.Test.YtfpnpjpcjbndoaaIo
import Derived.Test.YtfpnpjpcjbndoaaId
import Derived.Test.YtfpnpjpcjbndoaaHt
import Derived.Lib.SliceRun
namespace Go.Proofs.Ytfpnpjpcjbndoaa
open Go.RowKit Go.Sort

set_option maxHeartbeats 1600000 in
theorem implTasksOk (l : List Tk) (v : Value) (w : World) (h : RdTk w w.heap.size v l) :
    Calls Try.prog 12 #[v] w fun e w' => e = .returned (.bool (tasksB l)) ∧ Kept 0 0 w w' := by
  obtain ⟨A, c, rfl, hs⟩ := h
  have hx := hs.rd.1
  unfold maxLen at hx
  have H := Lib.hid hs.rd
  clear hs
  go_enter Try.func12, Try.ntmps12
  go_wp2
  go_loopw [7] (fun i wr => ∃ k : Nat, k ≤ l.length ∧ i = .int .i64 k ∧ Hid (Kept 0 0 w wr) ∧ Hid (∀ j (hj : j < l.length), j < k → tkB l[j] = true)) (fun i _ => l.length - (intOf i).toNat)
  case atStart => exact ⟨0, Nat.zero_le _, by rfl, Kept.refl _ _ _, fun j hj hjk => by omega⟩
  case round =>
    obtain ⟨k, hk, rfl, HK, HA⟩ := hrel
    by_cases hlt : k < l.length
    · obtain ⟨ad, rfl, _, c0, c1, c2, c3, c4, c5, c6, c7, c8⟩ := (H.out.kept (Nat.le_refl _) HK.out (.inl (Nat.le_refl _))).tk hlt
      have i1 : (k : Int) < (l.length : Int) := by omega
      obtain ⟨x, hxk⟩ : ∃ x, x = l[k] := ⟨_, rfl⟩
      rw [← hxk] at c0 c1 c2 c3 c4 c5 c6 c7 c8
      have HX := Lib.hid hxk
      clear hxk
      go_wp2_with fail
      with_reducible refine (implTaskOk x _).mono ?_
      rintro e w2 ⟨rfl, hk2⟩
      have HK2 := Lib.hid ((HK.out.alloc _).trans hk2)
      cases hb : tkB x
      · have hp := tasksB_not hlt (by rw [← HX.out]; exact hb)
        go_wp2_with fail
        go_ret
        exact ⟨ret_bool hp.symm, HK2.out⟩
      · have hb2 := Lib.hid hb
        clear hb hk2 HK c0 c1 c2 c3 c4 c5 c6 c7 c8
        go_wp2_with fail
        go_roundw
        case rel => exact ⟨k + 1, by omega, by go_num, HK2, fun j hj hjk => by
          rcases Nat.lt_or_ge j k with h' | h'
          · exact HA.out j hj h'
          · have : j = k := by omega
            subst this
            rw [← HX.out]; exact hb2.out⟩
        case measure => simp [intOf]; omega
    · have i1 : ¬ (k : Int) < (l.length : Int) := by omega
      have hp := tasksB_len (l := l) (fun j hj => HA.out j hj (by omega))
      go_wp2_with fail
      go_ret
      exact ⟨ret_bool (by rw [Bool.eq_iff_iff]; simp <;> omega), HK.out⟩

set_option maxHeartbeats 800000 in
theorem cloneTk_any (xs : List Tk) (v : Value) (w : World) (h : RdTk w w.heap.size v xs) (hn : xs.length ≤ 1048576) :
    Calls Try.prog 32 #[v] w fun e w' => ∃ u, e = .returned u ∧ OwnTk w' w.heap.size w'.heap.size u xs ∧ Kept 0 0 w w' := by
  obtain ⟨A, c, rfl, h⟩ := h
  cases A with
  | none =>
    have hx : xs = [] := by
      cases xs with
      | nil => rfl
      | cons x r => obtain ⟨ad, h, _⟩ := h.rd.2 (by simp); cases h
    subst hx
    clear h
    have q1 := Lib.run_eql_slice_nil (P := Try.prog) w 24 _ none 0 c 0 0 Try.underlying24
    go_enter Try.func32, Try.ntmps32
    go_wp2
    go_ret
    exact ⟨_, rfl, OwnTk.nil _ _ _, Kept.refl _ _ _⟩
  | some ad =>
    have H := Lib.hid h
    clear h
    have HS := Lib.hid tkSlice
    have q1 := Lib.run_eql_slice_nil (P := Try.prog) w 24 _ (some ad) xs.length c 0 0 Try.underlying24
    go_enter Try.func32, Try.ntmps32
    go_wp2_with (at_builtin; refine wpList_app (R := tkR) rfl (.tmp 5) (.tmp 6) rfl HS.out w.heap.size (some ⟨w.heap.size, 0, none⟩) 0 [] rfl (own_emptyZ (Blk.new w 35 #[]) (Nat.le_refl _)) w.heap.size (some ad) c xs rfl (by exact H.out.rd.kept (Nat.le_refl _) (Kept.alloc0 _ _) (.inl (Nat.le_refl _))) (by simp [maxLen]; omega) (by simp; omega) (by simp) ?_; intro D d w' hown hgrow hat)
    go_ret
    have hk : Kept 0 0 w w' := (Kept.alloc0 w (.cells #[] 35)).app hgrow (by intro g hg; injection hg with hg; subst hg; exact Nat.le_refl _)
    exact ⟨_, rfl, ⟨D, d, rfl, OwnZ.of_row hown⟩, hk⟩

set_option maxHeartbeats 1600000 in
theorem implReadyIn (l : List Tk) (v : Value) (w : World) (h0 : RdTk w w.heap.size v l) :
    Calls Try.prog 16 #[v] w fun e w' => ∃ u, e = .returned u ∧ OwnI w' w.heap.size w'.heap.size u (readyL l) ∧ Kept 0 0 w w' := by
  have H := Lib.hid h0
  have CO := Lib.hid (implTasksOk l v w h0)
  obtain ⟨A, c, rfl, h1⟩ := h0
  clear h1
  have HS := Lib.hid iSlice
  cases q1 : tasksB l
  · have EL : Hid (readyL l = []) := by show _ = _; simp [readyL, q1]
    rw [q1] at CO
    clear q1
    go_enter Try.func16, Try.ntmps16
    go_wp2_with fail
    with_reducible refine CO.out.mono ?_
    rintro e w1 ⟨rfl, hk⟩
    have K1 := Lib.hid hk
    clear hk CO
    go_wp2
    go_ret
    rw [EL.out]
    exact ⟨_, rfl, OwnI.nil _ _ _, K1.out⟩
  have L : l.length ≤ 60 := (tasksB_iff.1 q1).2
  have EL : Hid (readyL l = idxs (isRdy) 0 l) := by show _ = _; simp [readyL, q1]
  rw [q1] at CO
  clear q1
  go_enter Try.func16, Try.ntmps16
  go_wp2_with fail
  with_reducible refine CO.out.mono ?_
  rintro e w1 ⟨rfl, hk⟩
  have K1 := Lib.hid hk
  clear hk CO
  go_wp2_with fail
  go_loopw [3, 11] (fun out i wr => ∃ (k : Nat) (D : Option Addr) (d : Nat) (ks : List Int), k ≤ l.length ∧ i = .int .i64 k ∧ out = .slice D ks.length d ∧ Hid (ks = idxTo (isRdy) l k) ∧ Hid (wr.ownsRow w.heap.size 2 1 (.slice D ks.length d) ks.length (iR.flat ks)) ∧ Hid (Kept 0 0 w wr)) (fun _ i _ => l.length - (intOf i).toNat)
  case atStart => exact ⟨0, none, 0, [], Nat.zero_le _, rfl, rfl, Lib.hid (idxTo_zero _ l).symm, Lib.hid ⟨rfl, .inl ⟨rfl, rfl⟩⟩, K1⟩
  case round =>
    clear K1
    obtain ⟨k, D, d, ks, hk, rfl, rfl, HKS, HO, HK⟩ := hrel
    have z := HK.out.size
    by_cases hlt : k < l.length
    · obtain ⟨A', c', e', s'⟩ := H.out.kept (Nat.le_refl _) HK.out (.inl (Nat.le_refl _))
      injection e' with e1 _ e2
      subst e1 e2
      obtain ⟨ad, rfl, _, c0, c1, c2, c3, c4, c5, c6, c7, c8⟩ := s'.rd.tk hlt
      clear s'
      have i1 : (k : Int) < (l.length : Int) := by omega
      have HL : ks.length ≤ 60 := by rw [HKS.out]; have := idxTo_len (isRdy) l k; omega
      have EN : Hid ((isRdy) l[k] = false → ks = idxTo (isRdy) l (k + 1)) := fun q => by rw [idxTo_succ _ l hlt, if_neg (by rw [q]; decide), HKS.out]
      have EY : Hid ((isRdy) l[k] = true → ks ++ [(k : Int)] = idxTo (isRdy) l (k + 1)) := fun q => by rw [idxTo_succ _ l hlt, if_pos q, HKS.out]
      obtain ⟨t, ht⟩ : ∃ t, t = l[k] := ⟨_, rfl⟩
      rw [← ht] at c0 c1 c2 c3 c4 c5 c6 c7 c8 EN EY
      clear ht
      by_cases h1 : t.st = 0
      case neg =>
        have g : (t.st == 0) = false := by simpa using h1
        have E := Lib.hid (EN.out (by simp [isRdy, h1]))
        go_wp2_with fail
        go_roundw
        case rel => exact ⟨k + 1, D, d, ks, by omega, by go_num, rfl, E, row_kept HO.out (Kept.alloc0 _ _), HK.out.alloc _⟩
        case measure => simp [intOf]; omega
      have gh1 : (t.st == 0) = true := by simpa using h1
      have E := Lib.hid (EY.out (by simp [isRdy, h1]))
      go_upto_region 8 with fail
      obtain ⟨X, hX⟩ : ∃ X, X = wr.alloc (.cells #[.int .i64 t.prog, .int .i64 t.pc, .int .i64 0, .int .i64 t.why, .int .i64 t.what, .int .i64 t.timer, .int .i64 t.reg, .int .i64 t.grp, .int .i64 t.err] 35) := ⟨_, rfl⟩
      have KX : Hid (Kept 0 0 wr X) := by show Kept _ _ _ _; rw [hX]; exact Kept.alloc0 _ _
      have OX : Hid (X.ownsRow w.heap.size 2 1 (.slice D ks.length d) ks.length (iR.flat ks)) := row_kept HO.out KX.out
      rw [← hX]
      clear hX c0 c1 c2 c3 c4 c5 c6 c7 c8
      have zX := KX.out.size
      go_wp2_with (at_builtin; refine wpList_app (R := iR) rfl (.tmp 19) (.tmp 21) rfl HS.out w.heap.size D d ks rfl (row_kept OX.out (Kept.alloc0 X (.cells #[.int .i64 k] 2))) (X.heap.size + 1) (some ⟨X.heap.size, 0, none⟩) 1 [(k : Int)] rfl (rd_litJ X k) (by simp [maxLen]; omega) (by simp; omega) (by simp; omega) ?_; intro D1 d1 w2 hown hgrow hat)
      have K2 := Lib.hid (((HK.out.trans KX.out).alloc (.cells #[.int .i64 k] 2)).app hgrow (fun g hg => (own_row_lo HO.out g hg).1))
      have O2 := Lib.hid hown
      clear hown hgrow hat HO HK OX
      go_roundw
      case rel => exact ⟨k + 1, D1, d1, ks ++ [(k : Int)], by omega, by go_num, by simp, E, O2, K2⟩
      case measure => simp [intOf]; omega
    · go_wp2
      go_ret
      rw [EL.out, ← idxTo_all _ l (k := k) (by omega), ← HKS.out]
      exact ⟨_, rfl, ⟨D, d, rfl, OwnZ.of_row HO.out⟩, HK.out⟩

set_option maxHeartbeats 1600000 in
theorem implParkedOn (l : List Tk) (y h : Int) (v : Value) (w : World) (h0 : RdTk w w.heap.size v l) :
    Calls Try.prog 13 #[v, .int .i64 y, .int .i64 h] w fun e w' => ∃ u, e = .returned u ∧ OwnI w' w.heap.size w'.heap.size u (parkedL l y h) ∧ Kept 0 0 w w' := by
  have H := Lib.hid h0
  have CO := Lib.hid (implTasksOk l v w h0)
  obtain ⟨A, c, rfl, h1⟩ := h0
  clear h1
  cases q1 : tasksB l
  · have EL : Hid (parkedL l y h = []) := by show _ = _; simp [parkedL, q1]
    rw [q1] at CO
    clear q1
    go_enter Try.func13, Try.ntmps13
    go_wp2_with fail
    with_reducible refine CO.out.mono ?_
    rintro e w1 ⟨rfl, hk⟩
    have K1 := Lib.hid hk
    clear hk CO
    go_wp2
    go_ret
    rw [EL.out]
    exact ⟨_, rfl, OwnI.nil _ _ _, K1.out⟩
  have L : l.length ≤ 60 := (tasksB_iff.1 q1).2
  have EL : Hid (parkedL l y h = idxs (isPk y h) 0 l) := by show _ = _; simp [parkedL, q1]
  rw [q1] at CO
  clear q1
  go_enter Try.func13, Try.ntmps13
  go_wp2_with fail
  with_reducible refine CO.out.mono ?_
  rintro e w1 ⟨rfl, hk⟩
  have K1 := Lib.hid hk
  have CW := Lib.hid (waitingIn_any l _ w1 (H.out.up hk) L)
  clear hk CO
  go_wp2_with fail
  with_reducible refine CW.out.mono ?_
  rintro e w2 ⟨m, E, rfl, hw, hk⟩
  obtain ⟨D, d, ks, lk, ek, ro, _⟩ := hw.look (y, h)
  have ek' : ks = idxTo (isPk y h) l l.length := ek
  rw [idxTo_all _ l (Nat.le_refl _)] at ek'
  have LK : Hid ((Instr.lookup 53 (.map (some m)) (.agg #[.int .i64 y, .int .i64 h]) false).run Try.prog w2 = .ok (.slice D ks.length d) w2) := lk
  have RO := Lib.hid (ownsRow_lo ro K1.out.size)
  have K2 := Lib.hid (K1.out.trans hk)
  rw [← ek'] at EL
  clear ro lk ek ek' hw hk CW
  go_wp2_with fail
  rw [LK.out]
  simp only [Result.andThen_ok]
  go_wp2_with fail
  go_ret
  rw [EL.out]
  exact ⟨_, rfl, ⟨D, d, rfl, OwnZ.of_row RO.out⟩, K2.out⟩
end Go.Proofs.Ytfpnpjpcjbndoaa
