/- The program's TreeOk, hasNode and ChildrenOf; no condition beyond that the slice can be read. -/
import Derived.Test.YtlfbmjfbebbdlaaNp
namespace Go.Proofs.Ytlfbmjfbebbdlaa
open Go.RowKit Go.Sort

set_option maxHeartbeats 3200000 in
theorem implTreeOk (t : List Nd) (v : Value) (w : World) (h : RdNd w w.heap.size v t) :
    Calls Try.prog 51 #[v] w fun e w' => e = .returned (.bool (treeB t)) ∧ Kept 0 0 w w' := by
  have hm := h.len
  unfold maxLen at hm
  obtain ⟨A, c, rfl, h⟩ := h
  have H := Lib.hid h.rd
  clear h
  rcases Nat.lt_or_ge 60 t.length with hl | hl
  · have E := Lib.hid (not_tree_len hl)
    have g1 : decide ((60 : Int) < (t.length : Int)) = true := by simp; omega
    clear hl
    go_enter Try.func51, Try.ntmps51
    go_wp2
    go_ret
    exact ⟨ret_bool E.out.symm, Kept.refl _ _ _⟩
  have g1 : decide ((60 : Int) < (t.length : Int)) = false := by simp; omega
  go_enter Try.func51, Try.ntmps51
  go_wp2
  go_loopw [10] (fun i wr => ∃ k : Nat, k ≤ t.length ∧ i = .int .i64 k ∧ Hid (PreT t k) ∧ Hid (Kept 0 0 w wr)) (fun i _ => t.length - (intOf i).toNat)
  case atStart => exact ⟨0, Nat.zero_le _, rfl, Lib.hid (PreT.zero t), Lib.hid (Kept.refl _ _ _)⟩
  case round =>
    obtain ⟨k, hk, rfl, HP, HK⟩ := hrel
    by_cases hlt : k < t.length
    · obtain ⟨ad, rfl, _, c0, c1, c2, c3, c4⟩ := (H.out.kept (Nat.le_refl _) HK.out (.inl (Nat.le_refl _))).nd hlt
      have i1 : (k : Int) < (t.length : Int) := by omega
      obtain ⟨x, hx⟩ : ∃ x, x = t[k] := ⟨_, rfl⟩
      have HX := Lib.hid hx
      rw [← hx] at c0 c1 c2 c3 c4
      clear hx
      obtain ⟨W, hW⟩ : ∃ W, W = wr.alloc (.cells #[.int .i64 x.kind, .int .i64 x.up, .int .i64 x.due, .int .i64 x.key, .int .i64 x.value] 59) := ⟨_, rfl⟩
      have KW : Hid (Kept 0 0 w W) := by show Kept _ _ _ _; rw [hW]; exact HK.out.alloc _
      have B0 : Hid (Blk W wr.heap.size 59 #[.int .i64 x.kind, .int .i64 x.up, .int .i64 x.due, .int .i64 x.key, .int .i64 x.value]) := by show Blk _ _ _ _; rw [hW]; exact Blk.new _ _ _
      have HW := Lib.hid hW
      clear hW
      go_wp2_with fail
      rw [← HW.out]
      with_reducible refine (isNode_any x _).mono ?_
      rintro e w1 ⟨rfl, hk1⟩
      have b := B0.out.kept hk1 (.inl (Nat.le_refl _))
      have b0 := b.cell 0
      have b1 := b.cell 1
      have b2 := b.cell 2
      have b3 := b.cell 3
      have b4 := b.cell 4
      have K1 := Lib.hid (KW.out.trans hk1)
      clear hk1 c0 c1 c2 c3 c4 HK b B0 HW KW
      cases q1 : nodeB x
      · have E : Hid (treeB t = false) := not_tree_node hlt (by rw [← HX.out]; exact q1)
        clear q1
        go_wp2
        go_ret
        exact ⟨ret_bool E.out.symm, K1.out⟩
      · have Q1 := Lib.hid q1
        clear q1
        go_wp2_with fail
        with_reducible refine (mayHang_any x k _).mono ?_
        rintro e w2 ⟨rfl, hk2⟩
        have K2 := Lib.hid (K1.out.trans hk2)
        clear hk2 b0 b1 b2 b3 b4
        cases q2 : hangB x k
        · have E : Hid (treeB t = false) := not_tree_hang hlt (by rw [← HX.out]; exact q2)
          clear q2
          go_wp2
          go_ret
          exact ⟨ret_bool E.out.symm, K2.out⟩
        · have HP' : Hid (PreT t (k + 1)) := HP.out.succ hlt (by rw [← HX.out]; exact Q1.out) (by rw [← HX.out]; exact q2)
          clear q2 HP
          go_wp2
          go_roundw
          case rel => exact ⟨k + 1, by omega, by go_num, HP', K2⟩
          case measure => simp [intOf]; omega
    · go_wp2
      go_ret
      exact ⟨ret_bool (HP.out.all hl (by omega)).symm, HK.out⟩

set_option maxHeartbeats 800000 in
theorem implHas (t : List Nd) (n : Int) (v : Value) (w : World) (h : RdNd w w.heap.size v t) :
    Calls Try.prog 37 #[v, .int .i64 n] w fun e w' => e = .returned (.bool (hasB t n)) ∧ Kept 0 0 w w' := by
  have hm := h.len
  unfold maxLen at hm
  have CO := Lib.hid (implTreeOk t v w h)
  obtain ⟨A, c, rfl, h⟩ := h
  clear h
  have E : Hid (hasB t n = (treeB t && (decide (0 ≤ n) && decide (n ≤ (t.length : Int) - 1)))) := rfl
  cases q1 : treeB t
  · rw [q1, Bool.false_and] at E
    rw [q1] at CO
    clear q1
    go_enter Try.func37, Try.ntmps37
    go_wp2_with fail
    with_reducible refine CO.out.mono ?_
    rintro e w1 ⟨rfl, hk⟩
    have K := Lib.hid hk
    clear hk CO
    go_wp2
    go_ret
    exact ⟨ret_bool E.out.symm, K.out⟩
  · rw [q1, Bool.true_and] at E
    rw [q1] at CO
    clear q1
    by_cases h0 : 0 ≤ n
    · have g0 : decide (0 ≤ n) = true := by simpa using h0
      by_cases h1 : n < t.length
      · have g1 : decide (n < (t.length : Int)) = true := by simpa using h1
        rw [g0, decide_eq_true (by omega : n ≤ (t.length : Int) - 1)] at E
        clear h0 h1
        go_enter Try.func37, Try.ntmps37
        go_wp2_with fail
        with_reducible refine CO.out.mono ?_
        rintro e w1 ⟨rfl, hk⟩
        have K := Lib.hid hk
        clear hk CO
        go_wp2
        go_ret
        exact ⟨ret_bool E.out.symm, K.out⟩
      · have g1 : decide (n < (t.length : Int)) = false := by simp; omega
        rw [g0, decide_eq_false (by omega : ¬ n ≤ (t.length : Int) - 1)] at E
        clear h0 h1
        go_enter Try.func37, Try.ntmps37
        go_wp2_with fail
        with_reducible refine CO.out.mono ?_
        rintro e w1 ⟨rfl, hk⟩
        have K := Lib.hid hk
        clear hk CO
        go_wp2
        go_ret
        exact ⟨ret_bool E.out.symm, K.out⟩
    · have g0 : decide (0 ≤ n) = false := by simpa using h0
      rw [g0, Bool.false_and] at E
      clear h0
      go_enter Try.func37, Try.ntmps37
      go_wp2_with fail
      with_reducible refine CO.out.mono ?_
      rintro e w1 ⟨rfl, hk⟩
      have K := Lib.hid hk
      clear hk CO
      go_wp2
      go_ret
      exact ⟨ret_bool E.out.symm, K.out⟩

set_option maxHeartbeats 3200000 in
theorem implKids (t : List Nd) (n : Int) (v : Value) (w : World) (h : RdNd w w.heap.size v t) :
    Calls Try.prog 78 #[v, .int .i64 n] w fun e w' => ∃ u, e = .returned u ∧ OwnI w' w.heap.size w'.heap.size u (kidsL t n) ∧ Kept 0 0 w w' := by
  have H := Lib.hid h
  have CO := Lib.hid (implHas t n v w h)
  obtain ⟨A, c, rfl, h⟩ := h
  clear h
  have HS := Lib.hid iSlice
  cases q1 : hasB t n
  · have EL : Hid (kidsL t n = []) := by show _ = _; simp [kidsL, q1]
    rw [q1] at CO
    clear q1
    go_enter Try.func78, Try.ntmps78
    go_wp2_with fail
    with_reducible refine CO.out.mono ?_
    rintro e w1 ⟨rfl, hk⟩
    have K1 := Lib.hid hk
    clear hk CO
    go_wp2
    go_ret
    rw [EL.out]
    exact ⟨_, rfl, OwnI.nil _ _ _, K1.out⟩
  have L : t.length ≤ 60 := (hasB_true.1 q1).1.len
  have EL : Hid (kidsL t n = kidsFrom n 0 t) := by show _ = _; simp [kidsL, q1]
  rw [q1] at CO
  clear q1
  go_enter Try.func78, Try.ntmps78
  go_wp2_with fail
  with_reducible refine CO.out.mono ?_
  rintro e w1 ⟨rfl, hk⟩
  have K1 := Lib.hid hk
  clear hk CO
  go_wp2_with fail
  go_loopw [5, 14] (fun out i wr => ∃ (k : Nat) (D : Option Addr) (d : Nat) (ks : List Int), k ≤ t.length ∧ i = .int .i64 k ∧ out = .slice D ks.length d ∧ Hid (ks = kidsTo t n k) ∧ Hid (wr.ownsRow w.heap.size 2 1 (.slice D ks.length d) ks.length (iR.flat ks)) ∧ Hid (Kept 0 0 w wr)) (fun _ i _ => t.length - (intOf i).toNat)
  case atStart => exact ⟨0, none, 0, [], Nat.zero_le _, rfl, rfl, Lib.hid (kidsTo_zero t n).symm, Lib.hid ⟨rfl, .inl ⟨rfl, rfl⟩⟩, K1⟩
  case round =>
    clear K1
    obtain ⟨k, D, d, ks, hk, rfl, rfl, HKS, HO, HK⟩ := hrel
    have z := HK.out.size
    by_cases hlt : k < t.length
    · obtain ⟨A', c', e', s'⟩ := H.out.kept (Nat.le_refl _) HK.out (.inl (Nat.le_refl _))
      injection e' with e1 _ e2
      subst e1 e2
      obtain ⟨ad, rfl, _, c0, c1, c2, c3, c4⟩ := s'.rd.nd hlt
      clear s'
      have i1 : (k : Int) < (t.length : Int) := by omega
      have HL : ks.length ≤ 60 := by rw [HKS.out]; have := kidsTo_len t n k; omega
      obtain ⟨x, hx⟩ : ∃ x, x = t[k] := ⟨_, rfl⟩
      rw [← hx] at c0 c1 c2 c3 c4
      obtain ⟨W, hW⟩ : ∃ W, W = wr.alloc (.cells #[.int .i64 x.kind, .int .i64 x.up, .int .i64 x.due, .int .i64 x.key, .int .i64 x.value] 59) := ⟨_, rfl⟩
      have KW : Hid (Kept 0 0 w W) := by show Kept _ _ _ _; rw [hW]; exact HK.out.alloc _
      have OW : Hid (W.ownsRow w.heap.size 2 1 (.slice D ks.length d) ks.length (iR.flat ks)) := by show World.ownsRow _ _ _ _ _ _ _; rw [hW]; exact row_kept HO.out (Kept.alloc0 _ _)
      have zW : w.heap.size ≤ W.heap.size := KW.out.size
      have HW := Lib.hid hW
      by_cases hu : x.up = n
      · have g : (x.up == n) = true := by simpa using hu
        have E : Hid (ks ++ [(k : Int)] = kidsTo t n (k + 1)) := by show _ = _; rw [kidsTo_succ t n hlt, if_pos (by rw [← hx]; exact hu), HKS.out]
        clear hu hx hW
        go_wp2_with (at_builtin; rw [← HW.out]; refine wpList_app (R := iR) rfl (.tmp 23) (.tmp 25) rfl HS.out w.heap.size D d ks rfl (row_kept OW.out (Kept.alloc0 W (.cells #[.int .i64 k] 2))) (W.heap.size + 1) (some ⟨W.heap.size, 0, none⟩) 1 [(k : Int)] (by rw [HW.out]; simp; rfl) (rd_litI W k) (by simp [maxLen]; omega) (by simp; omega) (by simp; omega) ?_; intro D1 d1 w2 hown hgrow hat)
        have K2 := Lib.hid ((KW.out.alloc (.cells #[.int .i64 k] 2)).app hgrow (fun g hg => (own_row_lo HO.out g hg).1))
        have O2 := Lib.hid hown
        clear hown hgrow hat HO HK HW KW OW
        go_roundw
        case rel => exact ⟨k + 1, D1, d1, ks ++ [(k : Int)], by omega, by go_num, by simp, E, O2, K2⟩
        case measure => simp [intOf]; omega
      · have g : (x.up == n) = false := by simpa using hu
        have E : Hid (ks = kidsTo t n (k + 1)) := by show _ = _; rw [kidsTo_succ t n hlt, if_neg (by rw [← hx]; exact hu), HKS.out]
        clear hu hx hW
        go_wp2_with fail
        rw [← HW.out]
        go_roundw
        case rel => exact ⟨k + 1, D, d, ks, by omega, by go_num, rfl, E, OW, KW⟩
        case measure => simp [intOf]; omega
    · go_wp2
      go_ret
      rw [EL.out, ← kidsTo_all t n (k := k) (by omega), ← HKS.out]
      exact ⟨_, rfl, ⟨D, d, rfl, OwnZ.of_row HO.out⟩, HK.out⟩
end Go.Proofs.Ytlfbmjfbebbdlaa
