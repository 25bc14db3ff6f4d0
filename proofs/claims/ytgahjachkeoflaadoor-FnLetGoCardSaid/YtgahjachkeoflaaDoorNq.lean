/- The program's TreeOk, hasNode and ChildrenOf; no condition beyond that the slice can be read. -/
import Derived.Test.YtgahjachkeoflaaDoorNp
namespace Go.Proofs.YtgahjachkeoflaaDoor
open Go.RowKit Go.Sort

set_option maxHeartbeats 3200000 in
theorem implTreeOk (t : List Nd) (v : Value) (w : World) (h : RdNd w w.heap.size v t) :
    Calls Tryd.prog 58 #[v] w fun e w' => e = .returned (.bool (treeB t)) ∧ Kept 0 0 w w' := by
  have hm := h.len
  unfold maxLen at hm
  obtain ⟨A, c, rfl, h⟩ := h
  have H := Lib.hid h.rd
  clear h
  rcases Nat.lt_or_ge 60 t.length with hl | hl
  · have E := Lib.hid (not_tree_len hl)
    have g1 : decide ((60 : Int) < (t.length : Int)) = true := by simp; omega
    clear hl
    go_enter Tryd.func58, Tryd.ntmps58
    go_wp2
    go_ret
    exact ⟨ret_bool E.out.symm, Kept.refl _ _ _⟩
  have g1 : decide ((60 : Int) < (t.length : Int)) = false := by simp; omega
  go_enter Tryd.func58, Tryd.ntmps58
  go_wp2
  go_loopw [10] (fun i wr => ∃ k : Nat, k ≤ t.length ∧ i = .int .i64 k ∧ Hid (PreT t k) ∧ Hid (Kept 0 0 w wr)) (fun i _ => t.length - (intOf i).toNat)
  case atStart => exact ⟨0, Nat.zero_le _, rfl, Lib.hid (PreT.zero t), Lib.hid (Kept.refl _ _ _)⟩
  case round =>
    obtain ⟨k, hk, rfl, HP, HK⟩ := hrel
    by_cases hlt : k < t.length
    · obtain ⟨ad, rfl, _, c0, c1, c2, c3, c4⟩ := (H.out.kept (Nat.le_refl _) HK.out (.inl (Nat.le_refl _))).nd hlt
      have i1 : (k : Int) < (t.length : Int) := by omega
      obtain ⟨x, hx⟩ : ∃ x, x = t[k] := ⟨_, rfl⟩
      have HX := Lib.hid hx
      rw [← hx] at c0 c1 c2 c3 c4
      clear hx
      obtain ⟨W, hW⟩ : ∃ W, W = wr.alloc (.cells #[.int .i64 x.kind, .int .i64 x.up, .int .i64 x.due, .int .i64 x.key, .int .i64 x.value] 80) := ⟨_, rfl⟩
      have KW : Hid (Kept 0 0 w W) := by show Kept _ _ _ _; rw [hW]; exact HK.out.alloc _
      have B0 : Hid (Blk W wr.heap.size 80 #[.int .i64 x.kind, .int .i64 x.up, .int .i64 x.due, .int .i64 x.key, .int .i64 x.value]) := by show Blk _ _ _ _; rw [hW]; exact Blk.new _ _ _
      have HW := Lib.hid hW
      clear hW
      go_wp2_with fail
      rw [← HW.out]
      with_reducible refine (isNode_any x _).mono ?_
      rintro e w1 ⟨rfl, hk1⟩
      have b := B0.out.kept hk1 (.inl (Nat.le_refl _))
      have b0 := b.cell 0
      have b1 := b.cell 1
      have b2 := b.cell 2
      have b3 := b.cell 3
      have b4 := b.cell 4
      have K1 := Lib.hid (KW.out.trans hk1)
      clear hk1 c0 c1 c2 c3 c4 HK b B0 HW KW
      cases q1 : nodeB x
      · have E : Hid (treeB t = false) := not_tree_node hlt (by rw [← HX.out]; exact q1)
        clear q1
        go_wp2
        go_ret
        exact ⟨ret_bool E.out.symm, K1.out⟩
      · have Q1 := Lib.hid q1
        clear q1
        go_wp2_with fail
        with_reducible refine (mayHang_any x k _).mono ?_
        rintro e w2 ⟨rfl, hk2⟩
        have K2 := Lib.hid (K1.out.trans hk2)
        clear hk2 b0 b1 b2 b3 b4
        cases q2 : hangB x k
        · have E : Hid (treeB t = false) := not_tree_hang hlt (by rw [← HX.out]; exact q2)
          clear q2
          go_wp2
          go_ret
          exact ⟨ret_bool E.out.symm, K2.out⟩
        · have HP' : Hid (PreT t (k + 1)) := HP.out.succ hlt (by rw [← HX.out]; exact Q1.out) (by rw [← HX.out]; exact q2)
          clear q2 HP
          go_wp2
          go_roundw
          case rel => exact ⟨k + 1, by omega, by go_num, HP', K2⟩
          case measure => simp [intOf]; omega
    · go_wp2
      go_ret
      exact ⟨ret_bool (HP.out.all hl (by omega)).symm, HK.out⟩

set_option maxHeartbeats 800000 in
theorem implHas (t : List Nd) (n : Int) (v : Value) (w : World) (h : RdNd w w.heap.size v t) :
    Calls Tryd.prog 88 #[v, .int .i64 n] w fun e w' => e = .returned (.bool (hasB t n)) ∧ Kept 0 0 w w' := by
  have hm := h.len
  unfold maxLen at hm
  have CO := Lib.hid (implTreeOk t v w h)
  obtain ⟨A, c, rfl, h⟩ := h
  clear h
  have E : Hid (hasB t n = (treeB t && (decide (0 ≤ n) && decide (n ≤ (t.length : Int) - 1)))) := rfl
  cases q1 : treeB t
  · rw [q1, Bool.false_and] at E
    rw [q1] at CO
    clear q1
    go_enter Tryd.func88, Tryd.ntmps88
    go_wp2_with fail
    with_reducible refine CO.out.mono ?_
    rintro e w1 ⟨rfl, hk⟩
    have K := Lib.hid hk
    clear hk CO
    go_wp2
    go_ret
    exact ⟨ret_bool E.out.symm, K.out⟩
  · rw [q1, Bool.true_and] at E
    rw [q1] at CO
    clear q1
    by_cases h0 : 0 ≤ n
    · have g0 : decide (0 ≤ n) = true := by simpa using h0
      by_cases h1 : n < t.length
      · have g1 : decide (n < (t.length : Int)) = true := by simpa using h1
        rw [g0, decide_eq_true (by omega : n ≤ (t.length : Int) - 1)] at E
        clear h0 h1
        go_enter Tryd.func88, Tryd.ntmps88
        go_wp2_with fail
        with_reducible refine CO.out.mono ?_
        rintro e w1 ⟨rfl, hk⟩
        have K := Lib.hid hk
        clear hk CO
        go_wp2
        go_ret
        exact ⟨ret_bool E.out.symm, K.out⟩
      · have g1 : decide (n < (t.length : Int)) = false := by simp; omega
        rw [g0, decide_eq_false (by omega : ¬ n ≤ (t.length : Int) - 1)] at E
        clear h0 h1
        go_enter Tryd.func88, Tryd.ntmps88
        go_wp2_with fail
        with_reducible refine CO.out.mono ?_
        rintro e w1 ⟨rfl, hk⟩
        have K := Lib.hid hk
        clear hk CO
        go_wp2
        go_ret
        exact ⟨ret_bool E.out.symm, K.out⟩
    · have g0 : decide (0 ≤ n) = false := by simpa using h0
      rw [g0, Bool.false_and] at E
      clear h0
      go_enter Tryd.func88, Tryd.ntmps88
      go_wp2_with fail
      with_reducible refine CO.out.mono ?_
      rintro e w1 ⟨rfl, hk⟩
      have K := Lib.hid hk
      clear hk CO
      go_wp2
      go_ret
      exact ⟨ret_bool E.out.symm, K.out⟩

end Go.Proofs.YtgahjachkeoflaaDoor
