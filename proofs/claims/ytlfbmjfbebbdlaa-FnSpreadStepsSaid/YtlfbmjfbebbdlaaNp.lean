/- The program's functions of trees: validity, presence of a node, children; no condition beyond that the slices can be read. -/
import Derived.Test.YtlfbmjfbebbdlaaNv
namespace Go.Proofs.Ytlfbmjfbebbdlaa
open Go.RowKit Go.Sort

theorem nodeB_iff {x : Nd} : nodeB x = true ↔ (x.kind = 2 ∨ x.due = 9223372036854775807) ∧ ((x.kind = 3 ∧ 1 ≤ x.key ∧ x.key ≤ 9 ∧ 0 ≤ x.value ∧ x.value ≤ 999) ∨ (x.kind ≠ 3 ∧ 0 ≤ x.kind ∧ x.kind ≤ 4 ∧ x.key = 0 ∧ x.value = 0)) := by
  unfold nodeB
  split <;> simp only [Bool.and_eq_true, Bool.or_eq_true, decide_eq_true_eq] <;> omega
theorem hangB_iff {x : Nd} {i : Nat} : hangB x i = true ↔ (x.kind = 0 ∧ x.up = -1) ∨ (x.kind ≠ 0 ∧ 0 ≤ x.up ∧ x.up < (i : Int)) := by
  unfold hangB
  split <;> simp only [Bool.and_eq_true, decide_eq_true_eq] <;> omega

set_option maxHeartbeats 1600000 in
theorem isNode_any (x : Nd) (w : World) :
    Calls Try.prog 72 #[.agg #[.int .i64 x.kind, .int .i64 x.up, .int .i64 x.due, .int .i64 x.key, .int .i64 x.value]] w fun e w' => e = .returned (.bool (nodeB x)) ∧ Kept 0 0 w w' := by
  by_cases h0 : x.kind < 0
  · have g0 : decide (x.kind < 0) = true := by simp; omega
    have E : Hid (nodeB x = false) := Bool.eq_false_iff.2 fun h => by have := nodeB_iff.1 h; omega
    clear h0
    go_enter Try.func72, Try.ntmps72
    go_wp2
    go_ret
    exact ⟨ret_bool E.out.symm, Kept.alloc0 _ _⟩
  · have g0 : decide (x.kind < 0) = false := by simp; omega
    by_cases h1 : 4 < x.kind
    · have g1 : decide (4 < x.kind) = true := by simp; omega
      have E : Hid (nodeB x = false) := Bool.eq_false_iff.2 fun h => by have := nodeB_iff.1 h; omega
      clear h0 h1
      go_enter Try.func72, Try.ntmps72
      go_wp2
      go_ret
      exact ⟨ret_bool E.out.symm, Kept.alloc0 _ _⟩
    · have g1 : decide (4 < x.kind) = false := by simp; omega
      by_cases h2 : x.kind = 2
      · have g2 : (x.kind != 2) = false := by simp; omega
        have g3 : (x.kind != 3) = true := by rw [h2]; rfl
        by_cases h3 : x.key = 0
        · have g3 : (x.key == 0) = true := by simp; omega
          by_cases h4 : x.value = 0
          · have g4 : (x.value == 0) = true := by simp; omega
            have E : Hid (nodeB x = true) := nodeB_iff.2 (by omega)
            clear h0 h1 h2 h3 h4
            go_enter Try.func72, Try.ntmps72
            go_wp2
            go_ret
            exact ⟨ret_bool E.out.symm, Kept.alloc0 _ _⟩
          · have g4 : (x.value == 0) = false := by simp; omega
            have E : Hid (nodeB x = false) := Bool.eq_false_iff.2 fun h => by have := nodeB_iff.1 h; omega
            clear h0 h1 h2 h3 h4
            go_enter Try.func72, Try.ntmps72
            go_wp2
            go_ret
            exact ⟨ret_bool E.out.symm, Kept.alloc0 _ _⟩
        · have g3 : (x.key == 0) = false := by simp; omega
          have E : Hid (nodeB x = false) := Bool.eq_false_iff.2 fun h => by have := nodeB_iff.1 h; omega
          clear h0 h1 h2 h3
          go_enter Try.func72, Try.ntmps72
          go_wp2
          go_ret
          exact ⟨ret_bool E.out.symm, Kept.alloc0 _ _⟩
      · have g2 : (x.kind != 2) = true := by simp; omega
        by_cases h3 : x.due = 9223372036854775807
        · have g3 : (x.due != 9223372036854775807) = false := by simp; omega
          by_cases h4 : x.kind = 3
          · have g4 : (x.kind != 3) = false := by simp; omega
            by_cases h5 : 1 ≤ x.key
            · have g5 : decide (1 ≤ x.key) = true := by simp; omega
              by_cases h6 : x.key ≤ 9
              · have g6 : decide (x.key ≤ 9) = true := by simp; omega
                by_cases h7 : 0 ≤ x.value
                · have g7 : decide (0 ≤ x.value) = true := by simp; omega
                  by_cases h8 : x.value ≤ 999
                  · have g8 : decide (x.value ≤ 999) = true := by simp; omega
                    have E : Hid (nodeB x = true) := nodeB_iff.2 (by omega)
                    clear h0 h1 h2 h3 h4 h5 h6 h7 h8
                    go_enter Try.func72, Try.ntmps72
                    go_wp2
                    go_ret
                    exact ⟨ret_bool E.out.symm, Kept.alloc0 _ _⟩
                  · have g8 : decide (x.value ≤ 999) = false := by simp; omega
                    have E : Hid (nodeB x = false) := Bool.eq_false_iff.2 fun h => by have := nodeB_iff.1 h; omega
                    clear h0 h1 h2 h3 h4 h5 h6 h7 h8
                    go_enter Try.func72, Try.ntmps72
                    go_wp2
                    go_ret
                    exact ⟨ret_bool E.out.symm, Kept.alloc0 _ _⟩
                · have g7 : decide (0 ≤ x.value) = false := by simp; omega
                  have E : Hid (nodeB x = false) := Bool.eq_false_iff.2 fun h => by have := nodeB_iff.1 h; omega
                  clear h0 h1 h2 h3 h4 h5 h6 h7
                  go_enter Try.func72, Try.ntmps72
                  go_wp2
                  go_ret
                  exact ⟨ret_bool E.out.symm, Kept.alloc0 _ _⟩
              · have g6 : decide (x.key ≤ 9) = false := by simp; omega
                have E : Hid (nodeB x = false) := Bool.eq_false_iff.2 fun h => by have := nodeB_iff.1 h; omega
                clear h0 h1 h2 h3 h4 h5 h6
                go_enter Try.func72, Try.ntmps72
                go_wp2
                go_ret
                exact ⟨ret_bool E.out.symm, Kept.alloc0 _ _⟩
            · have g5 : decide (1 ≤ x.key) = false := by simp; omega
              have E : Hid (nodeB x = false) := Bool.eq_false_iff.2 fun h => by have := nodeB_iff.1 h; omega
              clear h0 h1 h2 h3 h4 h5
              go_enter Try.func72, Try.ntmps72
              go_wp2
              go_ret
              exact ⟨ret_bool E.out.symm, Kept.alloc0 _ _⟩
          · have g4 : (x.kind != 3) = true := by simp; omega
            by_cases h5 : x.key = 0
            · have g5 : (x.key == 0) = true := by simp; omega
              by_cases h6 : x.value = 0
              · have g6 : (x.value == 0) = true := by simp; omega
                have E : Hid (nodeB x = true) := nodeB_iff.2 (by omega)
                clear h0 h1 h2 h3 h4 h5 h6
                go_enter Try.func72, Try.ntmps72
                go_wp2
                go_ret
                exact ⟨ret_bool E.out.symm, Kept.alloc0 _ _⟩
              · have g6 : (x.value == 0) = false := by simp; omega
                have E : Hid (nodeB x = false) := Bool.eq_false_iff.2 fun h => by have := nodeB_iff.1 h; omega
                clear h0 h1 h2 h3 h4 h5 h6
                go_enter Try.func72, Try.ntmps72
                go_wp2
                go_ret
                exact ⟨ret_bool E.out.symm, Kept.alloc0 _ _⟩
            · have g5 : (x.key == 0) = false := by simp; omega
              have E : Hid (nodeB x = false) := Bool.eq_false_iff.2 fun h => by have := nodeB_iff.1 h; omega
              clear h0 h1 h2 h3 h4 h5
              go_enter Try.func72, Try.ntmps72
              go_wp2
              go_ret
              exact ⟨ret_bool E.out.symm, Kept.alloc0 _ _⟩
        · have g3 : (x.due != 9223372036854775807) = true := by simp; omega
          have E : Hid (nodeB x = false) := Bool.eq_false_iff.2 fun h => by have := nodeB_iff.1 h; omega
          clear h0 h1 h2 h3
          go_enter Try.func72, Try.ntmps72
          go_wp2
          go_ret
          exact ⟨ret_bool E.out.symm, Kept.alloc0 _ _⟩

set_option maxHeartbeats 1600000 in
theorem mayHang_any (x : Nd) (i : Nat) (w : World) :
    Calls Try.prog 73 #[.agg #[.int .i64 x.kind, .int .i64 x.up, .int .i64 x.due, .int .i64 x.key, .int .i64 x.value], .int .i64 i] w fun e w' => e = .returned (.bool (hangB x i)) ∧ Kept 0 0 w w' := by
  by_cases h0 : x.kind = 0
  · have g0 : (x.kind == 0) = true := by simp; omega
    by_cases h1 : x.up = -1
    · have g1 : (x.up == -1) = true := by simp; omega
      have E : Hid (hangB x i = true) := hangB_iff.2 (by omega)
      clear h0 h1
      go_enter Try.func73, Try.ntmps73
      go_wp2
      go_ret
      exact ⟨ret_bool E.out.symm, Kept.alloc0 _ _⟩
    · have g1 : (x.up == -1) = false := by simp; omega
      have E : Hid (hangB x i = false) := Bool.eq_false_iff.2 fun h => by have := hangB_iff.1 h; omega
      clear h0 h1
      go_enter Try.func73, Try.ntmps73
      go_wp2
      go_ret
      exact ⟨ret_bool E.out.symm, Kept.alloc0 _ _⟩
  · have g0 : (x.kind == 0) = false := by simp; omega
    by_cases h1 : 0 ≤ x.up
    · have g1 : decide (0 ≤ x.up) = true := by simp; omega
      by_cases h2 : x.up < (i : Int)
      · have g2 : decide (x.up < (i : Int)) = true := by simp; omega
        have E : Hid (hangB x i = true) := hangB_iff.2 (by omega)
        clear h0 h1 h2
        go_enter Try.func73, Try.ntmps73
        go_wp2
        go_ret
        exact ⟨ret_bool E.out.symm, Kept.alloc0 _ _⟩
      · have g2 : decide (x.up < (i : Int)) = false := by simp; omega
        have E : Hid (hangB x i = false) := Bool.eq_false_iff.2 fun h => by have := hangB_iff.1 h; omega
        clear h0 h1 h2
        go_enter Try.func73, Try.ntmps73
        go_wp2
        go_ret
        exact ⟨ret_bool E.out.symm, Kept.alloc0 _ _⟩
    · have g1 : decide (0 ≤ x.up) = false := by simp; omega
      have E : Hid (hangB x i = false) := Bool.eq_false_iff.2 fun h => by have := hangB_iff.1 h; omega
      clear h0 h1
      go_enter Try.func73, Try.ntmps73
      go_wp2
      go_ret
      exact ⟨ret_bool E.out.symm, Kept.alloc0 _ _⟩
end Go.Proofs.Ytlfbmjfbebbdlaa
