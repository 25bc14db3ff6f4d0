/- The reference's functions of trees: validity, presence of a node, copies; no condition beyond that the slices can be read. -/
import Derived.Test.YtlfbmjfbebbdlaaNt
import Derived.Test.YtlfbmjfbebbdlaaNi
import Derived.Deep.CondSized
import Derived.OwnWalk
import Derived.Deep.DeepCutAuto
namespace Go.Proofs.Ytlfbmjfbebbdlaa
open Go.RowKit Go.Sort

theorem l1In_any (x lo hi : Int) (w : World) :
    Calls Try.prog 35 #[.int .i64 x, .int .i64 lo, .int .i64 hi] w fun e w' => e = .returned (.bool (decide (lo ≤ x) && decide (x ≤ hi))) ∧ w = w' := by
  by_cases h1 : lo ≤ x
  · have g1 : decide (lo ≤ x) = true := by simpa using h1
    go_enter Try.func35, Try.ntmps35
    go_wp2
    go_ret
    exact ⟨by simp [h1], rfl⟩
  · have g1 : decide (lo ≤ x) = false := by simpa using h1
    go_enter Try.func35, Try.ntmps35
    go_wp2
    go_ret
    exact ⟨ret_bool (by first | rfl | (rw [g1]; rfl)), rfl⟩

set_option maxHeartbeats 800000 in
theorem node5_any (x : Nd) (w : World) :
    Calls Try.prog 34 #[.agg #[.int .i64 x.kind, .int .i64 x.up, .int .i64 x.due, .int .i64 x.key, .int .i64 x.value]] w fun e w' => e = .returned (.bool (nodeB x)) ∧ Kept 0 0 w w' := by
  by_cases hd : x.kind ≠ 2 ∧ x.due ≠ 9223372036854775807
  · have E : Hid (nodeB x = false) := by show _ = _; simp [nodeB, hd.1, hd.2]
    have g1 : (x.kind != 2) = true := by simpa using hd.1
    have g2 : (x.due != 9223372036854775807) = true := by simpa using hd.2
    clear hd
    go_enter Try.func34, Try.ntmps34
    go_wp2
    go_ret
    exact ⟨ret_bool E.out.symm, Kept.alloc0 _ _⟩
  have hd' : (decide (x.kind = 2) || decide (x.due = 9223372036854775807)) = true := by
    simp only [Bool.or_eq_true, decide_eq_true_eq]
    by_cases h2 : x.kind = 2
    · exact .inl h2
    · right; by_cases h3 : x.due = 9223372036854775807
      · exact h3
      · exact absurd ⟨h2, h3⟩ hd
  have G : Hid (((x.kind != 2) && (x.due != 9223372036854775807)) = false) := by
    show _ = _
    rcases Bool.or_eq_true _ _ |>.mp hd' with h | h
    · have := of_decide_eq_true h; simp [this]
    · have := of_decide_eq_true h; simp [this]
  have HD := Lib.hid hd'
  clear hd hd'
  by_cases hk : x.kind = 3
  · have g1 : (x.kind == 3) = true := by simpa using hk
    have g0 : (x.kind != 2) = true := by simp [hk]
    have g2 : (x.due != 9223372036854775807) = false := by have := G.out; rwa [g0, Bool.true_and] at this
    have E : Hid (nodeB x = ((decide (1 ≤ x.key) && decide (x.key ≤ 9)) && (decide (0 ≤ x.value) && decide (x.value ≤ 999)))) := by show _ = _; rw [nodeB, HD.out, if_pos hk, Bool.true_and]
    clear hk
    go_enter Try.func34, Try.ntmps34
    go_wp2_with fail
    with_reducible refine (l1In_any _ _ _ _).mono ?_
    rintro e w' ⟨rfl, rfl⟩
    cases q1 : (decide (1 ≤ x.key) && decide (x.key ≤ 9))
    · rw [q1, Bool.false_and] at E
      clear q1
      go_wp2
      go_ret
      exact ⟨ret_bool E.out.symm, Kept.alloc0 _ _⟩
    · rw [q1, Bool.true_and] at E
      clear q1
      go_wp2_with fail
      with_reducible refine (l1In_any _ _ _ _).mono ?_
      rintro e w' ⟨rfl, rfl⟩
      rw [← E.out]
      go_wp2
      go_ret
      exact ⟨rfl, Kept.alloc0 _ _⟩
  · have g1 : (x.kind == 3) = false := by simpa using hk
    have E : Hid (nodeB x = ((decide (0 ≤ x.kind) && decide (x.kind ≤ 4)) && (decide (x.key = 0) && decide (x.value = 0)))) := by show _ = _; rw [nodeB, HD.out, if_neg hk, Bool.true_and]
    clear hk
    cases g0 : (x.kind != 2)
    · skip
      go_enter Try.func34, Try.ntmps34
      go_wp2_with fail
      with_reducible refine (l1In_any _ _ _ _).mono ?_
      rintro e w' ⟨rfl, rfl⟩
      cases q1 : (decide (0 ≤ x.kind) && decide (x.kind ≤ 4))
      · rw [q1, Bool.false_and] at E
        clear q1
        go_wp2
        go_ret
        exact ⟨ret_bool E.out.symm, Kept.alloc0 _ _⟩
      · rw [q1, Bool.true_and] at E
        clear q1
        by_cases h1 : x.key = 0
        · have q2 : (x.key == 0) = true := by simpa using h1
          rw [decide_eq_true h1, Bool.true_and] at E
          by_cases h2 : x.value = 0
          · have q3 : (x.value == 0) = true := by simpa using h2
            rw [decide_eq_true h2] at E
            clear h1 h2
            go_wp2
            go_ret
            exact ⟨ret_bool E.out.symm, Kept.alloc0 _ _⟩
          · have q3 : (x.value == 0) = false := by simpa using h2
            rw [decide_eq_false h2] at E
            clear h1 h2
            go_wp2
            go_ret
            exact ⟨ret_bool E.out.symm, Kept.alloc0 _ _⟩
        · have q2 : (x.key == 0) = false := by simpa using h1
          rw [decide_eq_false h1, Bool.false_and] at E
          clear h1
          go_wp2
          go_ret
          exact ⟨ret_bool E.out.symm, Kept.alloc0 _ _⟩
    · have g2 : (x.due != 9223372036854775807) = false := by have := G.out; rwa [g0, Bool.true_and] at this
      go_enter Try.func34, Try.ntmps34
      go_wp2_with fail
      with_reducible refine (l1In_any _ _ _ _).mono ?_
      rintro e w' ⟨rfl, rfl⟩
      cases q1 : (decide (0 ≤ x.kind) && decide (x.kind ≤ 4))
      · rw [q1, Bool.false_and] at E
        clear q1
        go_wp2
        go_ret
        exact ⟨ret_bool E.out.symm, Kept.alloc0 _ _⟩
      · rw [q1, Bool.true_and] at E
        clear q1
        by_cases h1 : x.key = 0
        · have q2 : (x.key == 0) = true := by simpa using h1
          rw [decide_eq_true h1, Bool.true_and] at E
          by_cases h2 : x.value = 0
          · have q3 : (x.value == 0) = true := by simpa using h2
            rw [decide_eq_true h2] at E
            clear h1 h2
            go_wp2
            go_ret
            exact ⟨ret_bool E.out.symm, Kept.alloc0 _ _⟩
          · have q3 : (x.value == 0) = false := by simpa using h2
            rw [decide_eq_false h2] at E
            clear h1 h2
            go_wp2
            go_ret
            exact ⟨ret_bool E.out.symm, Kept.alloc0 _ _⟩
        · have q2 : (x.key == 0) = false := by simpa using h1
          rw [decide_eq_false h1, Bool.false_and] at E
          clear h1
          go_wp2
          go_ret
          exact ⟨ret_bool E.out.symm, Kept.alloc0 _ _⟩

set_option maxHeartbeats 1600000 in
theorem tree5_any (t : List Nd) (v : Value) (w : World) (h : RdNd w w.heap.size v t) :
    Calls Try.prog 11 #[v] w fun e w' => e = .returned (.bool (treeB t)) ∧ Kept 0 0 w w' := by
  have hm := h.len
  unfold maxLen at hm
  obtain ⟨A, c, rfl, h⟩ := h
  have H := Lib.hid h.rd
  clear h
  rcases Nat.lt_or_ge 60 t.length with hl | hl
  · have E := Lib.hid (not_tree_len hl)
    have g1 : decide ((60 : Int) < (t.length : Int)) = true := by simp; omega
    clear hl
    go_enter Try.func11, Try.ntmps11
    go_wp2
    go_ret
    exact ⟨ret_bool E.out.symm, Kept.refl _ _ _⟩
  have g1 : decide ((60 : Int) < (t.length : Int)) = false := by simp; omega
  go_enter Try.func11, Try.ntmps11
  go_wp2
  go_loopw [3] (fun i wr => ∃ k : Nat, k ≤ t.length ∧ i = .int .i64 k ∧ Hid (PreT t k) ∧ Hid (Kept 0 0 w wr)) (fun i _ => t.length - (intOf i).toNat)
  case atStart => exact ⟨0, Nat.zero_le _, rfl, Lib.hid (PreT.zero t), Lib.hid (Kept.refl _ _ _)⟩
  case round =>
    obtain ⟨k, hk, rfl, HP, HK⟩ := hrel
    by_cases hlt : k < t.length
    · obtain ⟨ad, rfl, _, c0, c1, c2, c3, c4⟩ := (H.out.kept (Nat.le_refl _) HK.out (.inl (Nat.le_refl _))).nd hlt
      have i1 : (k : Int) < (t.length : Int) := by omega
      obtain ⟨x, hx⟩ : ∃ x, x = t[k] := ⟨_, rfl⟩
      have HX := Lib.hid hx
      rw [← hx] at c0 c1 c2 c3 c4
      clear hx
      go_wp2_with fail
      with_reducible refine (node5_any x _).mono ?_
      rintro e w1 ⟨rfl, hk1⟩
      have b0 := cell_kept hk1 c0
      have b1 := cell_kept hk1 c1
      have K1 := Lib.hid (HK.out.trans hk1)
      clear hk1 c0 c1 c2 c3 c4 HK
      cases q1 : nodeB x
      · have E : Hid (treeB t = false) := not_tree_node hlt (by rw [← HX.out]; exact q1)
        clear q1
        go_wp2
        go_ret
        exact ⟨ret_bool E.out.symm, K1.out⟩
      · by_cases h0 : x.kind = 0
        · have g0 : (x.kind == 0) = true := by simpa using h0
          by_cases hu : x.up = -1
          · have g2 : (x.up != -1) = false := by simp [hu]
            have HP' : Hid (PreT t (k + 1)) := HP.out.succ hlt (by rw [← HX.out]; exact q1) (by rw [← HX.out, hangB, if_pos h0]; simpa using hu)
            clear q1 h0 hu HP
            go_wp2
            go_roundw
            case rel => exact ⟨k + 1, by omega, by go_num, HP', K1⟩
            case measure => simp [intOf]; omega
          · have g2 : (x.up != -1) = true := by simpa using hu
            have E : Hid (treeB t = false) := not_tree_hang hlt (by rw [← HX.out, hangB, if_pos h0]; simpa using hu)
            clear q1 h0 hu
            go_wp2
            go_ret
            exact ⟨ret_bool E.out.symm, K1.out⟩
        · have g0 : (x.kind == 0) = false := by simpa using h0
          have HG : Hid (hangB x k = (decide (0 ≤ x.up) && decide (x.up ≤ (k : Int) - 1))) := by show _ = _; rw [hangB, if_neg h0]
          have Q1 := Lib.hid q1
          clear q1 h0
          go_wp2_with fail
          with_reducible refine (l1In_any _ _ _ _).mono ?_
          rintro e w' ⟨rfl, rfl⟩
          rw [← HG.out]
          cases q2 : hangB x k
          · have E : Hid (treeB t = false) := not_tree_hang hlt (by rw [← HX.out]; exact q2)
            clear q2
            go_wp2
            go_ret
            exact ⟨ret_bool E.out.symm, K1.out⟩
          · have HP' : Hid (PreT t (k + 1)) := HP.out.succ hlt (by rw [← HX.out]; exact Q1.out) (by rw [← HX.out]; exact q2)
            clear q2 HP
            go_wp2
            go_roundw
            case rel => exact ⟨k + 1, by omega, by go_num, HP', K1⟩
            case measure => simp [intOf]; omega
    · go_wp2
      go_ret
      exact ⟨ret_bool (HP.out.all hl (by omega)).symm, HK.out⟩

set_option maxHeartbeats 800000 in
theorem has5_any (t : List Nd) (n : Int) (v : Value) (w : World) (h : RdNd w w.heap.size v t) :
    Calls Try.prog 42 #[v, .int .i64 n] w fun e w' => e = .returned (.bool (hasB t n)) ∧ Kept 0 0 w w' := by
  have hm := h.len
  unfold maxLen at hm
  have CO := Lib.hid (tree5_any t v w h)
  obtain ⟨A, c, rfl, h⟩ := h
  clear h
  go_enter Try.func42, Try.ntmps42
  go_wp2_with fail
  with_reducible refine CO.out.mono ?_
  rintro e w1 ⟨rfl, hk⟩
  have K := Lib.hid hk
  have E : Hid (hasB t n = (treeB t && (decide (0 ≤ n) && decide (n ≤ (t.length : Int) - 1)))) := rfl
  clear hk CO
  cases q1 : treeB t
  · rw [q1, Bool.false_and] at E
    clear q1
    go_wp2
    go_ret
    exact ⟨ret_bool E.out.symm, K.out⟩
  · have L : (t.length : Int) ≤ 60 := by have := (treeB_true.1 q1).len; omega
    rw [q1, Bool.true_and] at E
    clear q1
    go_wp2_with fail
    with_reducible refine (l1In_any _ _ _ _).mono ?_
    rintro e w' ⟨rfl, rfl⟩
    rw [← E.out]
    go_wp2
    go_ret
    exact ⟨rfl, K.out⟩

theorem own_emptyZ {w : World} {g base e size : Nat} (h : Blk w g e #[]) (hb : base ≤ g) : w.ownsRow base e size (.slice (some ⟨g, 0, none⟩) 0 0) 0 [] :=
  ⟨by simp, .inr ⟨g, 0, #[], rfl, hb, h, Nat.le_refl _, by unfold maxLen; omega, by simp, by simp⟩⟩
end Go.Proofs.Ytlfbmjfbebbdlaa
