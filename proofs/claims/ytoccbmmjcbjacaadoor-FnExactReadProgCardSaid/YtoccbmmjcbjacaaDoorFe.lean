/- Chapter 9's reference: InsOk; no condition. -/
import Derived.Test.YtoccbmmjcbjacaaDoorFd
import Derived.Deep.DeepCutAuto
namespace Go.Proofs.YtoccbmmjcbjacaaDoor
open Go.RowKit Go.Sort

set_option maxHeartbeats 1600000 in
theorem insOk_any (i : Ins) (w : World) : Calls Tryd.prog 25 #[.agg #[.int .i64 i.op, .int .i64 i.a, .int .i64 i.b]] w fun e w' => e = .returned (.bool (insB i)) ∧ Kept 0 0 w w' := by
  obtain ⟨op, a, b⟩ := i
  obtain ⟨W, hW⟩ : ∃ W, W = w.alloc (.cells #[.int .i64 op, .int .i64 a, .int .i64 b] 43) := ⟨_, rfl⟩
  have KW : Hid (Kept 0 0 w W) := by show Kept _ _ _ _; rw [hW]; exact Kept.alloc0 _ _
  have B : Blk W w.heap.size 43 #[.int .i64 op, .int .i64 a, .int .i64 b] := by rw [hW]; exact Blk.new _ _ _
  have c0 := ins0 B
  have c1 := ins1 B
  have c2 := ins2 B
  have HW := Lib.hid hW
  clear hW B
  go_enter Tryd.func25, Tryd.ntmps25
  go_upto_region 1 with fail
  rw [← HW.out]
  clear HW
  by_cases h0 : op = 0
  · subst h0
    go_wp2_with fail
    with_reducible refine (l1In_any _ _ _ _).mono ?_
    rintro e w1 ⟨rfl, rfl⟩
    cases hb : (decide (((0) : Int) ≤ a) && decide (a ≤ (90 : Int)))
    · go_wp2_with fail
      go_ret
      exact ⟨ret_bool (by rw [Bool.eq_iff_iff]; simp [leashB, inI] at hb; simp [insB, inI, leashB] <;> omega), KW.out⟩
    · go_wp2_with fail
      go_ret
      exact ⟨ret_bool (by rw [Bool.eq_iff_iff]; simp [leashB, inI] at hb; simp [insB, inI, leashB] <;> omega), KW.out⟩
  by_cases h1 : op = 1
  · subst h1
    go_wp2_with fail
    with_reducible refine (leash_any _ _).mono ?_
    rintro e w1 ⟨rfl, rfl⟩
    cases hb : leashB a
    · go_wp2_with fail
      go_ret
      exact ⟨ret_bool (by rw [Bool.eq_iff_iff]; simp [leashB, inI] at hb; simp [insB, inI, leashB] <;> omega), KW.out⟩
    · go_wp2_with fail
      go_ret
      exact ⟨ret_bool (by rw [Bool.eq_iff_iff]; simp [leashB, inI] at hb; simp [insB, inI, leashB] <;> omega), KW.out⟩
  by_cases h2 : op = 2
  · subst h2
    go_wp2_with fail
    with_reducible refine (leash_any _ _).mono ?_
    rintro e w1 ⟨rfl, rfl⟩
    cases hb : leashB a
    · go_wp2_with fail
      go_ret
      exact ⟨ret_bool (by rw [Bool.eq_iff_iff]; simp [leashB, inI] at hb; simp [insB, inI, leashB] <;> omega), KW.out⟩
    · go_wp2_with fail
      go_ret
      exact ⟨ret_bool (by rw [Bool.eq_iff_iff]; simp [leashB, inI] at hb; simp [insB, inI, leashB] <;> omega), KW.out⟩
  by_cases h9 : op = 9
  · subst h9
    go_wp2_with fail
    with_reducible refine (leash_any _ _).mono ?_
    rintro e w1 ⟨rfl, rfl⟩
    cases hb : leashB a
    · go_wp2_with fail
      go_ret
      exact ⟨ret_bool (by rw [Bool.eq_iff_iff]; simp [leashB, inI] at hb; simp [insB, inI, leashB] <;> omega), KW.out⟩
    · go_wp2_with fail
      go_ret
      exact ⟨ret_bool (by rw [Bool.eq_iff_iff]; simp [leashB, inI] at hb; simp [insB, inI, leashB] <;> omega), KW.out⟩
  by_cases h3 : op = 3
  · subst h3
    go_wp2_with fail
    with_reducible refine (leash_any _ _).mono ?_
    rintro e w1 ⟨rfl, rfl⟩
    cases hb : leashB a
    · go_wp2_with fail
      go_ret
      exact ⟨ret_bool (by rw [Bool.eq_iff_iff]; simp [leashB, inI] at hb; simp [insB, inI, leashB] <;> omega), KW.out⟩
    · go_wp2_with fail
      with_reducible refine (l1In_any _ _ _ _).mono ?_
      rintro e w1 ⟨rfl, rfl⟩
      go_wp2_with fail
      go_ret
      exact ⟨ret_bool (by rw [Bool.eq_iff_iff]; simp [leashB, inI] at hb; simp [insB, inI, leashB] <;> omega), KW.out⟩
  by_cases h4 : op = 4
  · subst h4
    go_wp2_with fail
    with_reducible refine (leash_any _ _).mono ?_
    rintro e w1 ⟨rfl, rfl⟩
    cases hb : leashB a
    · go_wp2_with fail
      go_ret
      exact ⟨ret_bool (by rw [Bool.eq_iff_iff]; simp [leashB, inI] at hb; simp [insB, inI, leashB] <;> omega), KW.out⟩
    · go_wp2_with fail
      with_reducible refine (l1In_any _ _ _ _).mono ?_
      rintro e w1 ⟨rfl, rfl⟩
      go_wp2_with fail
      go_ret
      exact ⟨ret_bool (by rw [Bool.eq_iff_iff]; simp [leashB, inI] at hb; simp [insB, inI, leashB] <;> omega), KW.out⟩
  by_cases h5 : op = 5
  · subst h5
    go_wp2_with fail
    with_reducible refine (l1In_any _ _ _ _).mono ?_
    rintro e w1 ⟨rfl, rfl⟩
    cases hb : (decide (((0) : Int) ≤ a) && decide (a ≤ (12 : Int)))
    · go_wp2_with fail
      go_ret
      exact ⟨ret_bool (by rw [Bool.eq_iff_iff]; simp [leashB, inI] at hb; simp [insB, inI, leashB] <;> omega), KW.out⟩
    · go_wp2_with fail
      go_ret
      exact ⟨ret_bool (by rw [Bool.eq_iff_iff]; simp [leashB, inI] at hb; simp [insB, inI, leashB] <;> omega), KW.out⟩
  by_cases h6 : op = 6
  · subst h6
    go_wp2_with fail
    with_reducible refine (l1In_any _ _ _ _).mono ?_
    rintro e w1 ⟨rfl, rfl⟩
    cases hb : (decide (((0) : Int) ≤ a) && decide (a ≤ (7 : Int)))
    · go_wp2_with fail
      go_ret
      exact ⟨ret_bool (by rw [Bool.eq_iff_iff]; simp [leashB, inI] at hb; simp [insB, inI, leashB] <;> omega), KW.out⟩
    · go_wp2_with fail
      with_reducible refine (l1In_any _ _ _ _).mono ?_
      rintro e w1 ⟨rfl, rfl⟩
      go_wp2_with fail
      go_ret
      exact ⟨ret_bool (by rw [Bool.eq_iff_iff]; simp [leashB, inI] at hb; simp [insB, inI, leashB] <;> omega), KW.out⟩
  by_cases h7 : op = 7
  · subst h7
    go_wp2_with fail
    with_reducible refine (l1In_any _ _ _ _).mono ?_
    rintro e w1 ⟨rfl, rfl⟩
    cases hb : (decide (((0) : Int) ≤ a) && decide (a ≤ (7 : Int)))
    · go_wp2_with fail
      go_ret
      exact ⟨ret_bool (by rw [Bool.eq_iff_iff]; simp [leashB, inI] at hb; simp [insB, inI, leashB] <;> omega), KW.out⟩
    · go_wp2_with fail
      with_reducible refine (l1In_any _ _ _ _).mono ?_
      rintro e w1 ⟨rfl, rfl⟩
      go_wp2_with fail
      go_ret
      exact ⟨ret_bool (by rw [Bool.eq_iff_iff]; simp [leashB, inI] at hb; simp [insB, inI, leashB] <;> omega), KW.out⟩
  by_cases h8 : op = 8
  · subst h8
    go_wp2_with fail
    with_reducible refine (l1In_any _ _ _ _).mono ?_
    rintro e w1 ⟨rfl, rfl⟩
    cases hb : (decide (((0) : Int) ≤ a) && decide (a ≤ (7 : Int)))
    · go_wp2_with fail
      go_ret
      exact ⟨ret_bool (by rw [Bool.eq_iff_iff]; simp [leashB, inI] at hb; simp [insB, inI, leashB] <;> omega), KW.out⟩
    · go_wp2_with fail
      go_ret
      exact ⟨ret_bool (by rw [Bool.eq_iff_iff]; simp [leashB, inI] at hb; simp [insB, inI, leashB] <;> omega), KW.out⟩
  by_cases h10 : op = 10
  · subst h10
    go_wp2_with fail
    with_reducible refine (leash_any _ _).mono ?_
    rintro e w1 ⟨rfl, rfl⟩
    cases hb : leashB a
    · go_wp2_with fail
      go_ret
      exact ⟨ret_bool (by rw [Bool.eq_iff_iff]; simp [leashB, inI] at hb; simp [insB, inI, leashB] <;> omega), KW.out⟩
    · go_wp2_with fail
      with_reducible refine (l1In_any _ _ _ _).mono ?_
      rintro e w1 ⟨rfl, rfl⟩
      go_wp2_with fail
      go_ret
      exact ⟨ret_bool (by rw [Bool.eq_iff_iff]; simp [leashB, inI] at hb; simp [insB, inI, leashB] <;> omega), KW.out⟩
  go_wp2_with fail
  go_ret
  exact ⟨ret_bool (by simp [insB, *]), KW.out⟩
end Go.Proofs.YtoccbmmjcbjacaaDoor
