/- Contracts of the functions of times, the program's and the reference's: each returns the same plain function of its numbers; condition: the numbers are int64. -/
import Derived.Test.YtlcnkcmgbambaaaRows
import Derived.WalkKit
import Derived.WalkSpells
import Derived.WalkLawsBesides
import Derived.IntWalk
import Derived.Lib.Hide
namespace Go.Proofs.Ytlcnkcmgbambaaa
open Go.RowKit

theorem ret_bool {a b : Bool} (h : a = b) : Ending.returned (.bool a) = .returned (.bool b) := by rw [h]
theorem ret_int {k : IntKind} {a b : Int} (h : a = b) : Ending.returned (.int k a) = .returned (.int k b) := by rw [h]

/-- A number that fits int64. -/
def Fits (x : Int) : Prop := -9223372036854775808 ≤ x ∧ x ≤ 9223372036854775807
/-- A number limited to int64. -/
def sat (x : Int) : Int := if 9223372036854775807 < x then 9223372036854775807 else if x < -9223372036854775808 then -9223372036854775808 else x
theorem sat_fits (x : Int) : Fits (sat x) := by unfold Fits sat; split <;> (try split) <;> omega

def lim (r s : Int) (b : Bool) : Int := if b && decide (r < s) then 9223372036854775807 else if !b && decide (s < r) then -9223372036854775808 else r

set_option maxHeartbeats 400000 in
theorem limited_any (r s : Int) (b : Bool) (w : World) :
    Calls Try.prog 22 #[.int .i64 r, .int .i64 s, .bool b] w fun e w' => e = .returned (.int .i64 (lim r s b)) ∧ w = w' := by
  cases b
  · by_cases h : s < r
    · have e : Hid (lim r s false = -9223372036854775808) := by show _ = _; simp [lim, h]
      have g : decide (s < r) = true := by simpa using h
      clear h
      go_enter Try.func22, Try.ntmps22
      go_wp2
      go_ret
      exact ⟨ret_int e.out.symm, rfl⟩
    · have e : Hid (lim r s false = r) := by show _ = _; simp [lim, h]
      have g : decide (s < r) = false := by simpa using h
      clear h
      go_enter Try.func22, Try.ntmps22
      go_wp2
      go_ret
      exact ⟨ret_int e.out.symm, rfl⟩
  · by_cases h : r < s
    · have e : Hid (lim r s true = 9223372036854775807) := by show _ = _; simp [lim, h]
      have g : decide (r < s) = true := by simpa using h
      clear h
      go_enter Try.func22, Try.ntmps22
      go_wp2
      go_ret
      exact ⟨ret_int e.out.symm, rfl⟩
    · have e : Hid (lim r s true = r) := by show _ = _; simp [lim, h]
      have g : decide (r < s) = false := by simpa using h
      clear h
      go_enter Try.func22, Try.ntmps22
      go_wp2
      go_ret
      exact ⟨ret_int e.out.symm, rfl⟩

theorem wrap_sum (t d : Int) : wrap64 (IntKind.u64.wrap (IntKind.u64.wrap t + IntKind.u64.wrap d)) = wrap64 (t + d) := by
  rw [IntKind.wrap_u64, IntKind.wrap_u64, IntKind.wrap_u64]; unfold wrap64; omega
theorem wrap_diff (t d : Int) : wrap64 (IntKind.u64.wrap (IntKind.u64.wrap t - IntKind.u64.wrap d)) = wrap64 (t - d) := by
  rw [IntKind.wrap_u64, IntKind.wrap_u64, IntKind.wrap_u64]; unfold wrap64; omega
theorem lim_up {t d : Int} (ht : Fits t) (hd : Fits d) (h : 0 ≤ d) : lim (wrap64 (t + d)) t true = sat (t + d) := by
  unfold Fits at ht hd
  unfold lim sat wrap64
  simp only [Bool.true_and, Bool.not_true, Bool.false_and, decide_eq_true_eq]
  split <;> (try split) <;> (try split) <;> first | omega | (exfalso; simp_all; done)
theorem lim_down {t d : Int} (ht : Fits t) (hd : Fits d) (h : d < 0) : lim (wrap64 (t + d)) t false = sat (t + d) := by
  unfold Fits at ht hd
  unfold lim sat wrap64
  simp only [Bool.true_and, Bool.not_false, Bool.false_and, decide_eq_true_eq]
  split <;> (try split) <;> (try split) <;> first | omega | (exfalso; simp_all; done)
theorem lim_downs {t d : Int} (ht : Fits t) (hd : Fits d) (h : 0 < d) : lim (wrap64 (t - d)) t false = sat (t - d) := by
  unfold Fits at ht hd
  unfold lim sat wrap64
  simp only [Bool.true_and, Bool.not_false, Bool.false_and, decide_eq_true_eq]
  split <;> (try split) <;> (try split) <;> first | omega | (exfalso; simp_all; done)
theorem lim_ups {t d : Int} (ht : Fits t) (hd : Fits d) (h : d ≤ 0) : lim (wrap64 (t - d)) t true = sat (t - d) := by
  unfold Fits at ht hd
  unfold lim sat wrap64
  simp only [Bool.true_and, Bool.not_true, Bool.false_and, decide_eq_true_eq]
  split <;> (try split) <;> (try split) <;> first | omega | (exfalso; simp_all; done)

set_option maxHeartbeats 400000 in
theorem later_impl (t d : Int) (ht : Fits t) (hd : Fits d) (w : World) :
    Calls Try.prog 12 #[.int .i64 t, .int .i64 d] w fun e w' => e = .returned (.int .i64 (sat (t + d))) ∧ w = w' := by
  have HT := Lib.hid ht
  have HD := Lib.hid hd
  clear ht hd
  go_enter Try.func12, Try.ntmps12
  go_wp2_with fail
  with_reducible refine (limited_any _ _ _ _).mono ?_
  rintro e w' ⟨rfl, rfl⟩
  go_wp2
  go_ret
  refine ⟨ret_int ?_, rfl⟩
  rw [wrap_sum]
  by_cases h : 0 ≤ d
  · rw [decide_eq_true h]; exact lim_up HT.out HD.out h
  · rw [decide_eq_false h]; exact lim_down HT.out HD.out (by omega)

set_option maxHeartbeats 400000 in
theorem between_impl (t u : Int) (ht : Fits t) (hu : Fits u) (w : World) :
    Calls Try.prog 14 #[.int .i64 t, .int .i64 u] w fun e w' => e = .returned (.int .i64 (sat (u - t))) ∧ w = w' := by
  have HT := Lib.hid ht
  have HU := Lib.hid hu
  clear ht hu
  go_enter Try.func14, Try.ntmps14
  go_wp2_with fail
  with_reducible refine (limited_any _ _ _ _).mono ?_
  rintro e w' ⟨rfl, rfl⟩
  go_wp2
  go_ret
  refine ⟨ret_int ?_, rfl⟩
  rw [wrap_diff]
  by_cases h : t ≤ 0
  · rw [decide_eq_true h]; exact lim_ups HU.out HT.out h
  · rw [decide_eq_false h]; exact lim_downs HU.out HT.out (by omega)

theorem least_any (w : World) : Calls Try.prog 23 #[] w fun e w' => e = .returned (.int .i64 (-9223372036854775808)) ∧ w = w' := by
  go_enter Try.func23, Try.ntmps23
  go_wp2
  go_ret
  exact ⟨rfl, rfl⟩

set_option maxHeartbeats 400000 in
theorem later_spec (t d : Int) (ht : Fits t) (hd : Fits d) (w : World) :
    Calls Try.prog 13 #[.int .i64 t, .int .i64 d] w fun e w' => e = .returned (.int .i64 (sat (t + d))) ∧ w = w' := by
  unfold Fits at ht hd
  by_cases h : 0 ≤ d
  · by_cases h1 : t > 9223372036854775807 - d
    · have e : Hid (sat (t + d) = 9223372036854775807) := by show _ = _; unfold sat; omega
      go_enter Try.func13, Try.ntmps13
      go_wp2
      go_ret
      exact ⟨ret_int e.out.symm, rfl⟩
    · have e : Hid (sat (t + d) = t + d) := by show _ = _; unfold sat; omega
      go_enter Try.func13, Try.ntmps13
      go_wp2
      go_ret
      exact ⟨ret_int e.out.symm, rfl⟩
  · by_cases h1 : t < -9223372036854775808 - d
    · have e : Hid (sat (t + d) = -9223372036854775808) := by show _ = _; unfold sat; omega
      go_enter Try.func13, Try.ntmps13
      go_wp2_with (with_reducible refine (least_any _).mono ?_; rintro e w' ⟨rfl, rfl⟩)
      go_ret
      exact ⟨ret_int e.out.symm, rfl⟩
    · have e : Hid (sat (t + d) = t + d) := by show _ = _; unfold sat; omega
      go_enter Try.func13, Try.ntmps13
      go_wp2_with (with_reducible refine (least_any _).mono ?_; rintro e w' ⟨rfl, rfl⟩)
      go_ret
      exact ⟨ret_int e.out.symm, rfl⟩

set_option maxHeartbeats 400000 in
theorem between_spec (t u : Int) (ht : Fits t) (hu : Fits u) (w : World) :
    Calls Try.prog 15 #[.int .i64 t, .int .i64 u] w fun e w' => e = .returned (.int .i64 (sat (u - t))) ∧ w = w' := by
  by_cases h : t = -9223372036854775808
  · subst h
    unfold Fits at hu
    by_cases h1 : 0 ≤ u
    · have e : Hid (sat (u - -9223372036854775808) = 9223372036854775807) := by show _ = _; unfold sat; omega
      go_enter Try.func15, Try.ntmps15
      go_wp2_with (with_reducible refine (least_any _).mono ?_; rintro e w' ⟨rfl, rfl⟩)
      go_ret
      exact ⟨ret_int e.out.symm, rfl⟩
    · have e : Hid (sat (u - -9223372036854775808) = u - -9223372036854775808) := by show _ = _; unfold sat; omega
      go_enter Try.func15, Try.ntmps15
      go_wp2_with (with_reducible refine (least_any _).mono ?_; rintro e w' ⟨rfl, rfl⟩)
      go_ret
      exact ⟨ret_int (by rw [e.out]; omega), rfl⟩
  · have hb : (t == -9223372036854775808) = false := by simpa using h
    have hm : Fits (-t) := by unfold Fits at ht ⊢; omega
    have HM := Lib.hid hm
    have HU := Lib.hid hu
    unfold Fits at ht
    have e : Hid (u + -t = u - t) := by show _ = _; omega
    have ew : Hid (wrap64 (-t) = -t) := IntWalk.wrap64_in _ (by unfold Fits at hm; omega)
    clear hm hu h
    go_enter Try.func15, Try.ntmps15
    go_wp2_with (with_reducible refine (least_any _).mono ?_; rintro e w' ⟨rfl, rfl⟩)
    rw [ew.out]
    with_reducible refine (later_spec _ _ HU.out HM.out _).mono ?_
    rintro e w' ⟨rfl, rfl⟩
    go_wp2
    go_ret
    exact ⟨ret_int (by rw [e.out]), rfl⟩

def lesser (t u : Int) : Int := if t ≤ u then t else u
set_option maxHeartbeats 400000 in
theorem smaller_any (t u : Int) (w : World) :
    Calls Try.prog 24 #[.int .i64 t, .int .i64 u] w fun e w' => e = .returned (.int .i64 (lesser t u)) ∧ w = w' := by
  by_cases h : u < t
  · have e : Hid (lesser t u = u) := by show _ = _; unfold lesser; omega
    go_enter Try.func24, Try.ntmps24
    go_wp2
    go_ret
    exact ⟨ret_int e.out.symm, rfl⟩
  · have e : Hid (lesser t u = t) := by show _ = _; unfold lesser; omega
    go_enter Try.func24, Try.ntmps24
    go_wp2
    go_ret
    exact ⟨ret_int e.out.symm, rfl⟩
theorem min_any (t u : Int) (w : World) :
    Calls Try.prog 25 #[.int .i64 t, .int .i64 u] w fun e w' => e = .returned (.int .i64 (lesser t u)) ∧ w = w' := by
  by_cases h : t < u
  · have e : Hid (lesser t u = t) := by show _ = _; unfold lesser; omega
    go_enter Try.func25, Try.ntmps25
    go_wp2
    go_ret
    exact ⟨ret_int e.out.symm, rfl⟩
  · have e : Hid (lesser t u = u) := by show _ = _; unfold lesser; omega
    go_enter Try.func25, Try.ntmps25
    go_wp2
    go_ret
    exact ⟨ret_int e.out.symm, rfl⟩
theorem sooner_impl (t u : Int) (w : World) :
    Calls Try.prog 16 #[.int .i64 t, .int .i64 u] w fun e w' => e = .returned (.int .i64 (lesser t u)) ∧ w = w' := by
  go_enter Try.func16, Try.ntmps16
  go_wp2_with fail
  with_reducible refine (smaller_any _ _ _).mono ?_
  rintro e w' ⟨rfl, rfl⟩
  go_wp2
  go_ret
  exact ⟨rfl, rfl⟩
theorem sooner_spec (t u : Int) (w : World) :
    Calls Try.prog 17 #[.int .i64 t, .int .i64 u] w fun e w' => e = .returned (.int .i64 (lesser t u)) ∧ w = w' := by
  go_enter Try.func17, Try.ntmps17
  go_wp2_with fail
  with_reducible refine (min_any _ _ _).mono ?_
  rintro e w' ⟨rfl, rfl⟩
  go_wp2
  go_ret
  exact ⟨rfl, rfl⟩

def dueB (now a : Int) : Bool := decide (a ≤ now) && (a != 9223372036854775807)
theorem due_impl (now a : Int) (w : World) :
    Calls Try.prog 18 #[.int .i64 now, .int .i64 a] w fun e w' => e = .returned (.bool (dueB now a)) ∧ w = w' := by
  by_cases h : a ≤ now
  · have g : decide (a ≤ now) = true := by simpa using h
    go_enter Try.func18, Try.ntmps18
    go_wp2
    go_ret
    exact ⟨ret_bool (by simp [dueB, h]), rfl⟩
  · have g : decide (a ≤ now) = false := by simpa using h
    go_enter Try.func18, Try.ntmps18
    go_wp2
    go_ret
    exact ⟨ret_bool (by unfold dueB; rw [g]; rfl), rfl⟩
theorem due_spec (now a : Int) (w : World) :
    Calls Try.prog 19 #[.int .i64 now, .int .i64 a] w fun e w' => e = .returned (.bool (dueB now a)) ∧ w = w' := by
  by_cases h : a ≤ now
  · have g : decide (a ≤ now) = true := by simpa using h
    go_enter Try.func19, Try.ntmps19
    go_wp2
    go_ret
    exact ⟨ret_bool (by simp [dueB, h]), rfl⟩
  · have g : decide (a ≤ now) = false := by simpa using h
    go_enter Try.func19, Try.ntmps19
    go_wp2
    go_ret
    exact ⟨ret_bool (by unfold dueB; rw [g]; rfl), rfl⟩
end Go.Proofs.Ytlcnkcmgbambaaa
