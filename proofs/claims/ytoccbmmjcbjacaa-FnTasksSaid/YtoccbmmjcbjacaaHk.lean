/- FnTasks on paper; no program. -/
import Derived.Test.YtoccbmmjcbjacaaHe
namespace Go.Proofs.Ytoccbmmjcbjacaa
open Go.RowKit Go.Sort

theorem either_ok {t x : Tk} (h : tkB t = true) : tkB (eitherT t x) = true := by
  unfold eitherT
  split
  · assumption
  · exact h
theorem park_ok {t : Tk} (h : tkB t = true) (y q m : Int) : tkB (parkT t y q m) = true := by
  unfold parkT
  rw [if_pos h]
  split
  · exact either_ok h
  · exact h
theorem park_same {t : Tk} (h : tkB t = true) (hs : t.st ≠ 0) (y q m : Int) : parkT t y q m = t := by
  unfold parkT
  rw [if_pos h, if_neg hs]
theorem park_bad {t : Tk} (h : tkB t = false) (y q m : Int) : parkT t y q m = zeroT := by
  unfold parkT
  rw [if_neg (by rw [h]; decide)]
theorem ready_done {t : Tk} (h : tkB t = true) (hs : t.st = 2) (r : Int) : readyT t r = t := by
  unfold readyT
  rw [if_pos h, if_pos hs]
theorem end_done {t : Tk} (h : tkB t = true) (hs : t.st = 2) (r : Int) : endT t r = t := by
  unfold endT
  rw [if_pos h, if_pos hs]
theorem tkB_parts {t : Tk} (h : tkB t = true) : (0 ≤ t.prog ∧ t.prog ≤ 7) ∧ (0 ≤ t.pc ∧ t.pc ≤ 12) ∧ (0 ≤ t.reg ∧ t.reg ≤ 999) ∧ (-1 ≤ t.grp ∧ t.grp ≤ 7) ∧ (0 ≤ t.err ∧ t.err ≤ 99) ∧ (t.st ≠ 2 → t.err = 0) := by
  simp only [tkB, inT, Bool.and_eq_true, decide_eq_true_eq] at h
  obtain ⟨h1, h2, h3, h4, h5, h6⟩ := h
  refine ⟨h1, h2, h3, h4, h5, fun hs => ?_⟩
  unfold restB at h6
  split at h6
  · simp only [Bool.and_eq_true, decide_eq_true_eq] at h6; exact h6.2
  · simp only [inT, Bool.and_eq_true, Bool.or_eq_true, decide_eq_true_eq] at h6
    rcases h6.2.2.2.2 with h' | h'
    · exact absurd h' hs
    · exact h'
theorem ready_go {t : Tk} (h : tkB t = true) (hs : t.st ≠ 2) (hp : t.pc < 12) : readyT t 3 = ⟨t.prog, t.pc + 1, 0, 0, 0, -1, 3, t.grp, t.err⟩ := by
  have hh := tkB_parts h
  unfold readyT
  rw [if_pos h, if_neg hs]
  unfold eitherT
  rw [if_pos]
  have he := hh.2.2.2.2.2 hs
  simp [tkB, restB, inT, he]
  omega
theorem end_go {t : Tk} (h : tkB t = true) (hs : t.st ≠ 2) : endT t 4 = ⟨t.prog, t.pc, 2, 0, 0, -1, t.reg, t.grp, 4⟩ ∧ tkB ⟨t.prog, t.pc, 2, 0, 0, -1, t.reg, t.grp, 4⟩ = true := by
  have hh := tkB_parts h
  have hb : tkB ⟨t.prog, t.pc, 2, 0, 0, -1, t.reg, t.grp, 4⟩ = true := by
    simp [tkB, restB, inT]
    omega
  refine ⟨?_, hb⟩
  unfold endT
  rw [if_pos h, if_neg hs]
  unfold eitherT
  rw [if_pos hb]
end Go.Proofs.Ytoccbmmjcbjacaa
