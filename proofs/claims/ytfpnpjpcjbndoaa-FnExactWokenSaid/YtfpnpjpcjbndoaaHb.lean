/- The reference of chapter 10: l10Waits, TaskOk; no condition. -/
import Derived.Test.YtfpnpjpcjbndoaaHa
namespace Go.Proofs.Ytfpnpjpcjbndoaa
open Go.RowKit Go.Sort

set_option maxHeartbeats 1600000 in
theorem waits_any (t : Tk) (w : World) : Calls Try.prog 46 #[.agg #[.int .i64 t.prog, .int .i64 t.pc, .int .i64 t.st, .int .i64 t.why, .int .i64 t.what, .int .i64 t.timer, .int .i64 t.reg, .int .i64 t.grp, .int .i64 t.err]] w fun e w' => e = .returned (.bool (waitsB t)) ∧ Kept 0 0 w w' := by
  obtain ⟨prog, pc, st, why, what, timer, reg, grp, err⟩ := t
  obtain ⟨W, hW⟩ : ∃ W, W = w.alloc (.cells #[.int .i64 prog, .int .i64 pc, .int .i64 st, .int .i64 why, .int .i64 what, .int .i64 timer, .int .i64 reg, .int .i64 grp, .int .i64 err] 35) := ⟨_, rfl⟩
  have KW : Hid (Kept 0 0 w W) := by show Kept _ _ _ _; rw [hW]; exact Kept.alloc0 _ _
  have B : Hid (Blk W w.heap.size 35 #[.int .i64 prog, .int .i64 pc, .int .i64 st, .int .i64 why, .int .i64 what, .int .i64 timer, .int .i64 reg, .int .i64 grp, .int .i64 err]) := by show Blk _ _ _ _; rw [hW]; exact Blk.new _ _ _
  obtain ⟨c0, c1, c2, c3, c4, c5, c6, c7, c8⟩ := B.out.nine
  have HW := Lib.hid hW
  clear hW
  clear B
  go_enter Try.func46, Try.ntmps46
  go_upto_region 1 with fail
  rw [← HW.out]
  clear HW
  by_cases h1 : why = 1
  · subst h1
    go_wp2_with fail
    with_reducible refine (l1In_any _ _ _ _).mono ?_
    rintro e w1 ⟨rfl, rfl⟩
    cases hb : (decide ((0 : Int) ≤ what) && decide (what ≤ (59 : Int)))
    · have hb' : inT what (0) (59) = false := hb
      clear hb
      go_wp2_with fail
      go_ret
      exact ⟨ret_bool (by simp [waitsB, hb']), KW.out⟩
    · have hb' : Hid (inT what (0) (59) = true) := hb
      clear hb
      by_cases ht : timer = -1
      · subst ht
        go_wp2_with fail
        go_ret
        exact ⟨ret_bool (by simp [waitsB, hb'.out]), KW.out⟩
      · go_wp2_with fail
        go_ret
        exact ⟨ret_bool (by simp [waitsB, hb'.out, ht]), KW.out⟩
  by_cases h2 : why = 2
  · subst h2
    go_wp2_with fail
    with_reducible refine (l1In_any _ _ _ _).mono ?_
    rintro e w1 ⟨rfl, rfl⟩
    cases hb : (decide ((0 : Int) ≤ what) && decide (what ≤ (59 : Int)))
    · have hb' : inT what (0) (59) = false := hb
      clear hb
      go_wp2_with fail
      go_ret
      exact ⟨ret_bool (by simp [waitsB, hb']), KW.out⟩
    · have hb' : Hid (inT what (0) (59) = true) := hb
      clear hb
      go_wp2_with fail
      with_reducible refine (l1In_any _ _ _ _).mono ?_
      rintro e w1 ⟨rfl, rfl⟩
      cases hc : (decide ((0 : Int) ≤ timer) && decide (timer ≤ (1000000 : Int)))
      · have hc' : inT timer 0 1000000 = false := hc
        clear hc
        go_wp2_with fail
        go_ret
        exact ⟨ret_bool (by simp [waitsB, hb'.out, hc']), KW.out⟩
      · have hc' : inT timer 0 1000000 = true := hc
        clear hc
        go_wp2_with fail
        go_ret
        exact ⟨ret_bool (by simp [waitsB, hb'.out, hc']), KW.out⟩
  by_cases h3 : why = 3
  · subst h3
    go_wp2_with fail
    with_reducible refine (l1In_any _ _ _ _).mono ?_
    rintro e w1 ⟨rfl, rfl⟩
    cases hb : (decide ((0 : Int) ≤ what) && decide (what ≤ (7 : Int)))
    · have hb' : inT what (0) (7) = false := hb
      clear hb
      go_wp2_with fail
      go_ret
      exact ⟨ret_bool (by simp [waitsB, hb']), KW.out⟩
    · have hb' : Hid (inT what (0) (7) = true) := hb
      clear hb
      by_cases ht : timer = -1
      · subst ht
        go_wp2_with fail
        go_ret
        exact ⟨ret_bool (by simp [waitsB, hb'.out]), KW.out⟩
      · go_wp2_with fail
        go_ret
        exact ⟨ret_bool (by simp [waitsB, hb'.out, ht]), KW.out⟩
  by_cases h4 : why = 4
  · subst h4
    go_wp2_with fail
    with_reducible refine (l1In_any _ _ _ _).mono ?_
    rintro e w1 ⟨rfl, rfl⟩
    cases hb : (decide ((0 : Int) ≤ what) && decide (what ≤ (7 : Int)))
    · have hb' : inT what (0) (7) = false := hb
      clear hb
      go_wp2_with fail
      go_ret
      exact ⟨ret_bool (by simp [waitsB, hb']), KW.out⟩
    · have hb' : Hid (inT what (0) (7) = true) := hb
      clear hb
      by_cases ht : timer = -1
      · subst ht
        go_wp2_with fail
        go_ret
        exact ⟨ret_bool (by simp [waitsB, hb'.out]), KW.out⟩
      · go_wp2_with fail
        go_ret
        exact ⟨ret_bool (by simp [waitsB, hb'.out, ht]), KW.out⟩
  go_wp2_with fail
  go_ret
  exact ⟨ret_bool (by simp [waitsB, h1, h2, h3, h4]), KW.out⟩
set_option maxHeartbeats 3200000 in
theorem taskOk_any (t : Tk) (w : World) : Calls Try.prog 31 #[.agg #[.int .i64 t.prog, .int .i64 t.pc, .int .i64 t.st, .int .i64 t.why, .int .i64 t.what, .int .i64 t.timer, .int .i64 t.reg, .int .i64 t.grp, .int .i64 t.err]] w fun e w' => e = .returned (.bool (tkB t)) ∧ Kept 0 0 w w' := by
  obtain ⟨prog, pc, st, why, what, timer, reg, grp, err⟩ := t
  obtain ⟨W, hW⟩ : ∃ W, W = w.alloc (.cells #[.int .i64 prog, .int .i64 pc, .int .i64 st, .int .i64 why, .int .i64 what, .int .i64 timer, .int .i64 reg, .int .i64 grp, .int .i64 err] 35) := ⟨_, rfl⟩
  have KW : Hid (Kept 0 0 w W) := by show Kept _ _ _ _; rw [hW]; exact Kept.alloc0 _ _
  have B : Hid (Blk W w.heap.size 35 #[.int .i64 prog, .int .i64 pc, .int .i64 st, .int .i64 why, .int .i64 what, .int .i64 timer, .int .i64 reg, .int .i64 grp, .int .i64 err]) := by show Blk _ _ _ _; rw [hW]; exact Blk.new _ _ _
  obtain ⟨c0, c1, c2, c3, c4, c5, c6, c7, c8⟩ := B.out.nine
  have HW := Lib.hid hW
  clear hW
  go_enter Try.func31, Try.ntmps31
  go_upto_region 1 with fail
  rw [← HW.out]
  clear HW
  go_wp2_with fail
  with_reducible refine (l1In_any _ _ _ _).mono ?_
  rintro e w1 ⟨rfl, rfl⟩
  cases hb : (decide ((0 : Int) ≤ prog) && decide (prog ≤ (7 : Int)))
  · have hb' : inT prog (0) (7) = false := hb
    clear hb
    go_wp2_with fail
    go_ret
    exact ⟨ret_bool (by simp [tkB, hb']), KW.out⟩
  have f0 : Hid (inT prog (0) (7) = true) := hb
  clear hb
  go_wp2_with fail
  with_reducible refine (l1In_any _ _ _ _).mono ?_
  rintro e w1 ⟨rfl, rfl⟩
  cases hb : (decide ((0 : Int) ≤ pc) && decide (pc ≤ (12 : Int)))
  · have hb' : inT pc (0) (12) = false := hb
    clear hb
    go_wp2_with fail
    go_ret
    exact ⟨ret_bool (by simp [tkB, hb', f0.out]), KW.out⟩
  have f1 : Hid (inT pc (0) (12) = true) := hb
  clear hb
  go_wp2_with fail
  with_reducible refine (l1In_any _ _ _ _).mono ?_
  rintro e w1 ⟨rfl, rfl⟩
  cases hb : (decide ((0 : Int) ≤ reg) && decide (reg ≤ (999 : Int)))
  · have hb' : inT reg (0) (999) = false := hb
    clear hb
    go_wp2_with fail
    go_ret
    exact ⟨ret_bool (by simp [tkB, hb', f0.out, f1.out]), KW.out⟩
  have f2 : Hid (inT reg (0) (999) = true) := hb
  clear hb
  go_wp2_with fail
  with_reducible refine (l1In_any _ _ _ _).mono ?_
  rintro e w1 ⟨rfl, rfl⟩
  cases hb : (decide ((-1 : Int) ≤ grp) && decide (grp ≤ (7 : Int)))
  · have hb' : inT grp (-1) (7) = false := hb
    clear hb
    go_wp2_with fail
    go_ret
    exact ⟨ret_bool (by simp [tkB, hb', f0.out, f1.out, f2.out]), KW.out⟩
  have f3 : Hid (inT grp (-1) (7) = true) := hb
  clear hb
  go_wp2_with fail
  with_reducible refine (l1In_any _ _ _ _).mono ?_
  rintro e w1 ⟨rfl, rfl⟩
  cases hb : (decide ((0 : Int) ≤ err) && decide (err ≤ (99 : Int)))
  · have hb' : inT err (0) (99) = false := hb
    clear hb
    go_wp2_with fail
    go_ret
    exact ⟨ret_bool (by simp [tkB, hb', f0.out, f1.out, f2.out, f3.out]), KW.out⟩
  have f4 : Hid (inT err (0) (99) = true) := hb
  clear hb
  by_cases hs : st = 1
  · subst hs
    go_wp2_with fail
    with_reducible refine (waits_any ⟨prog, pc, 1, why, what, timer, reg, grp, err⟩ _).mono ?_
    rintro e w1 ⟨rfl, hk⟩
    have K1 := Lib.hid (KW.out.trans hk)
    have B1 := B.out.kept hk (.inl (Nat.le_refl _))
    clear c0 c1 c2 c3 c4 c5 c6 c7 c8 hk B
    obtain ⟨c0, c1, c2, c3, c4, c5, c6, c7, c8⟩ := B1.nine
    clear B1
    cases hb : waitsB ⟨prog, pc, 1, why, what, timer, reg, grp, err⟩
    · go_wp2_with fail
      go_ret
      exact ⟨ret_bool (by simp [tkB, restB, hb, f0.out, f1.out, f2.out, f3.out, f4.out]), K1.out⟩
    have hb' := Lib.hid hb
    clear hb
    by_cases he : err = 0
    · have fe : Hid (err = 0) := he
      subst he
      go_wp2_with fail
      go_ret
      exact ⟨ret_bool (by simp [tkB, restB, hb'.out, f0.out, f1.out, f2.out, f3.out, f4.out]), K1.out⟩
    · go_wp2_with fail
      go_ret
      exact ⟨ret_bool (by simp [tkB, restB, hb'.out, he, f0.out, f1.out, f2.out, f3.out, f4.out]), K1.out⟩
  go_wp2_with fail
  with_reducible refine (l1In_any _ _ _ _).mono ?_
  rintro e w1 ⟨rfl, rfl⟩
  cases hb : (decide ((0 : Int) ≤ st) && decide (st ≤ (2 : Int)))
  · have hb' : inT st 0 2 = false := hb
    clear hb
    go_wp2_with fail
    go_ret
    exact ⟨ret_bool (by simp [tkB, restB, hs, hb', f0.out, f1.out, f2.out, f3.out, f4.out]), KW.out⟩
  have f5 : Hid (inT st 0 2 = true) := hb
  clear hb
  by_cases hwhy : why = 0
  rotate_left
  · go_wp2_with fail
    go_ret
    exact ⟨ret_bool (by simp [tkB, restB, hs, hwhy, f0.out, f1.out, f2.out, f3.out, f4.out, f5.out]), KW.out⟩
  subst hwhy
  by_cases hwhat : what = 0
  rotate_left
  · go_wp2_with fail
    go_ret
    exact ⟨ret_bool (by simp [tkB, restB, hs, hwhat, f0.out, f1.out, f2.out, f3.out, f4.out, f5.out]), KW.out⟩
  subst hwhat
  by_cases htimer : timer = -1
  rotate_left
  · go_wp2_with fail
    go_ret
    exact ⟨ret_bool (by simp [tkB, restB, hs, htimer, f0.out, f1.out, f2.out, f3.out, f4.out, f5.out]), KW.out⟩
  subst htimer
  by_cases h2 : st = 2
  · subst h2
    go_wp2_with fail
    go_ret
    exact ⟨ret_bool (by simp [tkB, restB, f0.out, f1.out, f2.out, f3.out, f4.out, f5.out]), KW.out⟩
  by_cases he : err = 0
  · subst he
    go_wp2_with fail
    go_ret
    exact ⟨ret_bool (by simp [tkB, restB, hs, h2, f0.out, f1.out, f2.out, f3.out, f4.out, f5.out]), KW.out⟩
  go_wp2_with fail
  go_ret
  exact ⟨ret_bool (by simp [tkB, restB, hs, h2, he, f0.out, f1.out, f2.out, f3.out, f4.out, f5.out]), KW.out⟩
end Go.Proofs.Ytfpnpjpcjbndoaa
