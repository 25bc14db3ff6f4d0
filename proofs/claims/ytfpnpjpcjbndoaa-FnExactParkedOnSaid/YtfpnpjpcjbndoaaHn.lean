/- The program's bounds, what a state and a reason ask of the other fields, notWaiting, and TaskOk; no condition. -/
import Derived.Test.YtfpnpjpcjbndoaaHa
namespace Go.Proofs.Ytfpnpjpcjbndoaa
open Go.RowKit Go.Sort

set_option maxHeartbeats 1600000 in
theorem bd_any (lo hi n : Int) (w : World) : Calls Try.prog 50 #[.agg #[.int .i64 lo, .int .i64 hi], .int .i64 n] w fun e w' => e = .returned (.bool (inT n lo hi)) ∧ Kept 0 0 w w' := by
  by_cases h1 : lo ≤ n
  case neg =>
    have E : Hid (inT n lo hi = false) := by show _ = _; simp [inT]; omega
    have g1 : decide (lo ≤ n) = false := by simpa using h1
    go_enter Try.func50, Try.ntmps50
    go_wp2
    go_ret
    exact ⟨ret_bool E.out.symm, Kept.alloc0 _ _⟩
  have g1 : decide (lo ≤ n) = true := by simpa using h1
  by_cases h2 : n ≤ hi
  case neg =>
    have E : Hid (inT n lo hi = false) := by show _ = _; simp [inT]; omega
    have g2 : decide (n ≤ hi) = false := by simpa using h2
    go_enter Try.func50, Try.ntmps50
    go_wp2
    go_ret
    exact ⟨ret_bool E.out.symm, Kept.alloc0 _ _⟩
  have E : Hid (inT n lo hi = true) := by show _ = _; simp [inT]; omega
  have g2 : decide (n ≤ hi) = true := by simpa using h2
  go_enter Try.func50, Try.ntmps50
  go_wp2
  go_ret
  exact ⟨ret_bool E.out.symm, Kept.alloc0 _ _⟩
def whysR (n : Int) : Int × Int := if n = 1 then (1, 4) else (0, 0)
set_option maxHeartbeats 800000 in
theorem whysR_any (n : Int) (w : World) : Calls Try.prog 51 #[.int .i64 n] w fun e w' => e = .returned (.agg #[.int .i64 (whysR n).1, .int .i64 (whysR n).2]) ∧ Kept 0 0 w w' := by
  by_cases h0 : n = 1
  · subst h0
    go_enter Try.func51, Try.ntmps51
    go_wp2
    exact bodyPost_ret (v := .agg #[.int .i64 1, .int .i64 4]) (by simp [results, Try.results51, go_sem]) rfl ⟨rfl, Kept.alloc0 _ _⟩
  have E : Hid (whysR n = (0, 0)) := by show _ = _; unfold whysR; rw [if_neg h0]
  rw [E.out]
  go_enter Try.func51, Try.ntmps51
  go_wp2
  exact bodyPost_ret (v := .agg #[.int .i64 0, .int .i64 0]) (by simp [results, Try.results51, go_sem]) rfl ⟨rfl, Kept.alloc0 _ _⟩
def errsR (n : Int) : Int × Int := if n = 2 then (0, 99) else (0, 0)
set_option maxHeartbeats 800000 in
theorem errsR_any (n : Int) (w : World) : Calls Try.prog 54 #[.int .i64 n] w fun e w' => e = .returned (.agg #[.int .i64 (errsR n).1, .int .i64 (errsR n).2]) ∧ Kept 0 0 w w' := by
  by_cases h0 : n = 2
  · subst h0
    go_enter Try.func54, Try.ntmps54
    go_wp2
    exact bodyPost_ret (v := .agg #[.int .i64 0, .int .i64 99]) (by simp [results, Try.results54, go_sem]) rfl ⟨rfl, Kept.alloc0 _ _⟩
  have E : Hid (errsR n = (0, 0)) := by show _ = _; unfold errsR; rw [if_neg h0]
  rw [E.out]
  go_enter Try.func54, Try.ntmps54
  go_wp2
  exact bodyPost_ret (v := .agg #[.int .i64 0, .int .i64 0]) (by simp [results, Try.results54, go_sem]) rfl ⟨rfl, Kept.alloc0 _ _⟩
def whatsR (n : Int) : Int × Int := if n = 1 then (0, 59) else if n = 2 then (0, 59) else if n = 3 then (0, 7) else if n = 4 then (0, 7) else (0, 0)
set_option maxHeartbeats 800000 in
theorem whatsR_any (n : Int) (w : World) : Calls Try.prog 52 #[.int .i64 n] w fun e w' => e = .returned (.agg #[.int .i64 (whatsR n).1, .int .i64 (whatsR n).2]) ∧ Kept 0 0 w w' := by
  by_cases h0 : n = 1
  · subst h0
    go_enter Try.func52, Try.ntmps52
    go_wp2
    exact bodyPost_ret (v := .agg #[.int .i64 0, .int .i64 59]) (by simp [results, Try.results52, go_sem]) rfl ⟨rfl, Kept.alloc0 _ _⟩
  by_cases h1 : n = 2
  · subst h1
    go_enter Try.func52, Try.ntmps52
    go_wp2
    exact bodyPost_ret (v := .agg #[.int .i64 0, .int .i64 59]) (by simp [results, Try.results52, go_sem]) rfl ⟨rfl, Kept.alloc0 _ _⟩
  by_cases h2 : n = 3
  · subst h2
    go_enter Try.func52, Try.ntmps52
    go_wp2
    exact bodyPost_ret (v := .agg #[.int .i64 0, .int .i64 7]) (by simp [results, Try.results52, go_sem]) rfl ⟨rfl, Kept.alloc0 _ _⟩
  by_cases h3 : n = 4
  · subst h3
    go_enter Try.func52, Try.ntmps52
    go_wp2
    exact bodyPost_ret (v := .agg #[.int .i64 0, .int .i64 7]) (by simp [results, Try.results52, go_sem]) rfl ⟨rfl, Kept.alloc0 _ _⟩
  have E : Hid (whatsR n = (0, 0)) := by show _ = _; unfold whatsR; rw [if_neg h0, if_neg h1, if_neg h2, if_neg h3]
  rw [E.out]
  go_enter Try.func52, Try.ntmps52
  go_wp2
  exact bodyPost_ret (v := .agg #[.int .i64 0, .int .i64 0]) (by simp [results, Try.results52, go_sem]) rfl ⟨rfl, Kept.alloc0 _ _⟩
def timersR (n : Int) : Int × Int := if n = 2 then (0, 1000000) else ((-1), (-1))
set_option maxHeartbeats 800000 in
theorem timersR_any (n : Int) (w : World) : Calls Try.prog 53 #[.int .i64 n] w fun e w' => e = .returned (.agg #[.int .i64 (timersR n).1, .int .i64 (timersR n).2]) ∧ Kept 0 0 w w' := by
  by_cases h0 : n = 2
  · subst h0
    go_enter Try.func53, Try.ntmps53
    go_wp2
    exact bodyPost_ret (v := .agg #[.int .i64 0, .int .i64 1000000]) (by simp [results, Try.results53, go_sem]) rfl ⟨rfl, Kept.alloc0 _ _⟩
  have E : Hid (timersR n = ((-1), (-1))) := by show _ = _; unfold timersR; rw [if_neg h0]
  rw [E.out]
  go_enter Try.func53, Try.ntmps53
  go_wp2
  exact bodyPost_ret (v := .agg #[.int .i64 (-1), .int .i64 (-1)]) (by simp [results, Try.results53, go_sem]) rfl ⟨rfl, Kept.alloc0 _ _⟩
def isReadyB (st : Int) : Bool := st == 0
def isOpenB (st : Int) : Bool := st != 2
set_option maxHeartbeats 800000 in
theorem isOpenB_any (st : Int) (w : World) : Calls Try.prog 49 #[.int .i64 st] w fun e w' => e = .returned (.bool (isOpenB st)) ∧ w' = w := by
  go_enter Try.func49, Try.ntmps49
  go_wp2
  go_ret
  exact ⟨rfl, rfl⟩
set_option maxHeartbeats 800000 in
theorem notW_any (prog pc st why what timer reg grp err : Int) (w : World) : Calls Try.prog 47 #[.agg #[.int .i64 prog, .int .i64 pc, .int .i64 st, .int .i64 why, .int .i64 what, .int .i64 timer, .int .i64 reg, .int .i64 grp, .int .i64 err]] w fun e w' => e = .returned (.agg #[.int .i64 prog, .int .i64 pc, .int .i64 st, .int .i64 0, .int .i64 0, .int .i64 (-1), .int .i64 reg, .int .i64 grp, .int .i64 err]) ∧ Kept 0 0 w w' := by
  go_enter Try.func47, Try.ntmps47
  go_wp2
  exact bodyPost_ret (v := .agg #[.int .i64 prog, .int .i64 pc, .int .i64 st, .int .i64 0, .int .i64 0, .int .i64 (-1), .int .i64 reg, .int .i64 grp, .int .i64 err]) (by simp [results, Try.results47, go_sem]) rfl ⟨rfl, (Kept.alloc0 _ _).alloc _⟩
/-- What the program's TaskOk asks, in its order. -/
def okB (prog pc st why what timer reg grp err : Int) : Bool := ((((((((inT prog 0 7 && inT pc 0 12) && inT st 0 2) && inT why (whysR st).1 (whysR st).2) && inT what (whatsR why).1 (whatsR why).2) && inT timer (timersR why).1 (timersR why).2) && inT reg 0 999) && inT grp (-1) 7) && inT err (errsR st).1 (errsR st).2)
theorem okB_eq (prog pc st why what timer reg grp err : Int) : okB prog pc st why what timer reg grp err = tkB ⟨prog, pc, st, why, what, timer, reg, grp, err⟩ := by
  rw [Bool.eq_iff_iff]
  by_cases s1 : st = 1
  · subst s1
    by_cases y1 : why = 1
    · subst y1; simp [okB, tkB, restB, waitsB, inT, whysR, whatsR, timersR, errsR]; omega
    by_cases y2 : why = 2
    · subst y2; simp [okB, tkB, restB, waitsB, inT, whysR, whatsR, timersR, errsR]; omega
    by_cases y3 : why = 3
    · subst y3; simp [okB, tkB, restB, waitsB, inT, whysR, whatsR, timersR, errsR]; omega
    by_cases y4 : why = 4
    · subst y4; simp [okB, tkB, restB, waitsB, inT, whysR, whatsR, timersR, errsR]; omega
    simp [okB, tkB, restB, waitsB, inT, whysR, whatsR, timersR, errsR, y1, y2, y3, y4]; omega
  by_cases y0 : why = 0
  · subst y0
    by_cases s2 : st = 2
    · subst s2; simp [okB, tkB, restB, inT, whysR, whatsR, timersR, errsR]; omega
    simp [okB, tkB, restB, inT, whysR, whatsR, timersR, errsR, s1, s2]; omega
  simp [okB, tkB, restB, inT, whysR, s1, y0]; omega
set_option maxHeartbeats 3200000 in
theorem implTaskOk (t : Tk) (w : World) : Calls Try.prog 36 #[.agg #[.int .i64 t.prog, .int .i64 t.pc, .int .i64 t.st, .int .i64 t.why, .int .i64 t.what, .int .i64 t.timer, .int .i64 t.reg, .int .i64 t.grp, .int .i64 t.err]] w fun e w' => e = .returned (.bool (tkB t)) ∧ Kept 0 0 w w' := by
  obtain ⟨prog, pc, st, why, what, timer, reg, grp, err⟩ := t
  rw [← okB_eq]
  obtain ⟨W, hW⟩ : ∃ W, W = w.alloc (.cells #[.int .i64 prog, .int .i64 pc, .int .i64 st, .int .i64 why, .int .i64 what, .int .i64 timer, .int .i64 reg, .int .i64 grp, .int .i64 err] 35) := ⟨_, rfl⟩
  have K0 : Hid (Kept 0 0 w W) := by show Kept _ _ _ _; rw [hW]; exact Kept.alloc0 _ _
  have B0 : Blk W w.heap.size 35 #[.int .i64 prog, .int .i64 pc, .int .i64 st, .int .i64 why, .int .i64 what, .int .i64 timer, .int .i64 reg, .int .i64 grp, .int .i64 err] := by show Blk _ _ _ _; rw [hW]; exact Blk.new _ _ _
  obtain ⟨c0, c1, c2, c3, c4, c5, c6, c7, c8⟩ := B0.nine
  have HW := Lib.hid hW
  clear hW B0
  go_enter Try.func36, Try.ntmps36
  go_upto_region 2 with fail
  rw [← HW.out]
  clear HW
  have k0 := cell_regrown c0
  have k1 := cell_regrown c1
  have k2 := cell_regrown c2
  have k3 := cell_regrown c3
  have k4 := cell_regrown c4
  have k5 := cell_regrown c5
  have k6 := cell_regrown c6
  have k7 := cell_regrown c7
  have k8 := cell_regrown c8
  clear c0 c1 c2 c3 c4 c5 c6 c7 c8
  have C0 := Lib.hid (fun d os => regrown_call (bd_any 0 7 prog (grow (redrawn W d) os)))
  have C1 := Lib.hid (fun d os => regrown_call (bd_any 0 12 pc (grow (redrawn W d) os)))
  have C2 := Lib.hid (fun d os => regrown_call (bd_any 0 2 st (grow (redrawn W d) os)))
  have D3 := Lib.hid (fun d os => regrown_call (whysR_any st (grow (redrawn W d) os)))
  have C3 := Lib.hid (fun d os => regrown_call (bd_any (whysR st).1 (whysR st).2 why (grow (redrawn W d) os)))
  have D4 := Lib.hid (fun d os => regrown_call (whatsR_any why (grow (redrawn W d) os)))
  have C4 := Lib.hid (fun d os => regrown_call (bd_any (whatsR why).1 (whatsR why).2 what (grow (redrawn W d) os)))
  have D5 := Lib.hid (fun d os => regrown_call (timersR_any why (grow (redrawn W d) os)))
  have C5 := Lib.hid (fun d os => regrown_call (bd_any (timersR why).1 (timersR why).2 timer (grow (redrawn W d) os)))
  have C6 := Lib.hid (fun d os => regrown_call (bd_any 0 999 reg (grow (redrawn W d) os)))
  have C7 := Lib.hid (fun d os => regrown_call (bd_any (-1) 7 grp (grow (redrawn W d) os)))
  have D8 := Lib.hid (fun d os => regrown_call (errsR_any st (grow (redrawn W d) os)))
  have C8 := Lib.hid (fun d os => regrown_call (bd_any (errsR st).1 (errsR st).2 err (grow (redrawn W d) os)))
  cases q : inT prog 0 7
  · have E : Hid (okB prog pc st why what timer reg grp err = false) := by show _ = _; simp [okB, q]
    rw [q] at C0
    clear q
    refine wp_region_quiet_below (by kernel_rfl) (by kernel_rfl) ?_
    repeat (first | go_big_quiet_step (first | with_reducible exact C0.out _ _) | quiet_step (first | with_reducible exact C0.out _ _))
    refine wpQuiet_nil ?_
    intro _ hw'
    obtain ⟨⟨dq, osq⟩, hw''⟩ := hw'
    subst hw''
    go_wp2
    go_ret
    exact ⟨ret_bool E.out.symm, K0.out.trans (Kept.regrown W dq osq)⟩
  have F0 := Lib.hid q
  rw [q] at C0
  clear q
  cases q : inT pc 0 12
  · have E : Hid (okB prog pc st why what timer reg grp err = false) := by show _ = _; simp [okB, q, F0.out]
    rw [q] at C1
    clear q
    refine wp_region_quiet_below (by kernel_rfl) (by kernel_rfl) ?_
    repeat (first | go_big_quiet_step (first | with_reducible exact C0.out _ _ | with_reducible exact C1.out _ _) | quiet_step (first | with_reducible exact C0.out _ _ | with_reducible exact C1.out _ _))
    refine wpQuiet_nil ?_
    intro _ hw'
    obtain ⟨⟨dq, osq⟩, hw''⟩ := hw'
    subst hw''
    go_wp2
    go_ret
    exact ⟨ret_bool E.out.symm, K0.out.trans (Kept.regrown W dq osq)⟩
  have F1 := Lib.hid q
  rw [q] at C1
  clear q
  cases q : inT st 0 2
  · have E : Hid (okB prog pc st why what timer reg grp err = false) := by show _ = _; simp [okB, q, F0.out, F1.out]
    rw [q] at C2
    clear q
    refine wp_region_quiet_below (by kernel_rfl) (by kernel_rfl) ?_
    repeat (first | go_big_quiet_step (first | with_reducible exact C0.out _ _ | with_reducible exact C1.out _ _ | with_reducible exact C2.out _ _) | quiet_step (first | with_reducible exact C0.out _ _ | with_reducible exact C1.out _ _ | with_reducible exact C2.out _ _))
    refine wpQuiet_nil ?_
    intro _ hw'
    obtain ⟨⟨dq, osq⟩, hw''⟩ := hw'
    subst hw''
    go_wp2
    go_ret
    exact ⟨ret_bool E.out.symm, K0.out.trans (Kept.regrown W dq osq)⟩
  have F2 := Lib.hid q
  rw [q] at C2
  clear q
  cases q : inT why (whysR st).1 (whysR st).2
  · have E : Hid (okB prog pc st why what timer reg grp err = false) := by show _ = _; simp [okB, q, F0.out, F1.out, F2.out]
    rw [q] at C3
    clear q
    refine wp_region_quiet_below (by kernel_rfl) (by kernel_rfl) ?_
    repeat (first | go_big_quiet_step (first | with_reducible exact C0.out _ _ | with_reducible exact C1.out _ _ | with_reducible exact C2.out _ _ | with_reducible exact D3.out _ _ | with_reducible exact C3.out _ _) | quiet_step (first | with_reducible exact C0.out _ _ | with_reducible exact C1.out _ _ | with_reducible exact C2.out _ _ | with_reducible exact D3.out _ _ | with_reducible exact C3.out _ _))
    refine wpQuiet_nil ?_
    intro _ hw'
    obtain ⟨⟨dq, osq⟩, hw''⟩ := hw'
    subst hw''
    go_wp2
    go_ret
    exact ⟨ret_bool E.out.symm, K0.out.trans (Kept.regrown W dq osq)⟩
  have F3 := Lib.hid q
  rw [q] at C3
  clear q
  cases q : inT what (whatsR why).1 (whatsR why).2
  · have E : Hid (okB prog pc st why what timer reg grp err = false) := by show _ = _; simp [okB, q, F0.out, F1.out, F2.out, F3.out]
    rw [q] at C4
    clear q
    refine wp_region_quiet_below (by kernel_rfl) (by kernel_rfl) ?_
    repeat (first | go_big_quiet_step (first | with_reducible exact C0.out _ _ | with_reducible exact C1.out _ _ | with_reducible exact C2.out _ _ | with_reducible exact D3.out _ _ | with_reducible exact C3.out _ _ | with_reducible exact D4.out _ _ | with_reducible exact C4.out _ _) | quiet_step (first | with_reducible exact C0.out _ _ | with_reducible exact C1.out _ _ | with_reducible exact C2.out _ _ | with_reducible exact D3.out _ _ | with_reducible exact C3.out _ _ | with_reducible exact D4.out _ _ | with_reducible exact C4.out _ _))
    refine wpQuiet_nil ?_
    intro _ hw'
    obtain ⟨⟨dq, osq⟩, hw''⟩ := hw'
    subst hw''
    go_wp2
    go_ret
    exact ⟨ret_bool E.out.symm, K0.out.trans (Kept.regrown W dq osq)⟩
  have F4 := Lib.hid q
  rw [q] at C4
  clear q
  cases q : inT timer (timersR why).1 (timersR why).2
  · have E : Hid (okB prog pc st why what timer reg grp err = false) := by show _ = _; simp [okB, q, F0.out, F1.out, F2.out, F3.out, F4.out]
    rw [q] at C5
    clear q
    refine wp_region_quiet_below (by kernel_rfl) (by kernel_rfl) ?_
    repeat (first | go_big_quiet_step (first | with_reducible exact C0.out _ _ | with_reducible exact C1.out _ _ | with_reducible exact C2.out _ _ | with_reducible exact D3.out _ _ | with_reducible exact C3.out _ _ | with_reducible exact D4.out _ _ | with_reducible exact C4.out _ _ | with_reducible exact D5.out _ _ | with_reducible exact C5.out _ _) | quiet_step (first | with_reducible exact C0.out _ _ | with_reducible exact C1.out _ _ | with_reducible exact C2.out _ _ | with_reducible exact D3.out _ _ | with_reducible exact C3.out _ _ | with_reducible exact D4.out _ _ | with_reducible exact C4.out _ _ | with_reducible exact D5.out _ _ | with_reducible exact C5.out _ _))
    refine wpQuiet_nil ?_
    intro _ hw'
    obtain ⟨⟨dq, osq⟩, hw''⟩ := hw'
    subst hw''
    go_wp2
    go_ret
    exact ⟨ret_bool E.out.symm, K0.out.trans (Kept.regrown W dq osq)⟩
  have F5 := Lib.hid q
  rw [q] at C5
  clear q
  cases q : inT reg 0 999
  · have E : Hid (okB prog pc st why what timer reg grp err = false) := by show _ = _; simp [okB, q, F0.out, F1.out, F2.out, F3.out, F4.out, F5.out]
    rw [q] at C6
    clear q
    refine wp_region_quiet_below (by kernel_rfl) (by kernel_rfl) ?_
    repeat (first | go_big_quiet_step (first | with_reducible exact C0.out _ _ | with_reducible exact C1.out _ _ | with_reducible exact C2.out _ _ | with_reducible exact D3.out _ _ | with_reducible exact C3.out _ _ | with_reducible exact D4.out _ _ | with_reducible exact C4.out _ _ | with_reducible exact D5.out _ _ | with_reducible exact C5.out _ _ | with_reducible exact C6.out _ _) | quiet_step (first | with_reducible exact C0.out _ _ | with_reducible exact C1.out _ _ | with_reducible exact C2.out _ _ | with_reducible exact D3.out _ _ | with_reducible exact C3.out _ _ | with_reducible exact D4.out _ _ | with_reducible exact C4.out _ _ | with_reducible exact D5.out _ _ | with_reducible exact C5.out _ _ | with_reducible exact C6.out _ _))
    refine wpQuiet_nil ?_
    intro _ hw'
    obtain ⟨⟨dq, osq⟩, hw''⟩ := hw'
    subst hw''
    go_wp2
    go_ret
    exact ⟨ret_bool E.out.symm, K0.out.trans (Kept.regrown W dq osq)⟩
  have F6 := Lib.hid q
  rw [q] at C6
  clear q
  cases q : inT grp (-1) 7
  · have E : Hid (okB prog pc st why what timer reg grp err = false) := by show _ = _; simp [okB, q, F0.out, F1.out, F2.out, F3.out, F4.out, F5.out, F6.out]
    rw [q] at C7
    clear q
    refine wp_region_quiet_below (by kernel_rfl) (by kernel_rfl) ?_
    repeat (first | go_big_quiet_step (first | with_reducible exact C0.out _ _ | with_reducible exact C1.out _ _ | with_reducible exact C2.out _ _ | with_reducible exact D3.out _ _ | with_reducible exact C3.out _ _ | with_reducible exact D4.out _ _ | with_reducible exact C4.out _ _ | with_reducible exact D5.out _ _ | with_reducible exact C5.out _ _ | with_reducible exact C6.out _ _ | with_reducible exact C7.out _ _) | quiet_step (first | with_reducible exact C0.out _ _ | with_reducible exact C1.out _ _ | with_reducible exact C2.out _ _ | with_reducible exact D3.out _ _ | with_reducible exact C3.out _ _ | with_reducible exact D4.out _ _ | with_reducible exact C4.out _ _ | with_reducible exact D5.out _ _ | with_reducible exact C5.out _ _ | with_reducible exact C6.out _ _ | with_reducible exact C7.out _ _))
    refine wpQuiet_nil ?_
    intro _ hw'
    obtain ⟨⟨dq, osq⟩, hw''⟩ := hw'
    subst hw''
    go_wp2
    go_ret
    exact ⟨ret_bool E.out.symm, K0.out.trans (Kept.regrown W dq osq)⟩
  have F7 := Lib.hid q
  rw [q] at C7
  clear q
  have E : Hid (okB prog pc st why what timer reg grp err = inT err (errsR st).1 (errsR st).2) := by show _ = _; simp [okB, F0.out, F1.out, F2.out, F3.out, F4.out, F5.out, F6.out, F7.out]
  obtain ⟨b, hb⟩ : ∃ b, b = inT err (errsR st).1 (errsR st).2 := ⟨_, rfl⟩
  rw [← hb] at E C8
  clear hb
  refine wp_region_quiet_below (by kernel_rfl) (by kernel_rfl) ?_
  repeat (first | go_big_quiet_step (first | with_reducible exact C0.out _ _ | with_reducible exact C1.out _ _ | with_reducible exact C2.out _ _ | with_reducible exact D3.out _ _ | with_reducible exact C3.out _ _ | with_reducible exact D4.out _ _ | with_reducible exact C4.out _ _ | with_reducible exact D5.out _ _ | with_reducible exact C5.out _ _ | with_reducible exact C6.out _ _ | with_reducible exact C7.out _ _ | with_reducible exact D8.out _ _ | with_reducible exact C8.out _ _) | quiet_step (first | with_reducible exact C0.out _ _ | with_reducible exact C1.out _ _ | with_reducible exact C2.out _ _ | with_reducible exact D3.out _ _ | with_reducible exact C3.out _ _ | with_reducible exact D4.out _ _ | with_reducible exact C4.out _ _ | with_reducible exact D5.out _ _ | with_reducible exact C5.out _ _ | with_reducible exact C6.out _ _ | with_reducible exact C7.out _ _ | with_reducible exact D8.out _ _ | with_reducible exact C8.out _ _))
  refine wpQuiet_nil ?_
  intro _ hw'
  obtain ⟨⟨dq, osq⟩, hw''⟩ := hw'
  subst hw''
  go_wp2
  go_ret
  exact ⟨ret_bool E.out.symm, K0.out.trans (Kept.regrown W dq osq)⟩
end Go.Proofs.Ytfpnpjpcjbndoaa
