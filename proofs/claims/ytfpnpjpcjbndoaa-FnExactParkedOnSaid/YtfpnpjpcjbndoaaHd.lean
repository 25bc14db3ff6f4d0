/- The reference of chapter 10: NewTask, Parked, Readied, Ended; no condition. -/
import Derived.Test.YtfpnpjpcjbndoaaHc
namespace Go.Proofs.Ytfpnpjpcjbndoaa
open Go.RowKit Go.Sort

set_option maxHeartbeats 1600000 in
theorem newTask_any (p g : Int) (w : World) :
    Calls Try.prog 60 #[.int .i64 p, .int .i64 g] w fun e w' => e = .returned (.agg #[.int .i64 (newT p g).prog, .int .i64 (newT p g).pc, .int .i64 (newT p g).st, .int .i64 (newT p g).why, .int .i64 (newT p g).what, .int .i64 (newT p g).timer, .int .i64 (newT p g).reg, .int .i64 (newT p g).grp, .int .i64 (newT p g).err]) ∧ Kept 0 0 w w' := by
  obtain ⟨W0, hW0⟩ : ∃ W, W = w.alloc (.cells #[.int .i64 0, .int .i64 0, .int .i64 0, .int .i64 0, .int .i64 0, .int .i64 0, .int .i64 0, .int .i64 0, .int .i64 0] 35) := ⟨_, rfl⟩
  obtain ⟨W1, hW1⟩ : ∃ W, W = W0.alloc (.cells #[.int .i64 p, .int .i64 0, .int .i64 0, .int .i64 0, .int .i64 0, .int .i64 (-1), .int .i64 0, .int .i64 g, .int .i64 0] 35) := ⟨_, rfl⟩
  have k0 : Kept 0 0 w W0 := by rw [hW0]; exact Kept.alloc0 _ _
  have k1 : Kept 0 0 w W1 := by rw [hW1]; exact k0.alloc _
  have s0 : W0.heap.size = w.heap.size + 1 := by rw [hW0]; exact size_alloc _ _
  have s1 : W1.heap.size = w.heap.size + 2 := by rw [hW1, size_alloc, s0]
  have B0 : Hid (Blk W1 w.heap.size 35 #[.int .i64 0, .int .i64 0, .int .i64 0, .int .i64 0, .int .i64 0, .int .i64 0, .int .i64 0, .int .i64 0, .int .i64 0]) := by
    have h := Blk.new w 35 #[.int .i64 0, .int .i64 0, .int .i64 0, .int .i64 0, .int .i64 0, .int .i64 0, .int .i64 0, .int .i64 0, .int .i64 0]
    rw [← hW0] at h
    show Blk _ _ _ _; rw [hW1]; refine Blk.alloc ?_ _
    exact h
  have B1 : Hid (Blk W1 (w.heap.size + 1) 35 #[.int .i64 p, .int .i64 0, .int .i64 0, .int .i64 0, .int .i64 0, .int .i64 (-1), .int .i64 0, .int .i64 g, .int .i64 0]) := by
    have h := Blk.new W0 35 #[.int .i64 p, .int .i64 0, .int .i64 0, .int .i64 0, .int .i64 0, .int .i64 (-1), .int .i64 0, .int .i64 g, .int .i64 0]
    rw [s0] at h; rw [← hW1] at h
    show Blk _ _ _ _
    exact h
  have HW : Hid (W1 = ((w.alloc (.cells #[.int .i64 0, .int .i64 0, .int .i64 0, .int .i64 0, .int .i64 0, .int .i64 0, .int .i64 0, .int .i64 0, .int .i64 0] 35)).alloc (.cells #[.int .i64 p, .int .i64 0, .int .i64 0, .int .i64 0, .int .i64 0, .int .i64 (-1), .int .i64 0, .int .i64 g, .int .i64 0] 35))) := by show _ = _; rw [hW1, hW0]
  have KW := Lib.hid k1
  have SW : W1.heap.size = w.heap.size + 2 := s1
  clear hW0 k0 s0 hW1 k1 s1
  obtain ⟨c0, c1, c2, c3, c4, c5, c6, c7, c8⟩ := B1.out.nine
  go_enter Try.func60, Try.ntmps60
  go_upto_region 2 with fail
  rw [← HW.out]
  clear HW
  go_wp2_with fail
  with_reducible refine (taskOk_any ⟨p, 0, 0, 0, 0, -1, 0, g, 0⟩ _).mono ?_
  rintro e w1 ⟨rfl, hk⟩
  have K1 := Lib.hid (KW.out.trans hk)
  have z1 : W1.heap.size ≤ w1.heap.size := hk.size
  have R1 := Lib.hid (B0.out.kept hk (.inl (Nat.le_refl _)))
  have X1 := Lib.hid (B1.out.kept hk (.inl (Nat.le_refl _)))
  clear hk KW B0 B1 c0 c1 c2 c3 c4 c5 c6 c7 c8
  obtain ⟨r0, r1, r2, r3, r4, r5, r6, r7, r8⟩ := R1.out.nine
  obtain ⟨f0, f1, f2, f3, f4, f5, f6, f7, f8⟩ := R1.out.free9
  cases hb : tkB ⟨p, 0, 0, 0, 0, -1, 0, g, 0⟩
  · have hb' := Lib.hid hb
    clear hb
    go_wp2
    exact bodyPost_ret (v := .agg #[.int .i64 0, .int .i64 0, .int .i64 0, .int .i64 0, .int .i64 0, .int .i64 0, .int .i64 0, .int .i64 0, .int .i64 0]) (results_NewTask _ _ w.heap.size _ _ _ _ _ _ _ _ _ rfl (back9 (w := w) R1.out (by omega) K1.out _ _ _ _ _ _ _ _ _).2) rfl ⟨ret_tk (a := ⟨0, 0, 0, 0, 0, 0, 0, 0, 0⟩) (by unfold newT; rw [if_neg (by rw [hb'.out]; decide)]; rfl), (back9 R1.out (by omega) K1.out _ _ _ _ _ _ _ _ _).1⟩
  · have hb' := Lib.hid hb
    clear hb
    obtain ⟨c0, c1, c2, c3, c4, c5, c6, c7, c8⟩ := X1.out.nine
    go_wp2
    exact bodyPost_ret (v := .agg #[.int .i64 p, .int .i64 0, .int .i64 0, .int .i64 0, .int .i64 0, .int .i64 (-1), .int .i64 0, .int .i64 g, .int .i64 0]) (results_NewTask _ _ w.heap.size _ _ _ _ _ _ _ _ _ rfl (back9 (w := w) R1.out (by omega) K1.out _ _ _ _ _ _ _ _ _).2) rfl ⟨ret_tk (a := ⟨p, 0, 0, 0, 0, (-1), 0, g, 0⟩) (by unfold newT; rw [if_pos hb'.out]), (back9 R1.out (by omega) K1.out _ _ _ _ _ _ _ _ _).1⟩
theorem free_lit (prog pc st why what timer reg grp err s : Int) (w : World) : Calls Try.prog 55 #[.agg #[.int .i64 prog, .int .i64 pc, .int .i64 st, .int .i64 why, .int .i64 what, .int .i64 timer, .int .i64 reg, .int .i64 grp, .int .i64 err], .int .i64 s] w fun e w' => e = .returned (.agg #[.int .i64 prog, .int .i64 pc, .int .i64 s, .int .i64 0, .int .i64 0, .int .i64 (-1), .int .i64 reg, .int .i64 grp, .int .i64 err]) ∧ Kept 0 0 w w' := free_any ⟨prog, pc, st, why, what, timer, reg, grp, err⟩ s w
set_option maxHeartbeats 3200000 in
theorem park_any (t : Tk) (y1 y2 y3 : Int) (w : World) :
    Calls Try.prog 62 #[.agg #[.int .i64 t.prog, .int .i64 t.pc, .int .i64 t.st, .int .i64 t.why, .int .i64 t.what, .int .i64 t.timer, .int .i64 t.reg, .int .i64 t.grp, .int .i64 t.err], .int .i64 y1, .int .i64 y2, .int .i64 y3] w fun e w' => e = .returned (.agg #[.int .i64 (parkT t y1 y2 y3).prog, .int .i64 (parkT t y1 y2 y3).pc, .int .i64 (parkT t y1 y2 y3).st, .int .i64 (parkT t y1 y2 y3).why, .int .i64 (parkT t y1 y2 y3).what, .int .i64 (parkT t y1 y2 y3).timer, .int .i64 (parkT t y1 y2 y3).reg, .int .i64 (parkT t y1 y2 y3).grp, .int .i64 (parkT t y1 y2 y3).err]) ∧ Kept 0 0 w w' := by
  obtain ⟨prog, pc, st, why, what, timer, reg, grp, err⟩ := t
  obtain ⟨W0, hW0⟩ : ∃ W, W = w.alloc (.cells #[.int .i64 prog, .int .i64 pc, .int .i64 st, .int .i64 why, .int .i64 what, .int .i64 timer, .int .i64 reg, .int .i64 grp, .int .i64 err] 35) := ⟨_, rfl⟩
  obtain ⟨W1, hW1⟩ : ∃ W, W = W0.alloc (.cells #[.int .i64 0, .int .i64 0, .int .i64 0, .int .i64 0, .int .i64 0, .int .i64 0, .int .i64 0, .int .i64 0, .int .i64 0] 35) := ⟨_, rfl⟩
  have k0 : Kept 0 0 w W0 := by rw [hW0]; exact Kept.alloc0 _ _
  have k1 : Kept 0 0 w W1 := by rw [hW1]; exact k0.alloc _
  have s0 : W0.heap.size = w.heap.size + 1 := by rw [hW0]; exact size_alloc _ _
  have s1 : W1.heap.size = w.heap.size + 2 := by rw [hW1, size_alloc, s0]
  have B0 : Hid (Blk W1 w.heap.size 35 #[.int .i64 prog, .int .i64 pc, .int .i64 st, .int .i64 why, .int .i64 what, .int .i64 timer, .int .i64 reg, .int .i64 grp, .int .i64 err]) := by
    have h := Blk.new w 35 #[.int .i64 prog, .int .i64 pc, .int .i64 st, .int .i64 why, .int .i64 what, .int .i64 timer, .int .i64 reg, .int .i64 grp, .int .i64 err]
    rw [← hW0] at h
    show Blk _ _ _ _; rw [hW1]; refine Blk.alloc ?_ _
    exact h
  have B1 : Hid (Blk W1 (w.heap.size + 1) 35 #[.int .i64 0, .int .i64 0, .int .i64 0, .int .i64 0, .int .i64 0, .int .i64 0, .int .i64 0, .int .i64 0, .int .i64 0]) := by
    have h := Blk.new W0 35 #[.int .i64 0, .int .i64 0, .int .i64 0, .int .i64 0, .int .i64 0, .int .i64 0, .int .i64 0, .int .i64 0, .int .i64 0]
    rw [s0] at h; rw [← hW1] at h
    show Blk _ _ _ _
    exact h
  have HW : Hid (W1 = ((w.alloc (.cells #[.int .i64 prog, .int .i64 pc, .int .i64 st, .int .i64 why, .int .i64 what, .int .i64 timer, .int .i64 reg, .int .i64 grp, .int .i64 err] 35)).alloc (.cells #[.int .i64 0, .int .i64 0, .int .i64 0, .int .i64 0, .int .i64 0, .int .i64 0, .int .i64 0, .int .i64 0, .int .i64 0] 35))) := by show _ = _; rw [hW1, hW0]
  have KW := Lib.hid k1
  have SW : W1.heap.size = w.heap.size + 2 := s1
  clear hW0 k0 s0 hW1 k1 s1
  obtain ⟨c0, c1, c2, c3, c4, c5, c6, c7, c8⟩ := B0.out.nine
  go_enter Try.func62, Try.ntmps62
  go_upto_region 1 with fail
  rw [← HW.out]
  clear HW
  go_wp2_with fail
  with_reducible refine (taskOk_any ⟨prog, pc, st, why, what, timer, reg, grp, err⟩ _).mono ?_
  rintro e w1 ⟨rfl, hk⟩
  have K1 := Lib.hid (KW.out.trans hk)
  have z1 : W1.heap.size ≤ w1.heap.size := hk.size
  have A1 := Lib.hid (B0.out.kept hk (.inl (Nat.le_refl _)))
  have R1 := Lib.hid (B1.out.kept hk (.inl (Nat.le_refl _)))
  clear hk KW B0 B1 c0 c1 c2 c3 c4 c5 c6 c7 c8
  obtain ⟨r0, r1, r2, r3, r4, r5, r6, r7, r8⟩ := R1.out.nine
  obtain ⟨f0, f1, f2, f3, f4, f5, f6, f7, f8⟩ := R1.out.free9
  cases hb : tkB ⟨prog, pc, st, why, what, timer, reg, grp, err⟩
  · have hb' := Lib.hid hb
    clear hb
    go_wp2
    exact bodyPost_ret (v := .agg #[.int .i64 0, .int .i64 0, .int .i64 0, .int .i64 0, .int .i64 0, .int .i64 0, .int .i64 0, .int .i64 0, .int .i64 0]) (results_Parked _ _ (w.heap.size + 1) _ _ _ _ _ _ _ _ _ rfl (back9 (w := w) R1.out (by omega) K1.out _ _ _ _ _ _ _ _ _).2) rfl ⟨ret_tk (a := ⟨0, 0, 0, 0, 0, 0, 0, 0, 0⟩) (by unfold parkT; rw [if_neg (by rw [hb'.out]; decide)]; rfl), (back9 R1.out (by omega) K1.out _ _ _ _ _ _ _ _ _).1⟩
  have hb' := Lib.hid hb
  have hpc := tkB_pc hb
  simp only at hpc
  clear hb
  obtain ⟨c0, c1, c2, c3, c4, c5, c6, c7, c8⟩ := A1.out.nine
  by_cases hs : st = 0
  rotate_left
  · go_wp2
    exact bodyPost_ret (v := .agg #[.int .i64 prog, .int .i64 pc, .int .i64 st, .int .i64 why, .int .i64 what, .int .i64 timer, .int .i64 reg, .int .i64 grp, .int .i64 err]) (results_Parked _ _ (w.heap.size + 1) _ _ _ _ _ _ _ _ _ rfl (back9 (w := w) R1.out (by omega) K1.out _ _ _ _ _ _ _ _ _).2) rfl ⟨ret_tk (a := ⟨prog, pc, st, why, what, timer, reg, grp, err⟩) (by unfold parkT; rw [if_pos hb'.out, if_neg hs]), (back9 R1.out (by omega) K1.out _ _ _ _ _ _ _ _ _).1⟩
  subst hs
  obtain ⟨U, hU⟩ : ∃ U, U = w1.alloc (.cells #[.int .i64 prog, .int .i64 pc, .int .i64 1, .int .i64 y1, .int .i64 y2, .int .i64 y3, .int .i64 reg, .int .i64 grp, .int .i64 err] 35) := ⟨_, rfl⟩
  have kU : Kept 0 0 w1 U := by rw [hU]; exact Kept.alloc0 _ _
  have XU : Hid (Blk U w1.heap.size 35 #[.int .i64 prog, .int .i64 pc, .int .i64 1, .int .i64 y1, .int .i64 y2, .int .i64 y3, .int .i64 reg, .int .i64 grp, .int .i64 err]) := by show Blk _ _ _ _; rw [hU]; exact Blk.new _ _ _
  have AU := Lib.hid (A1.out.kept kU (.inl (Nat.le_refl _)))
  have RU := Lib.hid (R1.out.kept kU (.inl (Nat.le_refl _)))
  have KU := Lib.hid (K1.out.trans kU)
  have HU := Lib.hid hU
  clear kU hU A1 R1 K1
  go_upto_region 10 with fail
  rw [← HU.out]
  clear HU c0 c1 c2 c3 c4 c5 c6 c7 c8 r0 r1 r2 r3 r4 r5 r6 r7 r8 f0 f1 f2 f3 f4 f5 f6 f7 f8
  obtain ⟨c0, c1, c2, c3, c4, c5, c6, c7, c8⟩ := AU.out.nine
  obtain ⟨d0, d1, d2, d3, d4, d5, d6, d7, d8⟩ := XU.out.nine
  go_wp2_with fail
  with_reducible refine (either_any ⟨prog, pc, 0, why, what, timer, reg, grp, err⟩ ⟨prog, pc, 1, y1, y2, y3, reg, grp, err⟩ _).mono ?_
  rintro e w5 ⟨rfl, hk⟩
  have K5 := Lib.hid (KU.out.trans hk)
  have R5 := Lib.hid (RU.out.kept hk (.inl (Nat.le_refl _)))
  obtain ⟨y, hy⟩ : ∃ y : Tk, y = eitherT ⟨prog, pc, 0, why, what, timer, reg, grp, err⟩ ⟨prog, pc, 1, y1, y2, y3, reg, grp, err⟩ := ⟨_, rfl⟩
  rw [← hy]
  have HY := Lib.hid hy
  clear hk hy KU RU AU XU c0 c1 c2 c3 c4 c5 c6 c7 c8 d0 d1 d2 d3 d4 d5 d6 d7 d8
  obtain ⟨r0, r1, r2, r3, r4, r5, r6, r7, r8⟩ := R5.out.nine
  obtain ⟨f0, f1, f2, f3, f4, f5, f6, f7, f8⟩ := R5.out.free9
  go_wp2
  exact bodyPost_ret (v := .agg #[.int .i64 y.prog, .int .i64 y.pc, .int .i64 y.st, .int .i64 y.why, .int .i64 y.what, .int .i64 y.timer, .int .i64 y.reg, .int .i64 y.grp, .int .i64 y.err]) (results_Parked _ _ (w.heap.size + 1) _ _ _ _ _ _ _ _ _ rfl (back9 (w := w) R5.out (by omega) K5.out _ _ _ _ _ _ _ _ _).2) rfl ⟨ret_tk (a := y) (by rw [HY.out]; unfold parkT; rw [if_pos hb'.out, if_pos rfl]), (back9 R5.out (by omega) K5.out _ _ _ _ _ _ _ _ _).1⟩
set_option maxHeartbeats 3200000 in
theorem ready_any (t : Tk) (rg : Int) (w : World) :
    Calls Try.prog 39 #[.agg #[.int .i64 t.prog, .int .i64 t.pc, .int .i64 t.st, .int .i64 t.why, .int .i64 t.what, .int .i64 t.timer, .int .i64 t.reg, .int .i64 t.grp, .int .i64 t.err], .int .i64 rg] w fun e w' => e = .returned (.agg #[.int .i64 (readyT t rg).prog, .int .i64 (readyT t rg).pc, .int .i64 (readyT t rg).st, .int .i64 (readyT t rg).why, .int .i64 (readyT t rg).what, .int .i64 (readyT t rg).timer, .int .i64 (readyT t rg).reg, .int .i64 (readyT t rg).grp, .int .i64 (readyT t rg).err]) ∧ Kept 0 0 w w' := by
  obtain ⟨prog, pc, st, why, what, timer, reg, grp, err⟩ := t
  obtain ⟨W0, hW0⟩ : ∃ W, W = w.alloc (.cells #[.int .i64 prog, .int .i64 pc, .int .i64 st, .int .i64 why, .int .i64 what, .int .i64 timer, .int .i64 reg, .int .i64 grp, .int .i64 err] 35) := ⟨_, rfl⟩
  obtain ⟨W1, hW1⟩ : ∃ W, W = W0.alloc (.cells #[.int .i64 0, .int .i64 0, .int .i64 0, .int .i64 0, .int .i64 0, .int .i64 0, .int .i64 0, .int .i64 0, .int .i64 0] 35) := ⟨_, rfl⟩
  have k0 : Kept 0 0 w W0 := by rw [hW0]; exact Kept.alloc0 _ _
  have k1 : Kept 0 0 w W1 := by rw [hW1]; exact k0.alloc _
  have s0 : W0.heap.size = w.heap.size + 1 := by rw [hW0]; exact size_alloc _ _
  have s1 : W1.heap.size = w.heap.size + 2 := by rw [hW1, size_alloc, s0]
  have B0 : Hid (Blk W1 w.heap.size 35 #[.int .i64 prog, .int .i64 pc, .int .i64 st, .int .i64 why, .int .i64 what, .int .i64 timer, .int .i64 reg, .int .i64 grp, .int .i64 err]) := by
    have h := Blk.new w 35 #[.int .i64 prog, .int .i64 pc, .int .i64 st, .int .i64 why, .int .i64 what, .int .i64 timer, .int .i64 reg, .int .i64 grp, .int .i64 err]
    rw [← hW0] at h
    show Blk _ _ _ _; rw [hW1]; refine Blk.alloc ?_ _
    exact h
  have B1 : Hid (Blk W1 (w.heap.size + 1) 35 #[.int .i64 0, .int .i64 0, .int .i64 0, .int .i64 0, .int .i64 0, .int .i64 0, .int .i64 0, .int .i64 0, .int .i64 0]) := by
    have h := Blk.new W0 35 #[.int .i64 0, .int .i64 0, .int .i64 0, .int .i64 0, .int .i64 0, .int .i64 0, .int .i64 0, .int .i64 0, .int .i64 0]
    rw [s0] at h; rw [← hW1] at h
    show Blk _ _ _ _
    exact h
  have HW : Hid (W1 = ((w.alloc (.cells #[.int .i64 prog, .int .i64 pc, .int .i64 st, .int .i64 why, .int .i64 what, .int .i64 timer, .int .i64 reg, .int .i64 grp, .int .i64 err] 35)).alloc (.cells #[.int .i64 0, .int .i64 0, .int .i64 0, .int .i64 0, .int .i64 0, .int .i64 0, .int .i64 0, .int .i64 0, .int .i64 0] 35))) := by show _ = _; rw [hW1, hW0]
  have KW := Lib.hid k1
  have SW : W1.heap.size = w.heap.size + 2 := s1
  clear hW0 k0 s0 hW1 k1 s1
  obtain ⟨c0, c1, c2, c3, c4, c5, c6, c7, c8⟩ := B0.out.nine
  go_enter Try.func39, Try.ntmps39
  go_upto_region 1 with fail
  rw [← HW.out]
  clear HW
  go_wp2_with fail
  with_reducible refine (taskOk_any ⟨prog, pc, st, why, what, timer, reg, grp, err⟩ _).mono ?_
  rintro e w1 ⟨rfl, hk⟩
  have K1 := Lib.hid (KW.out.trans hk)
  have z1 : W1.heap.size ≤ w1.heap.size := hk.size
  have A1 := Lib.hid (B0.out.kept hk (.inl (Nat.le_refl _)))
  have R1 := Lib.hid (B1.out.kept hk (.inl (Nat.le_refl _)))
  clear hk KW B0 B1 c0 c1 c2 c3 c4 c5 c6 c7 c8
  obtain ⟨r0, r1, r2, r3, r4, r5, r6, r7, r8⟩ := R1.out.nine
  obtain ⟨f0, f1, f2, f3, f4, f5, f6, f7, f8⟩ := R1.out.free9
  cases hb : tkB ⟨prog, pc, st, why, what, timer, reg, grp, err⟩
  · have hb' := Lib.hid hb
    clear hb
    go_wp2
    exact bodyPost_ret (v := .agg #[.int .i64 0, .int .i64 0, .int .i64 0, .int .i64 0, .int .i64 0, .int .i64 0, .int .i64 0, .int .i64 0, .int .i64 0]) (results_Readied _ _ (w.heap.size + 1) _ _ _ _ _ _ _ _ _ rfl (back9 (w := w) R1.out (by omega) K1.out _ _ _ _ _ _ _ _ _).2) rfl ⟨ret_tk (a := ⟨0, 0, 0, 0, 0, 0, 0, 0, 0⟩) (by unfold readyT; rw [if_neg (by rw [hb'.out]; decide)]; rfl), (back9 R1.out (by omega) K1.out _ _ _ _ _ _ _ _ _).1⟩
  have hb' := Lib.hid hb
  have hpc := tkB_pc hb
  simp only at hpc
  clear hb
  obtain ⟨c0, c1, c2, c3, c4, c5, c6, c7, c8⟩ := A1.out.nine
  by_cases hs : st = 2
  · subst hs
    go_wp2
    exact bodyPost_ret (v := .agg #[.int .i64 prog, .int .i64 pc, .int .i64 2, .int .i64 why, .int .i64 what, .int .i64 timer, .int .i64 reg, .int .i64 grp, .int .i64 err]) (results_Readied _ _ (w.heap.size + 1) _ _ _ _ _ _ _ _ _ rfl (back9 (w := w) R1.out (by omega) K1.out _ _ _ _ _ _ _ _ _).2) rfl ⟨ret_tk (a := ⟨prog, pc, 2, why, what, timer, reg, grp, err⟩) (by unfold readyT; rw [if_pos hb'.out, if_pos rfl]), (back9 R1.out (by omega) K1.out _ _ _ _ _ _ _ _ _).1⟩
  go_wp2_with fail
  with_reducible refine (free_lit prog pc st why what timer reg grp err 0 _).mono ?_
  rintro e w2 ⟨rfl, hk⟩
  have K2 := Lib.hid (K1.out.trans hk)
  have z2 := hk.size
  have A2 := Lib.hid (A1.out.kept hk (.inl (Nat.le_refl _)))
  have R2 := Lib.hid (R1.out.kept hk (.inl (Nat.le_refl _)))
  clear hk A1 R1 c0 c1 c2 c3 c4 c5 c6 c7 c8 r0 r1 r2 r3 r4 r5 r6 r7 r8 f0 f1 f2 f3 f4 f5 f6 f7 f8
  obtain ⟨c0, c1, c2, c3, c4, c5, c6, c7, c8⟩ := A2.out.nine
  have E1 : Hid ((w2.alloc (.cells #[.int .i64 prog, .int .i64 pc, .int .i64 0, .int .i64 0, .int .i64 0, .int .i64 (-1), .int .i64 reg, .int .i64 grp, .int .i64 err] 35)).cell? ⟨w.heap.size, 1, none⟩ = some (.int .i64 pc)) := (A2.out.alloc _).cell 1
  obtain ⟨U, hU⟩ : ∃ U, U = w2.alloc (.cells #[.int .i64 prog, .int .i64 (pc + 1), .int .i64 0, .int .i64 0, .int .i64 0, .int .i64 (-1), .int .i64 rg, .int .i64 grp, .int .i64 err] 35) := ⟨_, rfl⟩
  have kU : Kept 0 0 w2 U := by rw [hU]; exact Kept.alloc0 _ _
  have XU : Hid (Blk U w2.heap.size 35 #[.int .i64 prog, .int .i64 (pc + 1), .int .i64 0, .int .i64 0, .int .i64 0, .int .i64 (-1), .int .i64 rg, .int .i64 grp, .int .i64 err]) := by show Blk _ _ _ _; rw [hU]; exact Blk.new _ _ _
  have AU := Lib.hid (A2.out.kept kU (.inl (Nat.le_refl _)))
  have RU := Lib.hid (R2.out.kept kU (.inl (Nat.le_refl _)))
  have KU := Lib.hid (K2.out.trans kU)
  have HU := Lib.hid hU
  clear kU hU A2 R2 K2
  have e1 : (w2.alloc (.cells #[.int .i64 prog, .int .i64 pc, .int .i64 0, .int .i64 0, .int .i64 0, .int .i64 (-1), .int .i64 reg, .int .i64 grp, .int .i64 err] 35)).cell? ⟨w.heap.size, 1, none⟩ = some (.int .i64 pc) := E1.out
  go_upto_region 8 with fail
  rw [← HU.out]
  clear e1 E1 HU c0 c1 c2 c3 c4 c5 c6 c7 c8
  obtain ⟨c0, c1, c2, c3, c4, c5, c6, c7, c8⟩ := AU.out.nine
  obtain ⟨d0, d1, d2, d3, d4, d5, d6, d7, d8⟩ := XU.out.nine
  go_wp2_with fail
  with_reducible refine (either_any ⟨prog, pc, st, why, what, timer, reg, grp, err⟩ ⟨prog, (pc + 1), 0, 0, 0, -1, rg, grp, err⟩ _).mono ?_
  rintro e w5 ⟨rfl, hk⟩
  have K5 := Lib.hid (KU.out.trans hk)
  have R5 := Lib.hid (RU.out.kept hk (.inl (Nat.le_refl _)))
  obtain ⟨y, hy⟩ : ∃ y : Tk, y = eitherT ⟨prog, pc, st, why, what, timer, reg, grp, err⟩ ⟨prog, (pc + 1), 0, 0, 0, -1, rg, grp, err⟩ := ⟨_, rfl⟩
  rw [← hy]
  have HY := Lib.hid hy
  clear hk hy KU RU AU XU c0 c1 c2 c3 c4 c5 c6 c7 c8 d0 d1 d2 d3 d4 d5 d6 d7 d8
  obtain ⟨r0, r1, r2, r3, r4, r5, r6, r7, r8⟩ := R5.out.nine
  obtain ⟨f0, f1, f2, f3, f4, f5, f6, f7, f8⟩ := R5.out.free9
  go_wp2
  exact bodyPost_ret (v := .agg #[.int .i64 y.prog, .int .i64 y.pc, .int .i64 y.st, .int .i64 y.why, .int .i64 y.what, .int .i64 y.timer, .int .i64 y.reg, .int .i64 y.grp, .int .i64 y.err]) (results_Readied _ _ (w.heap.size + 1) _ _ _ _ _ _ _ _ _ rfl (back9 (w := w) R5.out (by omega) K5.out _ _ _ _ _ _ _ _ _).2) rfl ⟨ret_tk (a := y) (by rw [HY.out]; unfold readyT; rw [if_pos hb'.out, if_neg hs]), (back9 R5.out (by omega) K5.out _ _ _ _ _ _ _ _ _).1⟩
set_option maxHeartbeats 3200000 in
theorem end_any (t : Tk) (er : Int) (w : World) :
    Calls Try.prog 63 #[.agg #[.int .i64 t.prog, .int .i64 t.pc, .int .i64 t.st, .int .i64 t.why, .int .i64 t.what, .int .i64 t.timer, .int .i64 t.reg, .int .i64 t.grp, .int .i64 t.err], .int .i64 er] w fun e w' => e = .returned (.agg #[.int .i64 (endT t er).prog, .int .i64 (endT t er).pc, .int .i64 (endT t er).st, .int .i64 (endT t er).why, .int .i64 (endT t er).what, .int .i64 (endT t er).timer, .int .i64 (endT t er).reg, .int .i64 (endT t er).grp, .int .i64 (endT t er).err]) ∧ Kept 0 0 w w' := by
  obtain ⟨prog, pc, st, why, what, timer, reg, grp, err⟩ := t
  obtain ⟨W0, hW0⟩ : ∃ W, W = w.alloc (.cells #[.int .i64 prog, .int .i64 pc, .int .i64 st, .int .i64 why, .int .i64 what, .int .i64 timer, .int .i64 reg, .int .i64 grp, .int .i64 err] 35) := ⟨_, rfl⟩
  obtain ⟨W1, hW1⟩ : ∃ W, W = W0.alloc (.cells #[.int .i64 0, .int .i64 0, .int .i64 0, .int .i64 0, .int .i64 0, .int .i64 0, .int .i64 0, .int .i64 0, .int .i64 0] 35) := ⟨_, rfl⟩
  have k0 : Kept 0 0 w W0 := by rw [hW0]; exact Kept.alloc0 _ _
  have k1 : Kept 0 0 w W1 := by rw [hW1]; exact k0.alloc _
  have s0 : W0.heap.size = w.heap.size + 1 := by rw [hW0]; exact size_alloc _ _
  have s1 : W1.heap.size = w.heap.size + 2 := by rw [hW1, size_alloc, s0]
  have B0 : Hid (Blk W1 w.heap.size 35 #[.int .i64 prog, .int .i64 pc, .int .i64 st, .int .i64 why, .int .i64 what, .int .i64 timer, .int .i64 reg, .int .i64 grp, .int .i64 err]) := by
    have h := Blk.new w 35 #[.int .i64 prog, .int .i64 pc, .int .i64 st, .int .i64 why, .int .i64 what, .int .i64 timer, .int .i64 reg, .int .i64 grp, .int .i64 err]
    rw [← hW0] at h
    show Blk _ _ _ _; rw [hW1]; refine Blk.alloc ?_ _
    exact h
  have B1 : Hid (Blk W1 (w.heap.size + 1) 35 #[.int .i64 0, .int .i64 0, .int .i64 0, .int .i64 0, .int .i64 0, .int .i64 0, .int .i64 0, .int .i64 0, .int .i64 0]) := by
    have h := Blk.new W0 35 #[.int .i64 0, .int .i64 0, .int .i64 0, .int .i64 0, .int .i64 0, .int .i64 0, .int .i64 0, .int .i64 0, .int .i64 0]
    rw [s0] at h; rw [← hW1] at h
    show Blk _ _ _ _
    exact h
  have HW : Hid (W1 = ((w.alloc (.cells #[.int .i64 prog, .int .i64 pc, .int .i64 st, .int .i64 why, .int .i64 what, .int .i64 timer, .int .i64 reg, .int .i64 grp, .int .i64 err] 35)).alloc (.cells #[.int .i64 0, .int .i64 0, .int .i64 0, .int .i64 0, .int .i64 0, .int .i64 0, .int .i64 0, .int .i64 0, .int .i64 0] 35))) := by show _ = _; rw [hW1, hW0]
  have KW := Lib.hid k1
  have SW : W1.heap.size = w.heap.size + 2 := s1
  clear hW0 k0 s0 hW1 k1 s1
  obtain ⟨c0, c1, c2, c3, c4, c5, c6, c7, c8⟩ := B0.out.nine
  go_enter Try.func63, Try.ntmps63
  go_upto_region 1 with fail
  rw [← HW.out]
  clear HW
  go_wp2_with fail
  with_reducible refine (taskOk_any ⟨prog, pc, st, why, what, timer, reg, grp, err⟩ _).mono ?_
  rintro e w1 ⟨rfl, hk⟩
  have K1 := Lib.hid (KW.out.trans hk)
  have z1 : W1.heap.size ≤ w1.heap.size := hk.size
  have A1 := Lib.hid (B0.out.kept hk (.inl (Nat.le_refl _)))
  have R1 := Lib.hid (B1.out.kept hk (.inl (Nat.le_refl _)))
  clear hk KW B0 B1 c0 c1 c2 c3 c4 c5 c6 c7 c8
  obtain ⟨r0, r1, r2, r3, r4, r5, r6, r7, r8⟩ := R1.out.nine
  obtain ⟨f0, f1, f2, f3, f4, f5, f6, f7, f8⟩ := R1.out.free9
  cases hb : tkB ⟨prog, pc, st, why, what, timer, reg, grp, err⟩
  · have hb' := Lib.hid hb
    clear hb
    go_wp2
    exact bodyPost_ret (v := .agg #[.int .i64 0, .int .i64 0, .int .i64 0, .int .i64 0, .int .i64 0, .int .i64 0, .int .i64 0, .int .i64 0, .int .i64 0]) (results_Ended _ _ (w.heap.size + 1) _ _ _ _ _ _ _ _ _ rfl (back9 (w := w) R1.out (by omega) K1.out _ _ _ _ _ _ _ _ _).2) rfl ⟨ret_tk (a := ⟨0, 0, 0, 0, 0, 0, 0, 0, 0⟩) (by unfold endT; rw [if_neg (by rw [hb'.out]; decide)]; rfl), (back9 R1.out (by omega) K1.out _ _ _ _ _ _ _ _ _).1⟩
  have hb' := Lib.hid hb
  have hpc := tkB_pc hb
  simp only at hpc
  clear hb
  obtain ⟨c0, c1, c2, c3, c4, c5, c6, c7, c8⟩ := A1.out.nine
  by_cases hs : st = 2
  · subst hs
    go_wp2
    exact bodyPost_ret (v := .agg #[.int .i64 prog, .int .i64 pc, .int .i64 2, .int .i64 why, .int .i64 what, .int .i64 timer, .int .i64 reg, .int .i64 grp, .int .i64 err]) (results_Ended _ _ (w.heap.size + 1) _ _ _ _ _ _ _ _ _ rfl (back9 (w := w) R1.out (by omega) K1.out _ _ _ _ _ _ _ _ _).2) rfl ⟨ret_tk (a := ⟨prog, pc, 2, why, what, timer, reg, grp, err⟩) (by unfold endT; rw [if_pos hb'.out, if_pos rfl]), (back9 R1.out (by omega) K1.out _ _ _ _ _ _ _ _ _).1⟩
  go_wp2_with fail
  with_reducible refine (free_lit prog pc st why what timer reg grp err 2 _).mono ?_
  rintro e w2 ⟨rfl, hk⟩
  have K2 := Lib.hid (K1.out.trans hk)
  have z2 := hk.size
  have A2 := Lib.hid (A1.out.kept hk (.inl (Nat.le_refl _)))
  have R2 := Lib.hid (R1.out.kept hk (.inl (Nat.le_refl _)))
  clear hk A1 R1 c0 c1 c2 c3 c4 c5 c6 c7 c8 r0 r1 r2 r3 r4 r5 r6 r7 r8 f0 f1 f2 f3 f4 f5 f6 f7 f8
  obtain ⟨c0, c1, c2, c3, c4, c5, c6, c7, c8⟩ := A2.out.nine
  obtain ⟨U, hU⟩ : ∃ U, U = w2.alloc (.cells #[.int .i64 prog, .int .i64 pc, .int .i64 2, .int .i64 0, .int .i64 0, .int .i64 (-1), .int .i64 reg, .int .i64 grp, .int .i64 er] 35) := ⟨_, rfl⟩
  have kU : Kept 0 0 w2 U := by rw [hU]; exact Kept.alloc0 _ _
  have XU : Hid (Blk U w2.heap.size 35 #[.int .i64 prog, .int .i64 pc, .int .i64 2, .int .i64 0, .int .i64 0, .int .i64 (-1), .int .i64 reg, .int .i64 grp, .int .i64 er]) := by show Blk _ _ _ _; rw [hU]; exact Blk.new _ _ _
  have AU := Lib.hid (A2.out.kept kU (.inl (Nat.le_refl _)))
  have RU := Lib.hid (R2.out.kept kU (.inl (Nat.le_refl _)))
  have KU := Lib.hid (K2.out.trans kU)
  have HU := Lib.hid hU
  clear kU hU A2 R2 K2
  go_upto_region 7 with fail
  rw [← HU.out]
  clear HU c0 c1 c2 c3 c4 c5 c6 c7 c8
  obtain ⟨c0, c1, c2, c3, c4, c5, c6, c7, c8⟩ := AU.out.nine
  obtain ⟨d0, d1, d2, d3, d4, d5, d6, d7, d8⟩ := XU.out.nine
  go_wp2_with fail
  with_reducible refine (either_any ⟨prog, pc, st, why, what, timer, reg, grp, err⟩ ⟨prog, pc, 2, 0, 0, -1, reg, grp, er⟩ _).mono ?_
  rintro e w5 ⟨rfl, hk⟩
  have K5 := Lib.hid (KU.out.trans hk)
  have R5 := Lib.hid (RU.out.kept hk (.inl (Nat.le_refl _)))
  obtain ⟨y, hy⟩ : ∃ y : Tk, y = eitherT ⟨prog, pc, st, why, what, timer, reg, grp, err⟩ ⟨prog, pc, 2, 0, 0, -1, reg, grp, er⟩ := ⟨_, rfl⟩
  rw [← hy]
  have HY := Lib.hid hy
  clear hk hy KU RU AU XU c0 c1 c2 c3 c4 c5 c6 c7 c8 d0 d1 d2 d3 d4 d5 d6 d7 d8
  obtain ⟨r0, r1, r2, r3, r4, r5, r6, r7, r8⟩ := R5.out.nine
  obtain ⟨f0, f1, f2, f3, f4, f5, f6, f7, f8⟩ := R5.out.free9
  go_wp2
  exact bodyPost_ret (v := .agg #[.int .i64 y.prog, .int .i64 y.pc, .int .i64 y.st, .int .i64 y.why, .int .i64 y.what, .int .i64 y.timer, .int .i64 y.reg, .int .i64 y.grp, .int .i64 y.err]) (results_Ended _ _ (w.heap.size + 1) _ _ _ _ _ _ _ _ _ rfl (back9 (w := w) R5.out (by omega) K5.out _ _ _ _ _ _ _ _ _).2) rfl ⟨ret_tk (a := y) (by rw [HY.out]; unfold endT; rw [if_pos hb'.out, if_neg hs]), (back9 R5.out (by omega) K5.out _ _ _ _ _ _ _ _ _).1⟩
end Go.Proofs.Ytfpnpjpcjbndoaa
