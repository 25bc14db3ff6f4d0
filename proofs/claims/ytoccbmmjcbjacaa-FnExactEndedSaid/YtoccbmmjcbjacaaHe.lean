/- The exact laws of chapter 10, under what is asked of the program's functions (Does..). -/
import Derived.Test.YtoccbmmjcbjacaaHd
namespace Go.Proofs.Ytoccbmmjcbjacaa
open Go.RowKit Go.Sort

def DoesTaskOk : Prop := ∀ (t : Tk) (w : World), Calls Try.prog 14 #[.agg #[.int .i64 t.prog, .int .i64 t.pc, .int .i64 t.st, .int .i64 t.why, .int .i64 t.what, .int .i64 t.timer, .int .i64 t.reg, .int .i64 t.grp, .int .i64 t.err]] w fun e w' => e = .returned (.bool (tkB t)) ∧ Kept 0 0 w w'
def DoesNewTask : Prop := ∀ (p g : Int) (w : World), Calls Try.prog 29 #[.int .i64 p, .int .i64 g] w fun e w' => e = .returned ((.agg #[.int .i64 (newT p g).prog, .int .i64 (newT p g).pc, .int .i64 (newT p g).st, .int .i64 (newT p g).why, .int .i64 (newT p g).what, .int .i64 (newT p g).timer, .int .i64 (newT p g).reg, .int .i64 (newT p g).grp, .int .i64 (newT p g).err])) ∧ Kept 0 0 w w'
def DoesParked : Prop := ∀ (t : Tk) (y1 y2 y3 : Int) (w : World), Calls Try.prog 15 #[.agg #[.int .i64 t.prog, .int .i64 t.pc, .int .i64 t.st, .int .i64 t.why, .int .i64 t.what, .int .i64 t.timer, .int .i64 t.reg, .int .i64 t.grp, .int .i64 t.err], .int .i64 y1, .int .i64 y2, .int .i64 y3] w fun e w' => e = .returned ((.agg #[.int .i64 (parkT t y1 y2 y3).prog, .int .i64 (parkT t y1 y2 y3).pc, .int .i64 (parkT t y1 y2 y3).st, .int .i64 (parkT t y1 y2 y3).why, .int .i64 (parkT t y1 y2 y3).what, .int .i64 (parkT t y1 y2 y3).timer, .int .i64 (parkT t y1 y2 y3).reg, .int .i64 (parkT t y1 y2 y3).grp, .int .i64 (parkT t y1 y2 y3).err])) ∧ Kept 0 0 w w'
def DoesReadied : Prop := ∀ (t : Tk) (rg : Int) (w : World), Calls Try.prog 17 #[.agg #[.int .i64 t.prog, .int .i64 t.pc, .int .i64 t.st, .int .i64 t.why, .int .i64 t.what, .int .i64 t.timer, .int .i64 t.reg, .int .i64 t.grp, .int .i64 t.err], .int .i64 rg] w fun e w' => e = .returned ((.agg #[.int .i64 (readyT t rg).prog, .int .i64 (readyT t rg).pc, .int .i64 (readyT t rg).st, .int .i64 (readyT t rg).why, .int .i64 (readyT t rg).what, .int .i64 (readyT t rg).timer, .int .i64 (readyT t rg).reg, .int .i64 (readyT t rg).grp, .int .i64 (readyT t rg).err])) ∧ Kept 0 0 w w'
def DoesEnded : Prop := ∀ (t : Tk) (er : Int) (w : World), Calls Try.prog 18 #[.agg #[.int .i64 t.prog, .int .i64 t.pc, .int .i64 t.st, .int .i64 t.why, .int .i64 t.what, .int .i64 t.timer, .int .i64 t.reg, .int .i64 t.grp, .int .i64 t.err], .int .i64 er] w fun e w' => e = .returned ((.agg #[.int .i64 (endT t er).prog, .int .i64 (endT t er).pc, .int .i64 (endT t er).st, .int .i64 (endT t er).why, .int .i64 (endT t er).what, .int .i64 (endT t er).timer, .int .i64 (endT t er).reg, .int .i64 (endT t er).grp, .int .i64 (endT t er).err])) ∧ Kept 0 0 w w'
set_option maxHeartbeats 1600000 in
theorem lawTaskOk (hd : DoesTaskOk) (t : Tk) (w : World) :
    Calls Try.prog 6 #[.agg #[.int .i64 t.prog, .int .i64 t.pc, .int .i64 t.st, .int .i64 t.why, .int .i64 t.what, .int .i64 t.timer, .int .i64 t.reg, .int .i64 t.grp, .int .i64 t.err]] w fun e w' => e = .returned (.bool true) ∧ Kept 0 0 w w' := by
  unfold DoesTaskOk at hd
  have HD := Lib.hid hd
  clear hd
  obtain ⟨W, hW⟩ : ∃ W, W = w.alloc (.cells #[.int .i64 t.prog, .int .i64 t.pc, .int .i64 t.st, .int .i64 t.why, .int .i64 t.what, .int .i64 t.timer, .int .i64 t.reg, .int .i64 t.grp, .int .i64 t.err] 44) := ⟨_, rfl⟩
  have K0 : Hid (Kept 0 0 w W) := by show Kept _ _ _ _; rw [hW]; exact Kept.alloc0 _ _
  have A0 : Hid (Blk W w.heap.size 44 #[.int .i64 t.prog, .int .i64 t.pc, .int .i64 t.st, .int .i64 t.why, .int .i64 t.what, .int .i64 t.timer, .int .i64 t.reg, .int .i64 t.grp, .int .i64 t.err]) := by show Blk _ _ _ _; rw [hW]; exact Blk.new _ _ _
  have HW := Lib.hid hW
  clear hW
  obtain ⟨c0, c1, c2, c3, c4, c5, c6, c7, c8⟩ := A0.out.nine
  go_enter Try.func6, Try.ntmps6
  go_upto_region 1 with fail
  rw [← HW.out]
  clear HW
  go_wp2_with fail
  with_reducible refine (toTask_any t _).mono ?_
  rintro e w1 ⟨rfl, k1⟩
  go_wp2_with fail
  with_reducible refine (taskOk_any t _).mono ?_
  rintro e w2 ⟨rfl, k2⟩
  have K2 := Lib.hid (K0.out.trans (k1.trans k2))
  have A2 := Lib.hid (A0.out.kept (k1.trans k2) (.inl (Nat.le_refl _)))
  clear k1 k2 A0 K0 c0 c1 c2 c3 c4 c5 c6 c7 c8
  obtain ⟨y, hy⟩ : ∃ y : Bool, y = tkB t := ⟨_, rfl⟩
  rw [← hy]
  have HY := Lib.hid hy
  clear hy
  obtain ⟨c0, c1, c2, c3, c4, c5, c6, c7, c8⟩ := A2.out.nine
  go_wp2_with fail
  with_reducible refine (toTask_any t _).mono ?_
  rintro e w3 ⟨rfl, k3⟩
  go_wp2_with fail
  with_reducible refine (HD.out t _).mono ?_
  rintro e w4 ⟨rfl, k4⟩
  have K4 := Lib.hid (K2.out.trans (k3.trans k4))
  clear k3 k4 c0 c1 c2 c3 c4 c5 c6 c7 c8 A2
  rw [← HY.out]
  have q1 : (y != y) = false := by simp
  go_wp2_with fail
  go_ret
  exact ⟨rfl, K4.out⟩
set_option maxHeartbeats 1600000 in
theorem lawNewTask (hd : DoesNewTask) (p g : Int) (w : World) :
    Calls Try.prog 7 #[.int .i64 p, .int .i64 g] w fun e w' => e = .returned (.bool true) ∧ Kept 0 0 w w' := by
  unfold DoesNewTask at hd
  have HD := Lib.hid hd
  clear hd
  go_enter Try.func7, Try.ntmps7
  go_wp2_with fail
  with_reducible refine (newTask_any p g _).mono ?_
  rintro e w2 ⟨rfl, k2⟩
  have K2 := Lib.hid k2
  clear k2
  obtain ⟨y, hy⟩ : ∃ y : Tk, y = newT p g := ⟨_, rfl⟩
  rw [← hy]
  have HY := Lib.hid hy
  clear hy
  obtain ⟨U, hU⟩ : ∃ U, U = w2.alloc (.cells #[.int .i64 y.prog, .int .i64 y.pc, .int .i64 y.st, .int .i64 y.why, .int .i64 y.what, .int .i64 y.timer, .int .i64 y.reg, .int .i64 y.grp, .int .i64 y.err] 25) := ⟨_, rfl⟩
  have kU : Kept 0 0 w2 U := by rw [hU]; exact Kept.alloc0 _ _
  have YU : Hid (Blk U w2.heap.size 25 #[.int .i64 y.prog, .int .i64 y.pc, .int .i64 y.st, .int .i64 y.why, .int .i64 y.what, .int .i64 y.timer, .int .i64 y.reg, .int .i64 y.grp, .int .i64 y.err]) := by show Blk _ _ _ _; rw [hU]; exact Blk.new _ _ _
  have KU := Lib.hid (K2.out.trans kU)
  have HU := Lib.hid hU
  clear kU hU K2
  go_upto_region 2 with fail
  rw [← HU.out]
  clear HU
  go_wp2_with fail
  with_reducible refine (HD.out p g _).mono ?_
  rintro e w4 ⟨rfl, k4⟩
  have k5 := k4
  have K4 := Lib.hid (KU.out.trans k5)
  have Y4 := Lib.hid (YU.out.kept k5 (.inl (Nat.le_refl _)))
  clear k4 k5 KU YU
  rw [← HY.out]
  obtain ⟨U2, hU⟩ : ∃ U, U = w4.alloc (.cells #[.int .i64 y.prog, .int .i64 y.pc, .int .i64 y.st, .int .i64 y.why, .int .i64 y.what, .int .i64 y.timer, .int .i64 y.reg, .int .i64 y.grp, .int .i64 y.err] 25) := ⟨_, rfl⟩
  have kU : Kept 0 0 w4 U2 := by rw [hU]; exact Kept.alloc0 _ _
  have G2 : Hid (Blk U2 w4.heap.size 25 #[.int .i64 y.prog, .int .i64 y.pc, .int .i64 y.st, .int .i64 y.why, .int .i64 y.what, .int .i64 y.timer, .int .i64 y.reg, .int .i64 y.grp, .int .i64 y.err]) := by show Blk _ _ _ _; rw [hU]; exact Blk.new _ _ _
  have Y2 := Lib.hid (Y4.out.kept kU (.inl (Nat.le_refl _)))
  have KU2 := Lib.hid (K4.out.trans kU)
  have HU := Lib.hid hU
  clear kU hU K4 Y4
  go_upto_region 3 with fail
  rw [← HU.out]
  clear HU
  obtain ⟨c0, c1, c2, c3, c4, c5, c6, c7, c8⟩ := Y2.out.nine
  obtain ⟨d0, d1, d2, d3, d4, d5, d6, d7, d8⟩ := G2.out.nine
  go_wp2_with fail
  with_reducible refine (eqTask_same y _).mono ?_
  rintro e w5 ⟨rfl, k5⟩
  have K5 := Lib.hid (KU2.out.trans k5)
  clear k5 c0 c1 c2 c3 c4 c5 c6 c7 c8 d0 d1 d2 d3 d4 d5 d6 d7 d8
  go_wp2_with fail
  go_ret
  exact ⟨rfl, K5.out⟩
set_option maxHeartbeats 1600000 in
theorem lawParked (hd : DoesParked) (t : Tk) (y1 y2 y3 : Int) (w : World) :
    Calls Try.prog 8 #[.agg #[.int .i64 t.prog, .int .i64 t.pc, .int .i64 t.st, .int .i64 t.why, .int .i64 t.what, .int .i64 t.timer, .int .i64 t.reg, .int .i64 t.grp, .int .i64 t.err], .int .i64 y1, .int .i64 y2, .int .i64 y3] w fun e w' => e = .returned (.bool true) ∧ Kept 0 0 w w' := by
  unfold DoesParked at hd
  have HD := Lib.hid hd
  clear hd
  obtain ⟨W, hW⟩ : ∃ W, W = w.alloc (.cells #[.int .i64 t.prog, .int .i64 t.pc, .int .i64 t.st, .int .i64 t.why, .int .i64 t.what, .int .i64 t.timer, .int .i64 t.reg, .int .i64 t.grp, .int .i64 t.err] 44) := ⟨_, rfl⟩
  have K0 : Hid (Kept 0 0 w W) := by show Kept _ _ _ _; rw [hW]; exact Kept.alloc0 _ _
  have A0 : Hid (Blk W w.heap.size 44 #[.int .i64 t.prog, .int .i64 t.pc, .int .i64 t.st, .int .i64 t.why, .int .i64 t.what, .int .i64 t.timer, .int .i64 t.reg, .int .i64 t.grp, .int .i64 t.err]) := by show Blk _ _ _ _; rw [hW]; exact Blk.new _ _ _
  have HW := Lib.hid hW
  clear hW
  obtain ⟨c0, c1, c2, c3, c4, c5, c6, c7, c8⟩ := A0.out.nine
  go_enter Try.func8, Try.ntmps8
  go_upto_region 1 with fail
  rw [← HW.out]
  clear HW
  go_wp2_with fail
  with_reducible refine (toTask_any t _).mono ?_
  rintro e w1 ⟨rfl, k1⟩
  go_wp2_with fail
  with_reducible refine (park_any t y1 y2 y3 _).mono ?_
  rintro e w2 ⟨rfl, k2⟩
  have K2 := Lib.hid (K0.out.trans (k1.trans k2))
  have A2 := Lib.hid (A0.out.kept (k1.trans k2) (.inl (Nat.le_refl _)))
  clear k1 k2 A0 K0 c0 c1 c2 c3 c4 c5 c6 c7 c8
  obtain ⟨y, hy⟩ : ∃ y : Tk, y = parkT t y1 y2 y3 := ⟨_, rfl⟩
  rw [← hy]
  have HY := Lib.hid hy
  clear hy
  obtain ⟨U, hU⟩ : ∃ U, U = w2.alloc (.cells #[.int .i64 y.prog, .int .i64 y.pc, .int .i64 y.st, .int .i64 y.why, .int .i64 y.what, .int .i64 y.timer, .int .i64 y.reg, .int .i64 y.grp, .int .i64 y.err] 25) := ⟨_, rfl⟩
  have kU : Kept 0 0 w2 U := by rw [hU]; exact Kept.alloc0 _ _
  have YU : Hid (Blk U w2.heap.size 25 #[.int .i64 y.prog, .int .i64 y.pc, .int .i64 y.st, .int .i64 y.why, .int .i64 y.what, .int .i64 y.timer, .int .i64 y.reg, .int .i64 y.grp, .int .i64 y.err]) := by show Blk _ _ _ _; rw [hU]; exact Blk.new _ _ _
  have AU := Lib.hid (A2.out.kept kU (.inl (Nat.le_refl _)))
  have KU := Lib.hid (K2.out.trans kU)
  have HU := Lib.hid hU
  clear kU hU K2 A2
  go_upto_region 2 with fail
  rw [← HU.out]
  clear HU
  obtain ⟨c0, c1, c2, c3, c4, c5, c6, c7, c8⟩ := AU.out.nine
  go_wp2_with fail
  with_reducible refine (toTask_any t _).mono ?_
  rintro e w3 ⟨rfl, k3⟩
  go_wp2_with fail
  with_reducible refine (HD.out t y1 y2 y3 _).mono ?_
  rintro e w4 ⟨rfl, k4⟩
  have k5 := k3.trans k4
  have K4 := Lib.hid (KU.out.trans k5)
  have Y4 := Lib.hid (YU.out.kept k5 (.inl (Nat.le_refl _)))
  clear k3 k4 k5 c0 c1 c2 c3 c4 c5 c6 c7 c8 AU KU YU
  rw [← HY.out]
  obtain ⟨U2, hU⟩ : ∃ U, U = w4.alloc (.cells #[.int .i64 y.prog, .int .i64 y.pc, .int .i64 y.st, .int .i64 y.why, .int .i64 y.what, .int .i64 y.timer, .int .i64 y.reg, .int .i64 y.grp, .int .i64 y.err] 25) := ⟨_, rfl⟩
  have kU : Kept 0 0 w4 U2 := by rw [hU]; exact Kept.alloc0 _ _
  have G2 : Hid (Blk U2 w4.heap.size 25 #[.int .i64 y.prog, .int .i64 y.pc, .int .i64 y.st, .int .i64 y.why, .int .i64 y.what, .int .i64 y.timer, .int .i64 y.reg, .int .i64 y.grp, .int .i64 y.err]) := by show Blk _ _ _ _; rw [hU]; exact Blk.new _ _ _
  have Y2 := Lib.hid (Y4.out.kept kU (.inl (Nat.le_refl _)))
  have KU2 := Lib.hid (K4.out.trans kU)
  have HU := Lib.hid hU
  clear kU hU K4 Y4
  go_upto_region 3 with fail
  rw [← HU.out]
  clear HU
  obtain ⟨c0, c1, c2, c3, c4, c5, c6, c7, c8⟩ := Y2.out.nine
  obtain ⟨d0, d1, d2, d3, d4, d5, d6, d7, d8⟩ := G2.out.nine
  go_wp2_with fail
  with_reducible refine (eqTask_same y _).mono ?_
  rintro e w5 ⟨rfl, k5⟩
  have K5 := Lib.hid (KU2.out.trans k5)
  clear k5 c0 c1 c2 c3 c4 c5 c6 c7 c8 d0 d1 d2 d3 d4 d5 d6 d7 d8
  go_wp2_with fail
  go_ret
  exact ⟨rfl, K5.out⟩
set_option maxHeartbeats 1600000 in
theorem lawReadied (hd : DoesReadied) (t : Tk) (rg : Int) (w : World) :
    Calls Try.prog 9 #[.agg #[.int .i64 t.prog, .int .i64 t.pc, .int .i64 t.st, .int .i64 t.why, .int .i64 t.what, .int .i64 t.timer, .int .i64 t.reg, .int .i64 t.grp, .int .i64 t.err], .int .i64 rg] w fun e w' => e = .returned (.bool true) ∧ Kept 0 0 w w' := by
  unfold DoesReadied at hd
  have HD := Lib.hid hd
  clear hd
  obtain ⟨W, hW⟩ : ∃ W, W = w.alloc (.cells #[.int .i64 t.prog, .int .i64 t.pc, .int .i64 t.st, .int .i64 t.why, .int .i64 t.what, .int .i64 t.timer, .int .i64 t.reg, .int .i64 t.grp, .int .i64 t.err] 44) := ⟨_, rfl⟩
  have K0 : Hid (Kept 0 0 w W) := by show Kept _ _ _ _; rw [hW]; exact Kept.alloc0 _ _
  have A0 : Hid (Blk W w.heap.size 44 #[.int .i64 t.prog, .int .i64 t.pc, .int .i64 t.st, .int .i64 t.why, .int .i64 t.what, .int .i64 t.timer, .int .i64 t.reg, .int .i64 t.grp, .int .i64 t.err]) := by show Blk _ _ _ _; rw [hW]; exact Blk.new _ _ _
  have HW := Lib.hid hW
  clear hW
  obtain ⟨c0, c1, c2, c3, c4, c5, c6, c7, c8⟩ := A0.out.nine
  go_enter Try.func9, Try.ntmps9
  go_upto_region 1 with fail
  rw [← HW.out]
  clear HW
  go_wp2_with fail
  with_reducible refine (toTask_any t _).mono ?_
  rintro e w1 ⟨rfl, k1⟩
  go_wp2_with fail
  with_reducible refine (ready_any t rg _).mono ?_
  rintro e w2 ⟨rfl, k2⟩
  have K2 := Lib.hid (K0.out.trans (k1.trans k2))
  have A2 := Lib.hid (A0.out.kept (k1.trans k2) (.inl (Nat.le_refl _)))
  clear k1 k2 A0 K0 c0 c1 c2 c3 c4 c5 c6 c7 c8
  obtain ⟨y, hy⟩ : ∃ y : Tk, y = readyT t rg := ⟨_, rfl⟩
  rw [← hy]
  have HY := Lib.hid hy
  clear hy
  obtain ⟨U, hU⟩ : ∃ U, U = w2.alloc (.cells #[.int .i64 y.prog, .int .i64 y.pc, .int .i64 y.st, .int .i64 y.why, .int .i64 y.what, .int .i64 y.timer, .int .i64 y.reg, .int .i64 y.grp, .int .i64 y.err] 25) := ⟨_, rfl⟩
  have kU : Kept 0 0 w2 U := by rw [hU]; exact Kept.alloc0 _ _
  have YU : Hid (Blk U w2.heap.size 25 #[.int .i64 y.prog, .int .i64 y.pc, .int .i64 y.st, .int .i64 y.why, .int .i64 y.what, .int .i64 y.timer, .int .i64 y.reg, .int .i64 y.grp, .int .i64 y.err]) := by show Blk _ _ _ _; rw [hU]; exact Blk.new _ _ _
  have AU := Lib.hid (A2.out.kept kU (.inl (Nat.le_refl _)))
  have KU := Lib.hid (K2.out.trans kU)
  have HU := Lib.hid hU
  clear kU hU K2 A2
  go_upto_region 2 with fail
  rw [← HU.out]
  clear HU
  obtain ⟨c0, c1, c2, c3, c4, c5, c6, c7, c8⟩ := AU.out.nine
  go_wp2_with fail
  with_reducible refine (toTask_any t _).mono ?_
  rintro e w3 ⟨rfl, k3⟩
  go_wp2_with fail
  with_reducible refine (HD.out t rg _).mono ?_
  rintro e w4 ⟨rfl, k4⟩
  have k5 := k3.trans k4
  have K4 := Lib.hid (KU.out.trans k5)
  have Y4 := Lib.hid (YU.out.kept k5 (.inl (Nat.le_refl _)))
  clear k3 k4 k5 c0 c1 c2 c3 c4 c5 c6 c7 c8 AU KU YU
  rw [← HY.out]
  obtain ⟨U2, hU⟩ : ∃ U, U = w4.alloc (.cells #[.int .i64 y.prog, .int .i64 y.pc, .int .i64 y.st, .int .i64 y.why, .int .i64 y.what, .int .i64 y.timer, .int .i64 y.reg, .int .i64 y.grp, .int .i64 y.err] 25) := ⟨_, rfl⟩
  have kU : Kept 0 0 w4 U2 := by rw [hU]; exact Kept.alloc0 _ _
  have G2 : Hid (Blk U2 w4.heap.size 25 #[.int .i64 y.prog, .int .i64 y.pc, .int .i64 y.st, .int .i64 y.why, .int .i64 y.what, .int .i64 y.timer, .int .i64 y.reg, .int .i64 y.grp, .int .i64 y.err]) := by show Blk _ _ _ _; rw [hU]; exact Blk.new _ _ _
  have Y2 := Lib.hid (Y4.out.kept kU (.inl (Nat.le_refl _)))
  have KU2 := Lib.hid (K4.out.trans kU)
  have HU := Lib.hid hU
  clear kU hU K4 Y4
  go_upto_region 3 with fail
  rw [← HU.out]
  clear HU
  obtain ⟨c0, c1, c2, c3, c4, c5, c6, c7, c8⟩ := Y2.out.nine
  obtain ⟨d0, d1, d2, d3, d4, d5, d6, d7, d8⟩ := G2.out.nine
  go_wp2_with fail
  with_reducible refine (eqTask_same y _).mono ?_
  rintro e w5 ⟨rfl, k5⟩
  have K5 := Lib.hid (KU2.out.trans k5)
  clear k5 c0 c1 c2 c3 c4 c5 c6 c7 c8 d0 d1 d2 d3 d4 d5 d6 d7 d8
  go_wp2_with fail
  go_ret
  exact ⟨rfl, K5.out⟩
set_option maxHeartbeats 1600000 in
theorem lawEnded (hd : DoesEnded) (t : Tk) (er : Int) (w : World) :
    Calls Try.prog 10 #[.agg #[.int .i64 t.prog, .int .i64 t.pc, .int .i64 t.st, .int .i64 t.why, .int .i64 t.what, .int .i64 t.timer, .int .i64 t.reg, .int .i64 t.grp, .int .i64 t.err], .int .i64 er] w fun e w' => e = .returned (.bool true) ∧ Kept 0 0 w w' := by
  unfold DoesEnded at hd
  have HD := Lib.hid hd
  clear hd
  obtain ⟨W, hW⟩ : ∃ W, W = w.alloc (.cells #[.int .i64 t.prog, .int .i64 t.pc, .int .i64 t.st, .int .i64 t.why, .int .i64 t.what, .int .i64 t.timer, .int .i64 t.reg, .int .i64 t.grp, .int .i64 t.err] 44) := ⟨_, rfl⟩
  have K0 : Hid (Kept 0 0 w W) := by show Kept _ _ _ _; rw [hW]; exact Kept.alloc0 _ _
  have A0 : Hid (Blk W w.heap.size 44 #[.int .i64 t.prog, .int .i64 t.pc, .int .i64 t.st, .int .i64 t.why, .int .i64 t.what, .int .i64 t.timer, .int .i64 t.reg, .int .i64 t.grp, .int .i64 t.err]) := by show Blk _ _ _ _; rw [hW]; exact Blk.new _ _ _
  have HW := Lib.hid hW
  clear hW
  obtain ⟨c0, c1, c2, c3, c4, c5, c6, c7, c8⟩ := A0.out.nine
  go_enter Try.func10, Try.ntmps10
  go_upto_region 1 with fail
  rw [← HW.out]
  clear HW
  go_wp2_with fail
  with_reducible refine (toTask_any t _).mono ?_
  rintro e w1 ⟨rfl, k1⟩
  go_wp2_with fail
  with_reducible refine (end_any t er _).mono ?_
  rintro e w2 ⟨rfl, k2⟩
  have K2 := Lib.hid (K0.out.trans (k1.trans k2))
  have A2 := Lib.hid (A0.out.kept (k1.trans k2) (.inl (Nat.le_refl _)))
  clear k1 k2 A0 K0 c0 c1 c2 c3 c4 c5 c6 c7 c8
  obtain ⟨y, hy⟩ : ∃ y : Tk, y = endT t er := ⟨_, rfl⟩
  rw [← hy]
  have HY := Lib.hid hy
  clear hy
  obtain ⟨U, hU⟩ : ∃ U, U = w2.alloc (.cells #[.int .i64 y.prog, .int .i64 y.pc, .int .i64 y.st, .int .i64 y.why, .int .i64 y.what, .int .i64 y.timer, .int .i64 y.reg, .int .i64 y.grp, .int .i64 y.err] 25) := ⟨_, rfl⟩
  have kU : Kept 0 0 w2 U := by rw [hU]; exact Kept.alloc0 _ _
  have YU : Hid (Blk U w2.heap.size 25 #[.int .i64 y.prog, .int .i64 y.pc, .int .i64 y.st, .int .i64 y.why, .int .i64 y.what, .int .i64 y.timer, .int .i64 y.reg, .int .i64 y.grp, .int .i64 y.err]) := by show Blk _ _ _ _; rw [hU]; exact Blk.new _ _ _
  have AU := Lib.hid (A2.out.kept kU (.inl (Nat.le_refl _)))
  have KU := Lib.hid (K2.out.trans kU)
  have HU := Lib.hid hU
  clear kU hU K2 A2
  go_upto_region 2 with fail
  rw [← HU.out]
  clear HU
  obtain ⟨c0, c1, c2, c3, c4, c5, c6, c7, c8⟩ := AU.out.nine
  go_wp2_with fail
  with_reducible refine (toTask_any t _).mono ?_
  rintro e w3 ⟨rfl, k3⟩
  go_wp2_with fail
  with_reducible refine (HD.out t er _).mono ?_
  rintro e w4 ⟨rfl, k4⟩
  have k5 := k3.trans k4
  have K4 := Lib.hid (KU.out.trans k5)
  have Y4 := Lib.hid (YU.out.kept k5 (.inl (Nat.le_refl _)))
  clear k3 k4 k5 c0 c1 c2 c3 c4 c5 c6 c7 c8 AU KU YU
  rw [← HY.out]
  obtain ⟨U2, hU⟩ : ∃ U, U = w4.alloc (.cells #[.int .i64 y.prog, .int .i64 y.pc, .int .i64 y.st, .int .i64 y.why, .int .i64 y.what, .int .i64 y.timer, .int .i64 y.reg, .int .i64 y.grp, .int .i64 y.err] 25) := ⟨_, rfl⟩
  have kU : Kept 0 0 w4 U2 := by rw [hU]; exact Kept.alloc0 _ _
  have G2 : Hid (Blk U2 w4.heap.size 25 #[.int .i64 y.prog, .int .i64 y.pc, .int .i64 y.st, .int .i64 y.why, .int .i64 y.what, .int .i64 y.timer, .int .i64 y.reg, .int .i64 y.grp, .int .i64 y.err]) := by show Blk _ _ _ _; rw [hU]; exact Blk.new _ _ _
  have Y2 := Lib.hid (Y4.out.kept kU (.inl (Nat.le_refl _)))
  have KU2 := Lib.hid (K4.out.trans kU)
  have HU := Lib.hid hU
  clear kU hU K4 Y4
  go_upto_region 3 with fail
  rw [← HU.out]
  clear HU
  obtain ⟨c0, c1, c2, c3, c4, c5, c6, c7, c8⟩ := Y2.out.nine
  obtain ⟨d0, d1, d2, d3, d4, d5, d6, d7, d8⟩ := G2.out.nine
  go_wp2_with fail
  with_reducible refine (eqTask_same y _).mono ?_
  rintro e w5 ⟨rfl, k5⟩
  have K5 := Lib.hid (KU2.out.trans k5)
  clear k5 c0 c1 c2 c3 c4 c5 c6 c7 c8 d0 d1 d2 d3 d4 d5 d6 d7 d8
  go_wp2_with fail
  go_ret
  exact ⟨rfl, K5.out⟩
end Go.Proofs.Ytoccbmmjcbjacaa
