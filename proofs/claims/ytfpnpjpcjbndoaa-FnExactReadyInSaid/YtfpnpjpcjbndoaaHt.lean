/- The program's changedIf, NewTask, Parked, Readied, Ended; no condition. -/
import Derived.Test.YtfpnpjpcjbndoaaHn
import Derived.Test.YtfpnpjpcjbndoaaHc
namespace Go.Proofs.Ytfpnpjpcjbndoaa
open Go.RowKit Go.Sort

theorem results_changedIf' (tmps : Array Value) (w : World) (r : Nat) (v0 v1 v2 v3 v4 v5 v6 v7 v8 : Value) (hp : tmps[6]?.getD undef = .pointer (some ⟨r, 0, none⟩)) (h : Blk w r 35 #[v0, v1, v2, v3, v4, v5, v6, v7, v8]) :
    (results Try.f48 tmps).run Try.prog w = .ok (.agg #[v0, v1, v2, v3, v4, v5, v6, v7, v8]) w := by
  obtain ⟨h0, h1, h2, h3, h4, h5, h6, h7, h8⟩ := h.nine
  simp [results, Try.results48, hp, go_sem, h0, h1, h2, h3, h4, h5, h6, h7, h8]
theorem results_Readied' (tmps : Array Value) (w : World) (r : Nat) (v0 v1 v2 v3 v4 v5 v6 v7 v8 : Value) (hp : tmps[4]?.getD undef = .pointer (some ⟨r, 0, none⟩)) (h : Blk w r 35 #[v0, v1, v2, v3, v4, v5, v6, v7, v8]) :
    (results Try.f35 tmps).run Try.prog w = .ok (.agg #[v0, v1, v2, v3, v4, v5, v6, v7, v8]) w := by
  obtain ⟨h0, h1, h2, h3, h4, h5, h6, h7, h8⟩ := h.nine
  simp [results, Try.results35, hp, go_sem, h0, h1, h2, h3, h4, h5, h6, h7, h8]
/-- What changedIf makes of a task and the next one. -/
def chT (m : Bool) (t x : Tk) : Tk := if tkB t = true then (if m = true then eitherT t x else t) else zeroT
set_option maxHeartbeats 3200000 in
theorem ch_isOpen (s : Int) (t x : Tk) (w : World) :
    Calls Try.prog 48 #[.func (.func 49) #[.int .i64 s] #[], .agg #[.int .i64 t.prog, .int .i64 t.pc, .int .i64 t.st, .int .i64 t.why, .int .i64 t.what, .int .i64 t.timer, .int .i64 t.reg, .int .i64 t.grp, .int .i64 t.err], .agg #[.int .i64 x.prog, .int .i64 x.pc, .int .i64 x.st, .int .i64 x.why, .int .i64 x.what, .int .i64 x.timer, .int .i64 x.reg, .int .i64 x.grp, .int .i64 x.err]] w fun e w' => e = .returned (.agg #[.int .i64 (chT (isOpenB s) t x).prog, .int .i64 (chT (isOpenB s) t x).pc, .int .i64 (chT (isOpenB s) t x).st, .int .i64 (chT (isOpenB s) t x).why, .int .i64 (chT (isOpenB s) t x).what, .int .i64 (chT (isOpenB s) t x).timer, .int .i64 (chT (isOpenB s) t x).reg, .int .i64 (chT (isOpenB s) t x).grp, .int .i64 (chT (isOpenB s) t x).err]) ∧ Kept 0 0 w w' := by
  obtain ⟨aprog, apc, ast, awhy, awhat, atimer, areg, agrp, aerr⟩ := t
  obtain ⟨bprog, bpc, bst, bwhy, bwhat, btimer, breg, bgrp, berr⟩ := x
  obtain ⟨W0, hW0⟩ : ∃ W, W = w.alloc (.cells #[.int .i64 aprog, .int .i64 apc, .int .i64 ast, .int .i64 awhy, .int .i64 awhat, .int .i64 atimer, .int .i64 areg, .int .i64 agrp, .int .i64 aerr] 35) := ⟨_, rfl⟩
  obtain ⟨W1, hW1⟩ : ∃ W, W = W0.alloc (.cells #[.int .i64 bprog, .int .i64 bpc, .int .i64 bst, .int .i64 bwhy, .int .i64 bwhat, .int .i64 btimer, .int .i64 breg, .int .i64 bgrp, .int .i64 berr] 35) := ⟨_, rfl⟩
  obtain ⟨W2, hW2⟩ : ∃ W, W = W1.alloc (.cells #[.int .i64 0, .int .i64 0, .int .i64 0, .int .i64 0, .int .i64 0, .int .i64 0, .int .i64 0, .int .i64 0, .int .i64 0] 35) := ⟨_, rfl⟩
  have k0 : Kept 0 0 w W0 := by rw [hW0]; exact Kept.alloc0 _ _
  have k1 : Kept 0 0 w W1 := by rw [hW1]; exact k0.alloc _
  have k2 : Kept 0 0 w W2 := by rw [hW2]; exact k1.alloc _
  have s0 : W0.heap.size = w.heap.size + 1 := by rw [hW0]; exact size_alloc _ _
  have s1 : W1.heap.size = w.heap.size + 2 := by rw [hW1, size_alloc, s0]
  have s2 : W2.heap.size = w.heap.size + 3 := by rw [hW2, size_alloc, s1]
  have B0 : Hid (Blk W2 w.heap.size 35 #[.int .i64 aprog, .int .i64 apc, .int .i64 ast, .int .i64 awhy, .int .i64 awhat, .int .i64 atimer, .int .i64 areg, .int .i64 agrp, .int .i64 aerr]) := by
    have h := Blk.new w 35 #[.int .i64 aprog, .int .i64 apc, .int .i64 ast, .int .i64 awhy, .int .i64 awhat, .int .i64 atimer, .int .i64 areg, .int .i64 agrp, .int .i64 aerr]
    rw [← hW0] at h
    show Blk _ _ _ _; rw [hW2]; refine Blk.alloc ?_ _; rw [hW1]; refine Blk.alloc ?_ _
    exact h
  have B1 : Hid (Blk W2 (w.heap.size + 1) 35 #[.int .i64 bprog, .int .i64 bpc, .int .i64 bst, .int .i64 bwhy, .int .i64 bwhat, .int .i64 btimer, .int .i64 breg, .int .i64 bgrp, .int .i64 berr]) := by
    have h := Blk.new W0 35 #[.int .i64 bprog, .int .i64 bpc, .int .i64 bst, .int .i64 bwhy, .int .i64 bwhat, .int .i64 btimer, .int .i64 breg, .int .i64 bgrp, .int .i64 berr]
    rw [s0] at h; rw [← hW1] at h
    show Blk _ _ _ _; rw [hW2]; refine Blk.alloc ?_ _
    exact h
  have B2 : Hid (Blk W2 (w.heap.size + 2) 35 #[.int .i64 0, .int .i64 0, .int .i64 0, .int .i64 0, .int .i64 0, .int .i64 0, .int .i64 0, .int .i64 0, .int .i64 0]) := by
    have h := Blk.new W1 35 #[.int .i64 0, .int .i64 0, .int .i64 0, .int .i64 0, .int .i64 0, .int .i64 0, .int .i64 0, .int .i64 0, .int .i64 0]
    rw [s1] at h; rw [← hW2] at h
    show Blk _ _ _ _
    exact h
  have HW : Hid (W2 = (((w.alloc (.cells #[.int .i64 aprog, .int .i64 apc, .int .i64 ast, .int .i64 awhy, .int .i64 awhat, .int .i64 atimer, .int .i64 areg, .int .i64 agrp, .int .i64 aerr] 35)).alloc (.cells #[.int .i64 bprog, .int .i64 bpc, .int .i64 bst, .int .i64 bwhy, .int .i64 bwhat, .int .i64 btimer, .int .i64 breg, .int .i64 bgrp, .int .i64 berr] 35)).alloc (.cells #[.int .i64 0, .int .i64 0, .int .i64 0, .int .i64 0, .int .i64 0, .int .i64 0, .int .i64 0, .int .i64 0, .int .i64 0] 35))) := by show _ = _; rw [hW2, hW1, hW0]
  have KW := Lib.hid k2
  have SW : W2.heap.size = w.heap.size + 3 := s2
  clear hW0 k0 s0 hW1 k1 s1 hW2 k2 s2
  obtain ⟨c0, c1, c2, c3, c4, c5, c6, c7, c8⟩ := B0.out.nine
  go_enter Try.func48, Try.ntmps48
  go_upto_region 1 with fail
  rw [← HW.out]
  clear HW
  go_wp2_with fail
  with_reducible refine (implTaskOk ⟨aprog, apc, ast, awhy, awhat, atimer, areg, agrp, aerr⟩ _).mono ?_
  rintro e w1 ⟨rfl, hk⟩
  have K1 := Lib.hid (KW.out.trans hk)
  have A1 := Lib.hid (B0.out.kept hk (.inl (Nat.le_refl _)))
  have X1 := Lib.hid (B1.out.kept hk (.inl (Nat.le_refl _)))
  have R1 := Lib.hid (B2.out.kept hk (.inl (Nat.le_refl _)))
  clear hk B0 B1 B2 c0 c1 c2 c3 c4 c5 c6 c7 c8
  cases hb : tkB ⟨aprog, apc, ast, awhy, awhat, atimer, areg, agrp, aerr⟩
  · have hb' := Lib.hid hb
    clear hb
    obtain ⟨r0, r1, r2, r3, r4, r5, r6, r7, r8⟩ := R1.out.nine
    obtain ⟨f0, f1, f2, f3, f4, f5, f6, f7, f8⟩ := R1.out.free9
    go_wp2
    exact bodyPost_ret (v := .agg #[.int .i64 0, .int .i64 0, .int .i64 0, .int .i64 0, .int .i64 0, .int .i64 0, .int .i64 0, .int .i64 0, .int .i64 0]) (results_changedIf' _ _ (w.heap.size + 2) _ _ _ _ _ _ _ _ _ rfl (back9 (w := w) R1.out (by omega) K1.out _ _ _ _ _ _ _ _ _).2) rfl ⟨ret_tk (a := ⟨0, 0, 0, 0, 0, 0, 0, 0, 0⟩) (by unfold chT; rw [if_neg (by rw [hb'.out]; decide)]; rfl), (back9 R1.out (by omega) K1.out _ _ _ _ _ _ _ _ _).1⟩
  have hb' := Lib.hid hb
  clear hb
  go_wp2_with fail
  with_reducible refine (isOpenB_any s _).mono ?_
  rintro e w2 ⟨rfl, hw2⟩
  subst hw2
  cases hm : isOpenB s
  · have hm' := Lib.hid hm
    clear hm
    obtain ⟨c0, c1, c2, c3, c4, c5, c6, c7, c8⟩ := A1.out.nine
    obtain ⟨r0, r1, r2, r3, r4, r5, r6, r7, r8⟩ := R1.out.nine
    obtain ⟨f0, f1, f2, f3, f4, f5, f6, f7, f8⟩ := R1.out.free9
    go_wp2
    exact bodyPost_ret (v := .agg #[.int .i64 aprog, .int .i64 apc, .int .i64 ast, .int .i64 awhy, .int .i64 awhat, .int .i64 atimer, .int .i64 areg, .int .i64 agrp, .int .i64 aerr]) (results_changedIf' _ _ (w.heap.size + 2) _ _ _ _ _ _ _ _ _ rfl (back9 (w := w) R1.out (by omega) K1.out _ _ _ _ _ _ _ _ _).2) rfl ⟨ret_tk (a := ⟨aprog, apc, ast, awhy, awhat, atimer, areg, agrp, aerr⟩) (by unfold chT; rw [if_pos hb'.out, if_neg (by rw [hm'.out]; decide)]), (back9 R1.out (by omega) K1.out _ _ _ _ _ _ _ _ _).1⟩
  have hm' := Lib.hid hm
  clear hm
  obtain ⟨c0, c1, c2, c3, c4, c5, c6, c7, c8⟩ := X1.out.nine
  go_wp2_with fail
  with_reducible refine (implTaskOk ⟨bprog, bpc, bst, bwhy, bwhat, btimer, breg, bgrp, berr⟩ _).mono ?_
  rintro e w3 ⟨rfl, hk⟩
  have K3 := Lib.hid (K1.out.trans hk)
  have A3 := Lib.hid (A1.out.kept hk (.inl (Nat.le_refl _)))
  have X3 := Lib.hid (X1.out.kept hk (.inl (Nat.le_refl _)))
  have R3 := Lib.hid (R1.out.kept hk (.inl (Nat.le_refl _)))
  clear hk A1 X1 R1 c0 c1 c2 c3 c4 c5 c6 c7 c8
  obtain ⟨r0, r1, r2, r3, r4, r5, r6, r7, r8⟩ := R3.out.nine
  obtain ⟨f0, f1, f2, f3, f4, f5, f6, f7, f8⟩ := R3.out.free9
  cases hx : tkB ⟨bprog, bpc, bst, bwhy, bwhat, btimer, breg, bgrp, berr⟩
  · have hx' := Lib.hid hx
    clear hx
    obtain ⟨c0, c1, c2, c3, c4, c5, c6, c7, c8⟩ := A3.out.nine
    go_wp2
    exact bodyPost_ret (v := .agg #[.int .i64 aprog, .int .i64 apc, .int .i64 ast, .int .i64 awhy, .int .i64 awhat, .int .i64 atimer, .int .i64 areg, .int .i64 agrp, .int .i64 aerr]) (results_changedIf' _ _ (w.heap.size + 2) _ _ _ _ _ _ _ _ _ rfl (back9 (w := w) R3.out (by omega) K3.out _ _ _ _ _ _ _ _ _).2) rfl ⟨ret_tk (a := ⟨aprog, apc, ast, awhy, awhat, atimer, areg, agrp, aerr⟩) (by unfold chT eitherT; rw [if_pos hb'.out, if_pos hm'.out, if_neg (by rw [hx'.out]; decide)]), (back9 R3.out (by omega) K3.out _ _ _ _ _ _ _ _ _).1⟩
  · have hx' := Lib.hid hx
    clear hx
    obtain ⟨c0, c1, c2, c3, c4, c5, c6, c7, c8⟩ := X3.out.nine
    go_wp2
    exact bodyPost_ret (v := .agg #[.int .i64 bprog, .int .i64 bpc, .int .i64 bst, .int .i64 bwhy, .int .i64 bwhat, .int .i64 btimer, .int .i64 breg, .int .i64 bgrp, .int .i64 berr]) (results_changedIf' _ _ (w.heap.size + 2) _ _ _ _ _ _ _ _ _ rfl (back9 (w := w) R3.out (by omega) K3.out _ _ _ _ _ _ _ _ _).2) rfl ⟨ret_tk (a := ⟨bprog, bpc, bst, bwhy, bwhat, btimer, breg, bgrp, berr⟩) (by unfold chT eitherT; rw [if_pos hb'.out, if_pos hm'.out, if_pos hx'.out]), (back9 R3.out (by omega) K3.out _ _ _ _ _ _ _ _ _).1⟩
theorem ch_park (t : Tk) (y h m : Int) : chT (isReadyB t.st) t ⟨t.prog, t.pc, 1, y, h, m, t.reg, t.grp, t.err⟩ = parkT t y h m := by
  unfold chT parkT isReadyB
  by_cases hs : t.st = 0
  · simp [hs]
  · simp [hs]
theorem ch_ready (t : Tk) (r q : Int) (hq : tkB t = true → q = t.pc + 1) : chT (isOpenB t.st) t ⟨t.prog, q, 0, 0, 0, -1, r, t.grp, t.err⟩ = readyT t r := by
  unfold chT readyT isOpenB
  by_cases hb : tkB t = true
  · rw [if_pos hb, if_pos hb, hq hb]
    by_cases hs : t.st = 2
    · simp [hs]
    · simp [hs]
  · rw [if_neg hb, if_neg hb]
theorem ch_end (t : Tk) (x : Int) : chT (isOpenB t.st) t ⟨t.prog, t.pc, 2, 0, 0, -1, t.reg, t.grp, x⟩ = endT t x := by
  unfold chT endT isOpenB
  by_cases hs : t.st = 2
  · simp [hs]
  · simp [hs]
set_option maxHeartbeats 3200000 in
theorem implReadied (t : Tk) (rg : Int) (w : World) :
    Calls Try.prog 35 #[.agg #[.int .i64 t.prog, .int .i64 t.pc, .int .i64 t.st, .int .i64 t.why, .int .i64 t.what, .int .i64 t.timer, .int .i64 t.reg, .int .i64 t.grp, .int .i64 t.err], .int .i64 rg] w fun e w' => e = .returned (.agg #[.int .i64 (readyT t rg).prog, .int .i64 (readyT t rg).pc, .int .i64 (readyT t rg).st, .int .i64 (readyT t rg).why, .int .i64 (readyT t rg).what, .int .i64 (readyT t rg).timer, .int .i64 (readyT t rg).reg, .int .i64 (readyT t rg).grp, .int .i64 (readyT t rg).err]) ∧ Kept 0 0 w w' := by
  obtain ⟨prog, pc, st, why, what, timer, reg, grp, err⟩ := t
  obtain ⟨W0, hW0⟩ : ∃ W, W = w.alloc (.cells #[.int .i64 prog, .int .i64 pc, .int .i64 st, .int .i64 why, .int .i64 what, .int .i64 timer, .int .i64 reg, .int .i64 grp, .int .i64 err] 35) := ⟨_, rfl⟩
  obtain ⟨W1, hW1⟩ : ∃ W, W = W0.alloc (.cells #[.int .i64 0, .int .i64 0, .int .i64 0, .int .i64 0, .int .i64 0, .int .i64 0, .int .i64 0, .int .i64 0, .int .i64 0] 35) := ⟨_, rfl⟩
  have k0 : Kept 0 0 w W0 := by rw [hW0]; exact Kept.alloc0 _ _
  have k1 : Kept 0 0 w W1 := by rw [hW1]; exact k0.alloc _
  have s0 : W0.heap.size = w.heap.size + 1 := by rw [hW0]; exact size_alloc _ _
  have s1 : W1.heap.size = w.heap.size + 2 := by rw [hW1, size_alloc, s0]
  have B0 : Hid (Blk W1 w.heap.size 35 #[.int .i64 prog, .int .i64 pc, .int .i64 st, .int .i64 why, .int .i64 what, .int .i64 timer, .int .i64 reg, .int .i64 grp, .int .i64 err]) := by
    have h := Blk.new w 35 #[.int .i64 prog, .int .i64 pc, .int .i64 st, .int .i64 why, .int .i64 what, .int .i64 timer, .int .i64 reg, .int .i64 grp, .int .i64 err]
    rw [← hW0] at h
    show Blk _ _ _ _; rw [hW1]; refine Blk.alloc ?_ _
    exact h
  have B1 : Hid (Blk W1 (w.heap.size + 1) 35 #[.int .i64 0, .int .i64 0, .int .i64 0, .int .i64 0, .int .i64 0, .int .i64 0, .int .i64 0, .int .i64 0, .int .i64 0]) := by
    have h := Blk.new W0 35 #[.int .i64 0, .int .i64 0, .int .i64 0, .int .i64 0, .int .i64 0, .int .i64 0, .int .i64 0, .int .i64 0, .int .i64 0]
    rw [s0] at h; rw [← hW1] at h
    show Blk _ _ _ _
    exact h
  have HW : Hid (W1 = ((w.alloc (.cells #[.int .i64 prog, .int .i64 pc, .int .i64 st, .int .i64 why, .int .i64 what, .int .i64 timer, .int .i64 reg, .int .i64 grp, .int .i64 err] 35)).alloc (.cells #[.int .i64 0, .int .i64 0, .int .i64 0, .int .i64 0, .int .i64 0, .int .i64 0, .int .i64 0, .int .i64 0, .int .i64 0] 35))) := by show _ = _; rw [hW1, hW0]
  have KW := Lib.hid k1
  have SW : W1.heap.size = w.heap.size + 2 := s1
  clear hW0 k0 s0 hW1 k1 s1
  obtain ⟨c0, c1, c2, c3, c4, c5, c6, c7, c8⟩ := B0.out.nine
  obtain ⟨q, hq⟩ : ∃ q, q = wrap64 (pc + 1) := ⟨_, rfl⟩
  have E := Lib.hid (ch_ready ⟨prog, pc, st, why, what, timer, reg, grp, err⟩ rg q (fun h => by have := tkB_pc h; simp only at this; rw [hq, IntWalk.wrap64_in _ (by omega)]))
  have QQ := Lib.hid hq
  clear hq
  go_enter Try.func35, Try.ntmps35
  go_upto_region 1 with fail
  rw [← HW.out]
  clear HW
  go_wp2_with fail
  with_reducible refine (notW_any prog pc st why what timer reg grp err _).mono ?_
  rintro e w2 ⟨rfl, hk⟩
  obtain ⟨V, hV⟩ : ∃ V, V = w2.alloc (.cells #[.int .i64 prog, .int .i64 pc, .int .i64 st, .int .i64 0, .int .i64 0, .int .i64 (-1), .int .i64 reg, .int .i64 grp, .int .i64 err] 35) := ⟨_, rfl⟩
  have kV : Kept 0 0 w2 V := by rw [hV]; exact Kept.alloc0 _ _
  have z2 := hk.size
  have XV : Hid (Blk V w2.heap.size 35 #[.int .i64 prog, .int .i64 pc, .int .i64 st, .int .i64 0, .int .i64 0, .int .i64 (-1), .int .i64 reg, .int .i64 grp, .int .i64 err]) := by show Blk _ _ _ _; rw [hV]; exact Blk.new _ _ _
  have AV := Lib.hid (B0.out.kept (hk.trans kV) (.inl (Nat.le_refl _)))
  have RV := Lib.hid (B1.out.kept (hk.trans kV) (.inl (Nat.le_refl _)))
  have K := Lib.hid (KW.out.trans (hk.trans kV))
  have HV := Lib.hid hV
  clear hk kV hV B0 B1 KW c0 c1 c2 c3 c4 c5 c6 c7 c8
  go_upto_region 2 with fail
  rw [← HV.out]
  clear HV
  obtain ⟨f0, f1, f2, f3, f4, f5, f6, f7, f8⟩ := XV.out.free9
  obtain ⟨d0, d1, d2, d3, d4, d5, d6, d7, d8⟩ := XV.out.nine
  obtain ⟨U, hU⟩ : ∃ U, U = (((V.setCell ⟨w2.heap.size, 2, none⟩ (.int .i64 0)).setCell ⟨w2.heap.size, 1, none⟩ (.int .i64 q)).setCell ⟨w2.heap.size, 6, none⟩ (.int .i64 rg)) := ⟨_, rfl⟩
  have kU : Kept 0 0 w U := by
    rw [hU]
    exact (((K.out.setCell (.inl (by show w.heap.size ≤ w2.heap.size; omega)) _).setCell (.inl (by show w.heap.size ≤ w2.heap.size; omega)) _).setCell (.inl (by show w.heap.size ≤ w2.heap.size; omega)) _)
  have bX : Blk U w2.heap.size 35 #[.int .i64 prog, .int .i64 q, .int .i64 0, .int .i64 0, .int .i64 0, .int .i64 (-1), .int .i64 rg, .int .i64 grp, .int .i64 err] := by rw [hU]; exact (((XV.out.set_ 2 (.int .i64 0)).set_ 1 (.int .i64 q)).set_ 6 (.int .i64 rg))
  have AU : Hid (Blk U w.heap.size 35 #[.int .i64 prog, .int .i64 pc, .int .i64 st, .int .i64 why, .int .i64 what, .int .i64 timer, .int .i64 reg, .int .i64 grp, .int .i64 err]) := by show Blk _ _ _ _; rw [hU]; exact (((AV.out.far (by show w.heap.size ≠ w2.heap.size; omega) _).far (by show w.heap.size ≠ w2.heap.size; omega) _).far (by show w.heap.size ≠ w2.heap.size; omega) _)
  have RU : Hid (Blk U (w.heap.size + 1) 35 #[.int .i64 0, .int .i64 0, .int .i64 0, .int .i64 0, .int .i64 0, .int .i64 0, .int .i64 0, .int .i64 0, .int .i64 0]) := by show Blk _ _ _ _; rw [hU]; exact (((RV.out.far (by show (w.heap.size + 1) ≠ w2.heap.size; omega) _).far (by show (w.heap.size + 1) ≠ w2.heap.size; omega) _).far (by show (w.heap.size + 1) ≠ w2.heap.size; omega) _)
  have KU := Lib.hid kU
  have XU := Lib.hid bX
  have HU := Lib.hid hU
  clear kU bX hU
  go_upto_region 5 with fail
  rw [← QQ.out]
  rw [← HU.out]
  clear HU d0 d1 d2 d3 d4 d5 d6 d7 d8 f0 f1 f2 f3 f4 f5 f6 f7 f8 AV RV XV
  obtain ⟨c0, c1, c2, c3, c4, c5, c6, c7, c8⟩ := AU.out.nine
  obtain ⟨d0, d1, d2, d3, d4, d5, d6, d7, d8⟩ := XU.out.nine
  go_wp2_with fail
  with_reducible refine (ch_isOpen st ⟨prog, pc, st, why, what, timer, reg, grp, err⟩ ⟨prog, q, 0, 0, 0, -1, rg, grp, err⟩ _).mono ?_
  rintro e w5 ⟨rfl, hk⟩
  have K5 := Lib.hid (KU.out.trans hk)
  have z5 := hk.size
  have R5 := Lib.hid (RU.out.kept hk (.inl (Nat.le_refl _)))
  obtain ⟨y, hy⟩ : ∃ y : Tk, y = chT (isOpenB st) ⟨prog, pc, st, why, what, timer, reg, grp, err⟩ ⟨prog, q, 0, 0, 0, -1, rg, grp, err⟩ := ⟨_, rfl⟩
  rw [← hy]
  have HY := Lib.hid hy
  clear hk hy KU RU AU XU c0 c1 c2 c3 c4 c5 c6 c7 c8 d0 d1 d2 d3 d4 d5 d6 d7 d8
  obtain ⟨r0, r1, r2, r3, r4, r5, r6, r7, r8⟩ := R5.out.nine
  obtain ⟨f0, f1, f2, f3, f4, f5, f6, f7, f8⟩ := R5.out.free9
  go_wp2
  exact bodyPost_ret (v := .agg #[.int .i64 y.prog, .int .i64 y.pc, .int .i64 y.st, .int .i64 y.why, .int .i64 y.what, .int .i64 y.timer, .int .i64 y.reg, .int .i64 y.grp, .int .i64 y.err]) (results_Readied' _ _ (w.heap.size + 1) _ _ _ _ _ _ _ _ _ rfl (back9 (w := w) R5.out (by omega) K5.out _ _ _ _ _ _ _ _ _).2) rfl ⟨ret_tk (a := y) (by rw [HY.out]; exact E.out), (back9 R5.out (by omega) K5.out _ _ _ _ _ _ _ _ _).1⟩
end Go.Proofs.Ytfpnpjpcjbndoaa
