/- The draws of tasks, valid or not; condition: the code can be read and has at most 4096 bytes. -/
import Derived.Test.YtfpnpjpcjbndoaaHh
namespace Go.Proofs.Ytfpnpjpcjbndoaa
open Go.RowKit Go.Sort

theorem results_l10DrawAny (tmps : Array Value) (w : World) (r : Nat) (v0 v1 v2 v3 v4 v5 v6 v7 v8 : Value) (hp : tmps[2]?.getD undef = .pointer (some ⟨r, 0, none⟩)) (h : Blk w r 35 #[v0, v1, v2, v3, v4, v5, v6, v7, v8]) :
    (results Try.f58 tmps).run Try.prog w = .ok (.agg #[v0, v1, v2, v3, v4, v5, v6, v7, v8]) w := by
  obtain ⟨h0, h1, h2, h3, h4, h5, h6, h7, h8⟩ := h.nine
  simp [results, Try.results58, hp, go_sem, h0, h1, h2, h3, h4, h5, h6, h7, h8]
set_option maxHeartbeats 6400000 in
theorem drawAny10_any (xs : List Int) (A : Option Addr) (c g : Nat) (w : World) (h : Cur w g A c xs) :
    Calls Try.prog 58 #[.pointer (some ⟨g, 0, none⟩)] w (DrawnT g A c xs w) := by
  have hgw := h.lt
  obtain ⟨W, hW⟩ : ∃ W, W = w.alloc (.cells #[.int .i64 0, .int .i64 0, .int .i64 0, .int .i64 0, .int .i64 0, .int .i64 0, .int .i64 0, .int .i64 0, .int .i64 0] 35) := ⟨_, rfl⟩
  have kW : Kept 0 0 w W := by rw [hW]; exact Kept.alloc0 _ _
  have C0 := Lib.hid (h.kept kW (.inl (Nat.le_refl _)))
  have B0 : Hid (Blk W w.heap.size 35 #[.int .i64 0, .int .i64 0, .int .i64 0, .int .i64 0, .int .i64 0, .int .i64 0, .int .i64 0, .int .i64 0, .int .i64 0]) := by show Blk _ _ _ _; rw [hW]; exact Blk.new _ _ _
  have K0 : Hid (Kept g (g + 1) w W) := kW.wide (.inl (Nat.le_refl _))
  have zW : W.heap.size = w.heap.size + 1 := by rw [hW]; exact size_alloc _ _
  clear h kW
  go_enter Try.func58, Try.ntmps58
  go_wp2_with fail
  rw [← hW]
  clear hW
  with_reducible refine (draw10_any _ _ _ _ _ C0.out).mono ?_
  rintro e w3 ⟨y, rfl, hc, hk⟩
  have C3 := Lib.hid hc
  have B3 := Lib.hid (B0.out.kept hk (by omega))
  have K3 := Lib.hid (K0.out.trans hk)
  have z3 := hk.size
  clear hc hk C0 B0 K0
  obtain ⟨U, hU⟩ : ∃ U, U = w3.alloc (.cells #[.int .i64 y.prog, .int .i64 y.pc, .int .i64 y.st, .int .i64 y.why, .int .i64 y.what, .int .i64 y.timer, .int .i64 y.reg, .int .i64 y.grp, .int .i64 y.err] 35) := ⟨_, rfl⟩
  obtain ⟨bx, hbx⟩ : ∃ bx, bx = w3.heap.size := ⟨_, rfl⟩
  have kU : Kept 0 0 w3 U := by rw [hU]; exact Kept.alloc0 _ _
  have S : Hid (TkSt w U g A c xs bx w.heap.size y) := by
    refine ⟨?_, B3.out.kept kU (.inl (Nat.le_refl _)), C3.out.kept kU (.inl (Nat.le_refl _)), K3.out.trans2 kU (.inl (Nat.zero_le _))⟩
    rw [hU, hbx]; exact Blk.new _ _ _
  have hgb : g < bx := by rw [hbx]; omega
  have hwb : w.heap.size ≤ bx := by rw [hbx]; omega
  have hwx : w.heap.size < bx := by rw [hbx]; exact B3.out.lt
  have HU := Lib.hid hU
  have HB := Lib.hid hbx
  clear hU hbx kU B3 C3 K3
  go_upto_region 2 with fail
  rw [← HU.out, ← HB.out]
  clear HU HB
  go_wp2_with fail
  with_reducible refine (once_any _ _ _ _ _ _ S.out.cur (by omega) (by omega)).mono ?_
  rintro e w4 ⟨b, rfl, hc, hk⟩
  have S1 := Lib.hid (S.out.draw (by omega) (by omega) hc hk)
  clear hc hk S
  cases b
  · go_upto_region 23 with fail
    obtain ⟨c0, c1, c2, c3, c4, c5, c6, c7, c8⟩ := S1.out.box.nine
    obtain ⟨r0, r1, r2, r3, r4, r5, r6, r7, r8⟩ := S1.out.res.nine
    obtain ⟨f0, f1, f2, f3, f4, f5, f6, f7, f8⟩ := S1.out.res.free9
    go_wp2
    exact bodyPost_ret (v := .agg #[.int .i64 y.prog, .int .i64 y.pc, .int .i64 y.st, .int .i64 y.why, .int .i64 y.what, .int .i64 y.timer, .int .i64 y.reg, .int .i64 y.grp, .int .i64 y.err]) (results_l10DrawAny _ _ w.heap.size _ _ _ _ _ _ _ _ _ rfl (fin9 S1.out hgw (Nat.le_refl _) _ _ _ _ _ _ _ _ _).2.2) rfl ⟨y, rfl, (fin9 S1.out hgw (Nat.le_refl _) _ _ _ _ _ _ _ _ _).1, (fin9 S1.out hgw (Nat.le_refl _) _ _ _ _ _ _ _ _ _).2.1⟩
  go_wp2_with fail
  with_reducible refine (numN_any _ _ _ _ _ _ S1.out.cur (by omega) (by omega)).mono ?_
  rintro e w5 ⟨x, rfl, -, hc, hk⟩
  have S2 := Lib.hid (S1.out.draw (by omega) (by omega) hc hk)
  clear hc hk S1
  go_wp2_with fail
  with_reducible refine (below_any _ _ _ _ _ _ S2.out.cur (by omega) (by omega)).mono ?_
  rintro e w6 ⟨r, rfl, ⟨hr0, hr1⟩, hc, hk⟩
  have S3 := Lib.hid (S2.out.draw (by omega) (by omega) hc hk)
  clear hc hk S2
  rcases (by omega : r = 0 ∨ r = 1 ∨ r = 2 ∨ r = 3 ∨ r = 4 ∨ r = 5 ∨ r = 6 ∨ r = 7 ∨ r = 8) with rfl | rfl | rfl | rfl | rfl | rfl | rfl | rfl | rfl
  · have T := Lib.hid S3.out
    clear S3
    have cc := T.out.box.cell 0
    have ff := T.out.box.frozen 0
    obtain ⟨U, hU⟩ : ∃ U, U = w6.setCell ⟨bx, 0, none⟩ (.int .i64 x) := ⟨_, rfl⟩
    obtain ⟨y, S4⟩ : ∃ y, Hid (TkSt w U g A c xs bx w.heap.size y) := by rw [hU]; exact T.out.put1 hgb hwb (by omega) 0 (by omega) x
    have HU := Lib.hid hU
    clear hU T
    go_upto_region 23 with fail
    rw [← HU.out]
    clear HU cc ff
    obtain ⟨c0, c1, c2, c3, c4, c5, c6, c7, c8⟩ := S4.out.box.nine
    obtain ⟨r0, r1, r2, r3, r4, r5, r6, r7, r8⟩ := S4.out.res.nine
    obtain ⟨f0, f1, f2, f3, f4, f5, f6, f7, f8⟩ := S4.out.res.free9
    go_wp2
    exact bodyPost_ret (v := .agg #[.int .i64 y.prog, .int .i64 y.pc, .int .i64 y.st, .int .i64 y.why, .int .i64 y.what, .int .i64 y.timer, .int .i64 y.reg, .int .i64 y.grp, .int .i64 y.err]) (results_l10DrawAny _ _ w.heap.size _ _ _ _ _ _ _ _ _ rfl (fin9 S4.out hgw (Nat.le_refl _) _ _ _ _ _ _ _ _ _).2.2) rfl ⟨y, rfl, (fin9 S4.out hgw (Nat.le_refl _) _ _ _ _ _ _ _ _ _).1, (fin9 S4.out hgw (Nat.le_refl _) _ _ _ _ _ _ _ _ _).2.1⟩
  · have T := Lib.hid S3.out
    clear S3
    have cc := T.out.box.cell 1
    have ff := T.out.box.frozen 1
    obtain ⟨U, hU⟩ : ∃ U, U = w6.setCell ⟨bx, 1, none⟩ (.int .i64 x) := ⟨_, rfl⟩
    obtain ⟨y, S4⟩ : ∃ y, Hid (TkSt w U g A c xs bx w.heap.size y) := by rw [hU]; exact T.out.put1 hgb hwb (by omega) 1 (by omega) x
    have HU := Lib.hid hU
    clear hU T
    go_upto_region 23 with fail
    rw [← HU.out]
    clear HU cc ff
    obtain ⟨c0, c1, c2, c3, c4, c5, c6, c7, c8⟩ := S4.out.box.nine
    obtain ⟨r0, r1, r2, r3, r4, r5, r6, r7, r8⟩ := S4.out.res.nine
    obtain ⟨f0, f1, f2, f3, f4, f5, f6, f7, f8⟩ := S4.out.res.free9
    go_wp2
    exact bodyPost_ret (v := .agg #[.int .i64 y.prog, .int .i64 y.pc, .int .i64 y.st, .int .i64 y.why, .int .i64 y.what, .int .i64 y.timer, .int .i64 y.reg, .int .i64 y.grp, .int .i64 y.err]) (results_l10DrawAny _ _ w.heap.size _ _ _ _ _ _ _ _ _ rfl (fin9 S4.out hgw (Nat.le_refl _) _ _ _ _ _ _ _ _ _).2.2) rfl ⟨y, rfl, (fin9 S4.out hgw (Nat.le_refl _) _ _ _ _ _ _ _ _ _).1, (fin9 S4.out hgw (Nat.le_refl _) _ _ _ _ _ _ _ _ _).2.1⟩
  · have T := Lib.hid S3.out
    clear S3
    have cc := T.out.box.cell 2
    have ff := T.out.box.frozen 2
    obtain ⟨U, hU⟩ : ∃ U, U = w6.setCell ⟨bx, 2, none⟩ (.int .i64 x) := ⟨_, rfl⟩
    obtain ⟨y, S4⟩ : ∃ y, Hid (TkSt w U g A c xs bx w.heap.size y) := by rw [hU]; exact T.out.put1 hgb hwb (by omega) 2 (by omega) x
    have HU := Lib.hid hU
    clear hU T
    go_upto_region 23 with fail
    rw [← HU.out]
    clear HU cc ff
    obtain ⟨c0, c1, c2, c3, c4, c5, c6, c7, c8⟩ := S4.out.box.nine
    obtain ⟨r0, r1, r2, r3, r4, r5, r6, r7, r8⟩ := S4.out.res.nine
    obtain ⟨f0, f1, f2, f3, f4, f5, f6, f7, f8⟩ := S4.out.res.free9
    go_wp2
    exact bodyPost_ret (v := .agg #[.int .i64 y.prog, .int .i64 y.pc, .int .i64 y.st, .int .i64 y.why, .int .i64 y.what, .int .i64 y.timer, .int .i64 y.reg, .int .i64 y.grp, .int .i64 y.err]) (results_l10DrawAny _ _ w.heap.size _ _ _ _ _ _ _ _ _ rfl (fin9 S4.out hgw (Nat.le_refl _) _ _ _ _ _ _ _ _ _).2.2) rfl ⟨y, rfl, (fin9 S4.out hgw (Nat.le_refl _) _ _ _ _ _ _ _ _ _).1, (fin9 S4.out hgw (Nat.le_refl _) _ _ _ _ _ _ _ _ _).2.1⟩
  · have T := Lib.hid S3.out
    clear S3
    have cc := T.out.box.cell 3
    have ff := T.out.box.frozen 3
    obtain ⟨U, hU⟩ : ∃ U, U = w6.setCell ⟨bx, 3, none⟩ (.int .i64 x) := ⟨_, rfl⟩
    obtain ⟨y, S4⟩ : ∃ y, Hid (TkSt w U g A c xs bx w.heap.size y) := by rw [hU]; exact T.out.put1 hgb hwb (by omega) 3 (by omega) x
    have HU := Lib.hid hU
    clear hU T
    go_upto_region 23 with fail
    rw [← HU.out]
    clear HU cc ff
    obtain ⟨c0, c1, c2, c3, c4, c5, c6, c7, c8⟩ := S4.out.box.nine
    obtain ⟨r0, r1, r2, r3, r4, r5, r6, r7, r8⟩ := S4.out.res.nine
    obtain ⟨f0, f1, f2, f3, f4, f5, f6, f7, f8⟩ := S4.out.res.free9
    go_wp2
    exact bodyPost_ret (v := .agg #[.int .i64 y.prog, .int .i64 y.pc, .int .i64 y.st, .int .i64 y.why, .int .i64 y.what, .int .i64 y.timer, .int .i64 y.reg, .int .i64 y.grp, .int .i64 y.err]) (results_l10DrawAny _ _ w.heap.size _ _ _ _ _ _ _ _ _ rfl (fin9 S4.out hgw (Nat.le_refl _) _ _ _ _ _ _ _ _ _).2.2) rfl ⟨y, rfl, (fin9 S4.out hgw (Nat.le_refl _) _ _ _ _ _ _ _ _ _).1, (fin9 S4.out hgw (Nat.le_refl _) _ _ _ _ _ _ _ _ _).2.1⟩
  · go_wp2_with fail
    with_reducible refine (numN_any _ _ _ _ _ _ S3.out.cur (by omega) (by omega)).mono ?_
    rintro e w7 ⟨q, rfl, -, hc, hk⟩
    have T := Lib.hid (S3.out.draw (by omega) (by omega) hc hk)
    clear hc hk S3
    have cc := T.out.box.cell 4
    have ff := T.out.box.frozen 4
    obtain ⟨U, hU⟩ : ∃ U, U = w7.setCell ⟨bx, 4, none⟩ (.int .i64 q) := ⟨_, rfl⟩
    obtain ⟨y, S4⟩ : ∃ y, Hid (TkSt w U g A c xs bx w.heap.size y) := by rw [hU]; exact T.out.put1 hgb hwb (by omega) 4 (by omega) q
    have HU := Lib.hid hU
    clear hU T
    go_upto_region 23 with fail
    rw [← HU.out]
    clear HU cc ff
    obtain ⟨c0, c1, c2, c3, c4, c5, c6, c7, c8⟩ := S4.out.box.nine
    obtain ⟨r0, r1, r2, r3, r4, r5, r6, r7, r8⟩ := S4.out.res.nine
    obtain ⟨f0, f1, f2, f3, f4, f5, f6, f7, f8⟩ := S4.out.res.free9
    go_wp2
    exact bodyPost_ret (v := .agg #[.int .i64 y.prog, .int .i64 y.pc, .int .i64 y.st, .int .i64 y.why, .int .i64 y.what, .int .i64 y.timer, .int .i64 y.reg, .int .i64 y.grp, .int .i64 y.err]) (results_l10DrawAny _ _ w.heap.size _ _ _ _ _ _ _ _ _ rfl (fin9 S4.out hgw (Nat.le_refl _) _ _ _ _ _ _ _ _ _).2.2) rfl ⟨y, rfl, (fin9 S4.out hgw (Nat.le_refl _) _ _ _ _ _ _ _ _ _).1, (fin9 S4.out hgw (Nat.le_refl _) _ _ _ _ _ _ _ _ _).2.1⟩
  · go_wp2_with fail
    with_reducible refine (numN_any _ _ _ _ _ _ S3.out.cur (by omega) (by omega)).mono ?_
    rintro e w7 ⟨q, rfl, -, hc, hk⟩
    have T := Lib.hid (S3.out.draw (by omega) (by omega) hc hk)
    clear hc hk S3
    have cc := T.out.box.cell 5
    have ff := T.out.box.frozen 5
    obtain ⟨U, hU⟩ : ∃ U, U = w7.setCell ⟨bx, 5, none⟩ (.int .i64 q) := ⟨_, rfl⟩
    obtain ⟨y, S4⟩ : ∃ y, Hid (TkSt w U g A c xs bx w.heap.size y) := by rw [hU]; exact T.out.put1 hgb hwb (by omega) 5 (by omega) q
    have HU := Lib.hid hU
    clear hU T
    go_upto_region 23 with fail
    rw [← HU.out]
    clear HU cc ff
    obtain ⟨c0, c1, c2, c3, c4, c5, c6, c7, c8⟩ := S4.out.box.nine
    obtain ⟨r0, r1, r2, r3, r4, r5, r6, r7, r8⟩ := S4.out.res.nine
    obtain ⟨f0, f1, f2, f3, f4, f5, f6, f7, f8⟩ := S4.out.res.free9
    go_wp2
    exact bodyPost_ret (v := .agg #[.int .i64 y.prog, .int .i64 y.pc, .int .i64 y.st, .int .i64 y.why, .int .i64 y.what, .int .i64 y.timer, .int .i64 y.reg, .int .i64 y.grp, .int .i64 y.err]) (results_l10DrawAny _ _ w.heap.size _ _ _ _ _ _ _ _ _ rfl (fin9 S4.out hgw (Nat.le_refl _) _ _ _ _ _ _ _ _ _).2.2) rfl ⟨y, rfl, (fin9 S4.out hgw (Nat.le_refl _) _ _ _ _ _ _ _ _ _).1, (fin9 S4.out hgw (Nat.le_refl _) _ _ _ _ _ _ _ _ _).2.1⟩
  · go_wp2_with fail
    with_reducible refine (numN_any _ _ _ _ _ _ S3.out.cur (by omega) (by omega)).mono ?_
    rintro e w7 ⟨q, rfl, -, hc, hk⟩
    have T := Lib.hid (S3.out.draw (by omega) (by omega) hc hk)
    clear hc hk S3
    have cc := T.out.box.cell 6
    have ff := T.out.box.frozen 6
    obtain ⟨U, hU⟩ : ∃ U, U = w7.setCell ⟨bx, 6, none⟩ (.int .i64 q) := ⟨_, rfl⟩
    obtain ⟨y, S4⟩ : ∃ y, Hid (TkSt w U g A c xs bx w.heap.size y) := by rw [hU]; exact T.out.put1 hgb hwb (by omega) 6 (by omega) q
    have HU := Lib.hid hU
    clear hU T
    go_upto_region 23 with fail
    rw [← HU.out]
    clear HU cc ff
    obtain ⟨c0, c1, c2, c3, c4, c5, c6, c7, c8⟩ := S4.out.box.nine
    obtain ⟨r0, r1, r2, r3, r4, r5, r6, r7, r8⟩ := S4.out.res.nine
    obtain ⟨f0, f1, f2, f3, f4, f5, f6, f7, f8⟩ := S4.out.res.free9
    go_wp2
    exact bodyPost_ret (v := .agg #[.int .i64 y.prog, .int .i64 y.pc, .int .i64 y.st, .int .i64 y.why, .int .i64 y.what, .int .i64 y.timer, .int .i64 y.reg, .int .i64 y.grp, .int .i64 y.err]) (results_l10DrawAny _ _ w.heap.size _ _ _ _ _ _ _ _ _ rfl (fin9 S4.out hgw (Nat.le_refl _) _ _ _ _ _ _ _ _ _).2.2) rfl ⟨y, rfl, (fin9 S4.out hgw (Nat.le_refl _) _ _ _ _ _ _ _ _ _).1, (fin9 S4.out hgw (Nat.le_refl _) _ _ _ _ _ _ _ _ _).2.1⟩
  · have T := Lib.hid S3.out
    clear S3
    have cc := T.out.box.cell 7
    have ff := T.out.box.frozen 7
    obtain ⟨U, hU⟩ : ∃ U, U = w6.setCell ⟨bx, 7, none⟩ (.int .i64 x) := ⟨_, rfl⟩
    obtain ⟨y, S4⟩ : ∃ y, Hid (TkSt w U g A c xs bx w.heap.size y) := by rw [hU]; exact T.out.put1 hgb hwb (by omega) 7 (by omega) x
    have HU := Lib.hid hU
    clear hU T
    go_upto_region 23 with fail
    rw [← HU.out]
    clear HU cc ff
    obtain ⟨c0, c1, c2, c3, c4, c5, c6, c7, c8⟩ := S4.out.box.nine
    obtain ⟨r0, r1, r2, r3, r4, r5, r6, r7, r8⟩ := S4.out.res.nine
    obtain ⟨f0, f1, f2, f3, f4, f5, f6, f7, f8⟩ := S4.out.res.free9
    go_wp2
    exact bodyPost_ret (v := .agg #[.int .i64 y.prog, .int .i64 y.pc, .int .i64 y.st, .int .i64 y.why, .int .i64 y.what, .int .i64 y.timer, .int .i64 y.reg, .int .i64 y.grp, .int .i64 y.err]) (results_l10DrawAny _ _ w.heap.size _ _ _ _ _ _ _ _ _ rfl (fin9 S4.out hgw (Nat.le_refl _) _ _ _ _ _ _ _ _ _).2.2) rfl ⟨y, rfl, (fin9 S4.out hgw (Nat.le_refl _) _ _ _ _ _ _ _ _ _).1, (fin9 S4.out hgw (Nat.le_refl _) _ _ _ _ _ _ _ _ _).2.1⟩
  · go_wp2_with fail
    with_reducible refine (numN_any _ _ _ _ _ _ S3.out.cur (by omega) (by omega)).mono ?_
    rintro e w7 ⟨q, rfl, -, hc, hk⟩
    have T := Lib.hid (S3.out.draw (by omega) (by omega) hc hk)
    clear hc hk S3
    have cc := T.out.box.cell 8
    have ff := T.out.box.frozen 8
    obtain ⟨U, hU⟩ : ∃ U, U = w7.setCell ⟨bx, 8, none⟩ (.int .i64 q) := ⟨_, rfl⟩
    obtain ⟨y, S4⟩ : ∃ y, Hid (TkSt w U g A c xs bx w.heap.size y) := by rw [hU]; exact T.out.put1 hgb hwb (by omega) 8 (by omega) q
    have HU := Lib.hid hU
    clear hU T
    go_upto_region 23 with fail
    rw [← HU.out]
    clear HU cc ff
    obtain ⟨c0, c1, c2, c3, c4, c5, c6, c7, c8⟩ := S4.out.box.nine
    obtain ⟨r0, r1, r2, r3, r4, r5, r6, r7, r8⟩ := S4.out.res.nine
    obtain ⟨f0, f1, f2, f3, f4, f5, f6, f7, f8⟩ := S4.out.res.free9
    go_wp2
    exact bodyPost_ret (v := .agg #[.int .i64 y.prog, .int .i64 y.pc, .int .i64 y.st, .int .i64 y.why, .int .i64 y.what, .int .i64 y.timer, .int .i64 y.reg, .int .i64 y.grp, .int .i64 y.err]) (results_l10DrawAny _ _ w.heap.size _ _ _ _ _ _ _ _ _ rfl (fin9 S4.out hgw (Nat.le_refl _) _ _ _ _ _ _ _ _ _).2.2) rfl ⟨y, rfl, (fin9 S4.out hgw (Nat.le_refl _) _ _ _ _ _ _ _ _ _).1, (fin9 S4.out hgw (Nat.le_refl _) _ _ _ _ _ _ _ _ _).2.1⟩
end Go.Proofs.Ytfpnpjpcjbndoaa
