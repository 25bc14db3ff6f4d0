/- The reference of chapter 10: l10Free, l10Either, NewTask, Parked, Readied, Ended; no condition. -/
import Derived.Test.YtfpnpjpcjbndoaaHb
namespace Go.Proofs.Ytfpnpjpcjbndoaa
open Go.RowKit Go.Sort

theorem Blk.free9 {w : World} {g ty : Nat} {cs : Array Value} (h : Blk w g ty cs) : w.frozen? ⟨g, 0, none⟩ = false ∧ w.frozen? ⟨g, 1, none⟩ = false ∧ w.frozen? ⟨g, 2, none⟩ = false ∧ w.frozen? ⟨g, 3, none⟩ = false ∧ w.frozen? ⟨g, 4, none⟩ = false ∧ w.frozen? ⟨g, 5, none⟩ = false ∧ w.frozen? ⟨g, 6, none⟩ = false ∧ w.frozen? ⟨g, 7, none⟩ = false ∧ w.frozen? ⟨g, 8, none⟩ = false :=
  ⟨h.frozen 0, h.frozen 1, h.frozen 2, h.frozen 3, h.frozen 4, h.frozen 5, h.frozen 6, h.frozen 7, h.frozen 8⟩
theorem back9 {w w1 : World} {r ty : Nat} {u0 u1 u2 u3 u4 u5 u6 u7 u8 : Value} (h : Blk w1 r ty #[u0, u1, u2, u3, u4, u5, u6, u7, u8]) (hr : w.heap.size ≤ r) (k : Kept 0 0 w w1) (v0 v1 v2 v3 v4 v5 v6 v7 v8 : Value) :
    Kept 0 0 w (((((((((w1.setCell ⟨r, 0, none⟩ v0).setCell ⟨r, 1, none⟩ v1).setCell ⟨r, 2, none⟩ v2).setCell ⟨r, 3, none⟩ v3).setCell ⟨r, 4, none⟩ v4).setCell ⟨r, 5, none⟩ v5).setCell ⟨r, 6, none⟩ v6).setCell ⟨r, 7, none⟩ v7).setCell ⟨r, 8, none⟩ v8) ∧ Blk (((((((((w1.setCell ⟨r, 0, none⟩ v0).setCell ⟨r, 1, none⟩ v1).setCell ⟨r, 2, none⟩ v2).setCell ⟨r, 3, none⟩ v3).setCell ⟨r, 4, none⟩ v4).setCell ⟨r, 5, none⟩ v5).setCell ⟨r, 6, none⟩ v6).setCell ⟨r, 7, none⟩ v7).setCell ⟨r, 8, none⟩ v8) r ty #[v0, v1, v2, v3, v4, v5, v6, v7, v8] := by
  have b0 : Blk (w1.setCell ⟨r, 0, none⟩ v0) r ty #[v0, u1, u2, u3, u4, u5, u6, u7, u8] := h.set_ 0 v0
  have k0 : Kept 0 0 w (w1.setCell ⟨r, 0, none⟩ v0) := k.setCell (.inl hr) v0
  generalize w1.setCell ⟨r, 0, none⟩ v0 = w2 at b0 k0 ⊢
  have b1 : Blk (w2.setCell ⟨r, 1, none⟩ v1) r ty #[v0, v1, u2, u3, u4, u5, u6, u7, u8] := b0.set_ 1 v1
  have k1 : Kept 0 0 w (w2.setCell ⟨r, 1, none⟩ v1) := k0.setCell (.inl hr) v1
  generalize w2.setCell ⟨r, 1, none⟩ v1 = w3 at b1 k1 ⊢
  have b2 : Blk (w3.setCell ⟨r, 2, none⟩ v2) r ty #[v0, v1, v2, u3, u4, u5, u6, u7, u8] := b1.set_ 2 v2
  have k2 : Kept 0 0 w (w3.setCell ⟨r, 2, none⟩ v2) := k1.setCell (.inl hr) v2
  generalize w3.setCell ⟨r, 2, none⟩ v2 = w4 at b2 k2 ⊢
  have b3 : Blk (w4.setCell ⟨r, 3, none⟩ v3) r ty #[v0, v1, v2, v3, u4, u5, u6, u7, u8] := b2.set_ 3 v3
  have k3 : Kept 0 0 w (w4.setCell ⟨r, 3, none⟩ v3) := k2.setCell (.inl hr) v3
  generalize w4.setCell ⟨r, 3, none⟩ v3 = w5 at b3 k3 ⊢
  have b4 : Blk (w5.setCell ⟨r, 4, none⟩ v4) r ty #[v0, v1, v2, v3, v4, u5, u6, u7, u8] := b3.set_ 4 v4
  have k4 : Kept 0 0 w (w5.setCell ⟨r, 4, none⟩ v4) := k3.setCell (.inl hr) v4
  generalize w5.setCell ⟨r, 4, none⟩ v4 = w6 at b4 k4 ⊢
  have b5 : Blk (w6.setCell ⟨r, 5, none⟩ v5) r ty #[v0, v1, v2, v3, v4, v5, u6, u7, u8] := b4.set_ 5 v5
  have k5 : Kept 0 0 w (w6.setCell ⟨r, 5, none⟩ v5) := k4.setCell (.inl hr) v5
  generalize w6.setCell ⟨r, 5, none⟩ v5 = w7 at b5 k5 ⊢
  have b6 : Blk (w7.setCell ⟨r, 6, none⟩ v6) r ty #[v0, v1, v2, v3, v4, v5, v6, u7, u8] := b5.set_ 6 v6
  have k6 : Kept 0 0 w (w7.setCell ⟨r, 6, none⟩ v6) := k5.setCell (.inl hr) v6
  generalize w7.setCell ⟨r, 6, none⟩ v6 = w8 at b6 k6 ⊢
  have b7 : Blk (w8.setCell ⟨r, 7, none⟩ v7) r ty #[v0, v1, v2, v3, v4, v5, v6, v7, u8] := b6.set_ 7 v7
  have k7 : Kept 0 0 w (w8.setCell ⟨r, 7, none⟩ v7) := k6.setCell (.inl hr) v7
  generalize w8.setCell ⟨r, 7, none⟩ v7 = w9 at b7 k7 ⊢
  have b8 : Blk (w9.setCell ⟨r, 8, none⟩ v8) r ty #[v0, v1, v2, v3, v4, v5, v6, v7, v8] := b7.set_ 8 v8
  have k8 : Kept 0 0 w (w9.setCell ⟨r, 8, none⟩ v8) := k7.setCell (.inl hr) v8
  exact ⟨k8, b8⟩
theorem ret_tk {a b : Tk} (h : a = b) : Ending.returned (.agg #[.int .i64 a.prog, .int .i64 a.pc, .int .i64 a.st, .int .i64 a.why, .int .i64 a.what, .int .i64 a.timer, .int .i64 a.reg, .int .i64 a.grp, .int .i64 a.err]) = Ending.returned (.agg #[.int .i64 b.prog, .int .i64 b.pc, .int .i64 b.st, .int .i64 b.why, .int .i64 b.what, .int .i64 b.timer, .int .i64 b.reg, .int .i64 b.grp, .int .i64 b.err]) := by rw [h]
theorem results_l10Either (tmps : Array Value) (w : World) (r : Nat) (v0 v1 v2 v3 v4 v5 v6 v7 v8 : Value) (hp : tmps[4]?.getD undef = .pointer (some ⟨r, 0, none⟩)) (h : Blk w r 35 #[v0, v1, v2, v3, v4, v5, v6, v7, v8]) :
    (results Try.f56 tmps).run Try.prog w = .ok (.agg #[v0, v1, v2, v3, v4, v5, v6, v7, v8]) w := by
  obtain ⟨h0, h1, h2, h3, h4, h5, h6, h7, h8⟩ := h.nine
  simp [results, Try.results56, hp, go_sem, h0, h1, h2, h3, h4, h5, h6, h7, h8]
theorem results_NewTask (tmps : Array Value) (w : World) (r : Nat) (v0 v1 v2 v3 v4 v5 v6 v7 v8 : Value) (hp : tmps[4]?.getD undef = .pointer (some ⟨r, 0, none⟩)) (h : Blk w r 35 #[v0, v1, v2, v3, v4, v5, v6, v7, v8]) :
    (results Try.f60 tmps).run Try.prog w = .ok (.agg #[v0, v1, v2, v3, v4, v5, v6, v7, v8]) w := by
  obtain ⟨h0, h1, h2, h3, h4, h5, h6, h7, h8⟩ := h.nine
  simp [results, Try.results60, hp, go_sem, h0, h1, h2, h3, h4, h5, h6, h7, h8]
theorem results_Parked (tmps : Array Value) (w : World) (r : Nat) (v0 v1 v2 v3 v4 v5 v6 v7 v8 : Value) (hp : tmps[8]?.getD undef = .pointer (some ⟨r, 0, none⟩)) (h : Blk w r 35 #[v0, v1, v2, v3, v4, v5, v6, v7, v8]) :
    (results Try.f62 tmps).run Try.prog w = .ok (.agg #[v0, v1, v2, v3, v4, v5, v6, v7, v8]) w := by
  obtain ⟨h0, h1, h2, h3, h4, h5, h6, h7, h8⟩ := h.nine
  simp [results, Try.results62, hp, go_sem, h0, h1, h2, h3, h4, h5, h6, h7, h8]
theorem results_Readied (tmps : Array Value) (w : World) (r : Nat) (v0 v1 v2 v3 v4 v5 v6 v7 v8 : Value) (hp : tmps[4]?.getD undef = .pointer (some ⟨r, 0, none⟩)) (h : Blk w r 35 #[v0, v1, v2, v3, v4, v5, v6, v7, v8]) :
    (results Try.f39 tmps).run Try.prog w = .ok (.agg #[v0, v1, v2, v3, v4, v5, v6, v7, v8]) w := by
  obtain ⟨h0, h1, h2, h3, h4, h5, h6, h7, h8⟩ := h.nine
  simp [results, Try.results39, hp, go_sem, h0, h1, h2, h3, h4, h5, h6, h7, h8]
theorem results_Ended (tmps : Array Value) (w : World) (r : Nat) (v0 v1 v2 v3 v4 v5 v6 v7 v8 : Value) (hp : tmps[4]?.getD undef = .pointer (some ⟨r, 0, none⟩)) (h : Blk w r 35 #[v0, v1, v2, v3, v4, v5, v6, v7, v8]) :
    (results Try.f63 tmps).run Try.prog w = .ok (.agg #[v0, v1, v2, v3, v4, v5, v6, v7, v8]) w := by
  obtain ⟨h0, h1, h2, h3, h4, h5, h6, h7, h8⟩ := h.nine
  simp [results, Try.results63, hp, go_sem, h0, h1, h2, h3, h4, h5, h6, h7, h8]
set_option maxHeartbeats 1600000 in
theorem free_any (x : Tk) (s : Int) (w : World) :
    Calls Try.prog 55 #[.agg #[.int .i64 x.prog, .int .i64 x.pc, .int .i64 x.st, .int .i64 x.why, .int .i64 x.what, .int .i64 x.timer, .int .i64 x.reg, .int .i64 x.grp, .int .i64 x.err], .int .i64 s] w fun e w' => e = .returned (.agg #[.int .i64 (freeT x s).prog, .int .i64 (freeT x s).pc, .int .i64 (freeT x s).st, .int .i64 (freeT x s).why, .int .i64 (freeT x s).what, .int .i64 (freeT x s).timer, .int .i64 (freeT x s).reg, .int .i64 (freeT x s).grp, .int .i64 (freeT x s).err]) ∧ Kept 0 0 w w' := by
  go_enter Try.func55, Try.ntmps55
  go_wp2
  exact bodyPost_ret (v := .agg #[.int .i64 (freeT x s).prog, .int .i64 (freeT x s).pc, .int .i64 (freeT x s).st, .int .i64 (freeT x s).why, .int .i64 (freeT x s).what, .int .i64 (freeT x s).timer, .int .i64 (freeT x s).reg, .int .i64 (freeT x s).grp, .int .i64 (freeT x s).err]) (by simp [results, Try.results55, go_sem, freeT]) rfl ⟨rfl, (Kept.alloc0 _ _).alloc _⟩
set_option maxHeartbeats 1600000 in
theorem either_any (t x : Tk) (w : World) :
    Calls Try.prog 56 #[.agg #[.int .i64 t.prog, .int .i64 t.pc, .int .i64 t.st, .int .i64 t.why, .int .i64 t.what, .int .i64 t.timer, .int .i64 t.reg, .int .i64 t.grp, .int .i64 t.err], .agg #[.int .i64 x.prog, .int .i64 x.pc, .int .i64 x.st, .int .i64 x.why, .int .i64 x.what, .int .i64 x.timer, .int .i64 x.reg, .int .i64 x.grp, .int .i64 x.err]] w fun e w' => e = .returned (.agg #[.int .i64 (eitherT t x).prog, .int .i64 (eitherT t x).pc, .int .i64 (eitherT t x).st, .int .i64 (eitherT t x).why, .int .i64 (eitherT t x).what, .int .i64 (eitherT t x).timer, .int .i64 (eitherT t x).reg, .int .i64 (eitherT t x).grp, .int .i64 (eitherT t x).err]) ∧ Kept 0 0 w w' := by
  obtain ⟨aprog, apc, ast, awhy, awhat, atimer, areg, agrp, aerr⟩ := t
  obtain ⟨bprog, bpc, bst, bwhy, bwhat, btimer, breg, bgrp, berr⟩ := x
  obtain ⟨W0, hW0⟩ : ∃ W, W = w.alloc (.cells #[.int .i64 aprog, .int .i64 apc, .int .i64 ast, .int .i64 awhy, .int .i64 awhat, .int .i64 atimer, .int .i64 areg, .int .i64 agrp, .int .i64 aerr] 35) := ⟨_, rfl⟩
  obtain ⟨W1, hW1⟩ : ∃ W, W = W0.alloc (.cells #[.int .i64 bprog, .int .i64 bpc, .int .i64 bst, .int .i64 bwhy, .int .i64 bwhat, .int .i64 btimer, .int .i64 breg, .int .i64 bgrp, .int .i64 berr] 35) := ⟨_, rfl⟩
  obtain ⟨W2, hW2⟩ : ∃ W, W = W1.alloc (.cells #[.int .i64 0, .int .i64 0, .int .i64 0, .int .i64 0, .int .i64 0, .int .i64 0, .int .i64 0, .int .i64 0, .int .i64 0] 35) := ⟨_, rfl⟩
  have k0 : Kept 0 0 w W0 := by rw [hW0]; exact Kept.alloc0 _ _
  have k1 : Kept 0 0 w W1 := by rw [hW1]; exact k0.alloc _
  have k2 : Kept 0 0 w W2 := by rw [hW2]; exact k1.alloc _
  have s0 : W0.heap.size = w.heap.size + 1 := by rw [hW0]; exact size_alloc _ _
  have s1 : W1.heap.size = w.heap.size + 2 := by rw [hW1, size_alloc, s0]
  have s2 : W2.heap.size = w.heap.size + 3 := by rw [hW2, size_alloc, s1]
  have B0 : Hid (Blk W2 w.heap.size 35 #[.int .i64 aprog, .int .i64 apc, .int .i64 ast, .int .i64 awhy, .int .i64 awhat, .int .i64 atimer, .int .i64 areg, .int .i64 agrp, .int .i64 aerr]) := by
    have h := Blk.new w 35 #[.int .i64 aprog, .int .i64 apc, .int .i64 ast, .int .i64 awhy, .int .i64 awhat, .int .i64 atimer, .int .i64 areg, .int .i64 agrp, .int .i64 aerr]
    rw [← hW0] at h
    show Blk _ _ _ _; rw [hW2]; refine Blk.alloc ?_ _; rw [hW1]; refine Blk.alloc ?_ _
    exact h
  have B1 : Hid (Blk W2 (w.heap.size + 1) 35 #[.int .i64 bprog, .int .i64 bpc, .int .i64 bst, .int .i64 bwhy, .int .i64 bwhat, .int .i64 btimer, .int .i64 breg, .int .i64 bgrp, .int .i64 berr]) := by
    have h := Blk.new W0 35 #[.int .i64 bprog, .int .i64 bpc, .int .i64 bst, .int .i64 bwhy, .int .i64 bwhat, .int .i64 btimer, .int .i64 breg, .int .i64 bgrp, .int .i64 berr]
    rw [s0] at h; rw [← hW1] at h
    show Blk _ _ _ _; rw [hW2]; refine Blk.alloc ?_ _
    exact h
  have B2 : Hid (Blk W2 (w.heap.size + 2) 35 #[.int .i64 0, .int .i64 0, .int .i64 0, .int .i64 0, .int .i64 0, .int .i64 0, .int .i64 0, .int .i64 0, .int .i64 0]) := by
    have h := Blk.new W1 35 #[.int .i64 0, .int .i64 0, .int .i64 0, .int .i64 0, .int .i64 0, .int .i64 0, .int .i64 0, .int .i64 0, .int .i64 0]
    rw [s1] at h; rw [← hW2] at h
    show Blk _ _ _ _
    exact h
  have HW : Hid (W2 = (((w.alloc (.cells #[.int .i64 aprog, .int .i64 apc, .int .i64 ast, .int .i64 awhy, .int .i64 awhat, .int .i64 atimer, .int .i64 areg, .int .i64 agrp, .int .i64 aerr] 35)).alloc (.cells #[.int .i64 bprog, .int .i64 bpc, .int .i64 bst, .int .i64 bwhy, .int .i64 bwhat, .int .i64 btimer, .int .i64 breg, .int .i64 bgrp, .int .i64 berr] 35)).alloc (.cells #[.int .i64 0, .int .i64 0, .int .i64 0, .int .i64 0, .int .i64 0, .int .i64 0, .int .i64 0, .int .i64 0, .int .i64 0] 35))) := by show _ = _; rw [hW2, hW1, hW0]
  have KW := Lib.hid k2
  have SW : W2.heap.size = w.heap.size + 3 := s2
  clear hW0 k0 s0 hW1 k1 s1 hW2 k2 s2
  obtain ⟨c0, c1, c2, c3, c4, c5, c6, c7, c8⟩ := B1.out.nine
  go_enter Try.func56, Try.ntmps56
  go_upto_region 1 with fail
  rw [← HW.out]
  clear HW
  go_wp2_with fail
  with_reducible refine (taskOk_any ⟨bprog, bpc, bst, bwhy, bwhat, btimer, breg, bgrp, berr⟩ _).mono ?_
  rintro e w1 ⟨rfl, hk⟩
  have K1 := Lib.hid (KW.out.trans hk)
  have A1 := Lib.hid (B0.out.kept hk (.inl (Nat.le_refl _)))
  have X1 := Lib.hid (B1.out.kept hk (.inl (Nat.le_refl _)))
  have R1 := Lib.hid (B2.out.kept hk (.inl (Nat.le_refl _)))
  clear hk B0 B1 B2 c0 c1 c2 c3 c4 c5 c6 c7 c8
  obtain ⟨r0, r1, r2, r3, r4, r5, r6, r7, r8⟩ := R1.out.nine
  obtain ⟨f0, f1, f2, f3, f4, f5, f6, f7, f8⟩ := R1.out.free9
  cases hb : tkB ⟨bprog, bpc, bst, bwhy, bwhat, btimer, breg, bgrp, berr⟩
  · have hb' := Lib.hid hb
    clear hb
    obtain ⟨c0, c1, c2, c3, c4, c5, c6, c7, c8⟩ := A1.out.nine
    go_wp2
    exact bodyPost_ret (v := .agg #[.int .i64 aprog, .int .i64 apc, .int .i64 ast, .int .i64 awhy, .int .i64 awhat, .int .i64 atimer, .int .i64 areg, .int .i64 agrp, .int .i64 aerr]) (results_l10Either _ _ (w.heap.size + 2) _ _ _ _ _ _ _ _ _ rfl (back9 (w := w) R1.out (by omega) K1.out _ _ _ _ _ _ _ _ _).2) rfl ⟨ret_tk (a := ⟨aprog, apc, ast, awhy, awhat, atimer, areg, agrp, aerr⟩) (by simp [eitherT, hb'.out]), (back9 R1.out (by omega) K1.out _ _ _ _ _ _ _ _ _).1⟩
  · have hb' := Lib.hid hb
    clear hb
    obtain ⟨c0, c1, c2, c3, c4, c5, c6, c7, c8⟩ := X1.out.nine
    go_wp2
    exact bodyPost_ret (v := .agg #[.int .i64 bprog, .int .i64 bpc, .int .i64 bst, .int .i64 bwhy, .int .i64 bwhat, .int .i64 btimer, .int .i64 breg, .int .i64 bgrp, .int .i64 berr]) (results_l10Either _ _ (w.heap.size + 2) _ _ _ _ _ _ _ _ _ rfl (back9 (w := w) R1.out (by omega) K1.out _ _ _ _ _ _ _ _ _).2) rfl ⟨ret_tk (a := ⟨bprog, bpc, bst, bwhy, bwhat, btimer, breg, bgrp, berr⟩) (by simp [eitherT, hb'.out]), (back9 R1.out (by omega) K1.out _ _ _ _ _ _ _ _ _).1⟩
end Go.Proofs.Ytfpnpjpcjbndoaa
