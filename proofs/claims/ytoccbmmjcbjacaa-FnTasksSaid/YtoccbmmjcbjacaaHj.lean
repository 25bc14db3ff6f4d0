/- The draw of a task and of what it waits for; condition: the code can be read and has at most 4096 bytes. -/
import Derived.Test.YtoccbmmjcbjacaaHi
import Derived.Deep.RegionLaw
import Derived.Deep.RegionHeld3
namespace Go.Proofs.Ytoccbmmjcbjacaa
open Go.RowKit Go.Sort

/-- The draw under way: the result's box, the task's box, the cursor. -/
structure PkS (w wr : World) (g : Nat) (A : Option Addr) (c : Nat) (xs : List Int) (b : Nat) (t : Tk) : Prop where
  res : Blk wr w.heap.size 25 #[.int .i64 0, .int .i64 0, .int .i64 0, .int .i64 0, .int .i64 0, .int .i64 0, .int .i64 0, .int .i64 0, .int .i64 0]
  box : Blk wr b 25 #[.int .i64 t.prog, .int .i64 t.pc, .int .i64 t.st, .int .i64 t.why, .int .i64 t.what, .int .i64 t.timer, .int .i64 t.reg, .int .i64 t.grp, .int .i64 t.err]
  cur : Cur wr g A c xs
  kept : Kept 0 0 w wr
theorem PkS.draw {w wr wr' : World} {g c b : Nat} {A : Option Addr} {xs : List Int} {t : Tk} (h : PkS w wr g A c xs b t) (hg : w.heap.size < g) (hb : g ≠ b) (hc : Cur wr' g A c xs) (hk : Kept g (g + 1) wr wr') : PkS w wr' g A c xs b t :=
  ⟨h.res.kept hk (by omega), h.box.kept hk (by omega), hc, h.kept.trans2 hk (.inr (by omega))⟩
theorem PkS.quiet {w wr wr' : World} {g c b : Nat} {A : Option Addr} {xs : List Int} {t : Tk} (h : PkS w wr g A c xs b t) (hk : Kept 0 0 wr wr') : PkS w wr' g A c xs b t :=
  ⟨h.res.kept hk (.inl (Nat.le_refl _)), h.box.kept hk (.inl (Nat.le_refl _)), h.cur.kept hk (.inl (Nat.le_refl _)), h.kept.trans hk⟩
theorem results_DrawParked (tmps : Array Value) (w : World) (r : Nat) (v0 v1 v2 v3 v4 v5 v6 v7 v8 a3 a4 a5 : Value) (hp : tmps[2]?.getD undef = .pointer (some ⟨r, 0, none⟩)) (e3 : tmps[3]?.getD undef = a3) (e4 : tmps[4]?.getD undef = a4) (e5 : tmps[5]?.getD undef = a5) (h : Blk w r 25 #[v0, v1, v2, v3, v4, v5, v6, v7, v8]) :
    (results Try.f12 tmps).run Try.prog w = .ok (.tuple #[.agg #[v0, v1, v2, v3, v4, v5, v6, v7, v8], a3, a4, a5]) w := by
  obtain ⟨h0, h1, h2, h3, h4, h5, h6, h7, h8⟩ := h.nine
  simp [results, Try.results12, hp, e3, e4, e5, go_sem, h0, h1, h2, h3, h4, h5, h6, h7, h8]
set_option maxHeartbeats 3200000 in
theorem drawParked_any (xs : List Int) (A : Option Addr) (c : Nat) (w : World) (h : Rd (Value.int .u8) w w.heap.size A xs) (hx : ∀ x ∈ xs, 0 ≤ x ∧ x ≤ 255) (hl : xs.length ≤ 4096) :
    Calls Try.prog 12 #[.slice A xs.length c] w fun e w' => ∃ (t : Tk) (y q m : Int), e = .returned (.tuple #[.agg #[.int .i64 t.prog, .int .i64 t.pc, .int .i64 t.st, .int .i64 t.why, .int .i64 t.what, .int .i64 t.timer, .int .i64 t.reg, .int .i64 t.grp, .int .i64 t.err], .int .i64 y, .int .i64 q, .int .i64 m]) ∧ Kept 0 0 w w' := by
  obtain ⟨W, hW⟩ : ∃ W, W = w.alloc (.cells #[.int .i64 0, .int .i64 0, .int .i64 0, .int .i64 0, .int .i64 0, .int .i64 0, .int .i64 0, .int .i64 0, .int .i64 0] 25) := ⟨_, rfl⟩
  have kW : Kept 0 0 w W := by rw [hW]; exact Kept.alloc0 _ _
  have CN := Lib.hid (new_any xs A c W ((h.kept (Nat.le_refl _) kW (.inl (Nat.le_refl _))).wide kW.size) hx hl)
  have B0 : Hid (Blk W w.heap.size 25 #[.int .i64 0, .int .i64 0, .int .i64 0, .int .i64 0, .int .i64 0, .int .i64 0, .int .i64 0, .int .i64 0, .int .i64 0]) := by show Blk _ _ _ _; rw [hW]; exact Blk.new _ _ _
  have K0 := Lib.hid kW
  have ZW : Hid (W.heap.size = w.heap.size + 1) := by show _ = _; rw [hW]; exact size_alloc _ _
  clear h hx kW
  go_enter Try.func12, Try.ntmps12
  go_wp2_with fail
  rw [← hW]
  clear hW
  with_reducible refine CN.out.mono ?_
  rintro e w1 ⟨rfl, hc, hk⟩
  obtain ⟨g, hg⟩ : ∃ g, g = W.heap.size := ⟨_, rfl⟩
  rw [← hg] at hc ⊢
  have hwg : w.heap.size < g := by have := ZW.out; omega
  have C1 := Lib.hid hc
  have B1 := Lib.hid (B0.out.kept hk (.inl (Nat.le_refl _)))
  have K1 := Lib.hid (K0.out.trans hk)
  clear hc hk CN B0 K0 hg ZW
  go_wp2_with fail
  with_reducible refine (drawAny10_any _ _ _ _ _ C1.out).mono ?_
  rintro e w2 ⟨y1, rfl, hc, hk⟩
  have C2 := Lib.hid hc
  have B2 := Lib.hid (B1.out.kept hk (by omega))
  have K2 := Lib.hid (K1.out.trans2 hk (.inr (by omega)))
  have g2 := hc.lt
  clear hc hk B1 K1 C1
  obtain ⟨U, hU⟩ : ∃ U, U = w2.alloc (.cells #[.int .i64 y1.prog, .int .i64 y1.pc, .int .i64 y1.st, .int .i64 y1.why, .int .i64 y1.what, .int .i64 y1.timer, .int .i64 y1.reg, .int .i64 y1.grp, .int .i64 y1.err] 25) := ⟨_, rfl⟩
  obtain ⟨b1, hb1⟩ : ∃ b, b = w2.heap.size := ⟨_, rfl⟩
  have kU : Kept 0 0 w2 U := by rw [hU]; exact Kept.alloc0 _ _
  have S1 : Hid (PkS w U g A c xs b1 y1) := ⟨B2.out.kept kU (.inl (Nat.le_refl _)), by rw [hU, hb1]; exact Blk.new _ _ _, C2.out.kept kU (.inl (Nat.le_refl _)), K2.out.trans kU⟩
  have gb : g < b1 := by omega
  have HU := Lib.hid hU
  have HB := Lib.hid hb1
  clear hU hb1 kU B2 C2 K2 g2
  go_upto_region 3 with fail
  rw [← HU.out, ← HB.out]
  clear HU HB
  go_wp2_with fail
  with_reducible refine (draw10_any _ _ _ _ _ S1.out.cur).mono ?_
  rintro e w3 ⟨y2, rfl, hc, hk⟩
  have S2 := Lib.hid (S1.out.draw hwg (by omega) hc hk)
  clear hc hk S1
  obtain ⟨U2, hU⟩ : ∃ U, U = w3.alloc (.cells #[.int .i64 y2.prog, .int .i64 y2.pc, .int .i64 y2.st, .int .i64 y2.why, .int .i64 y2.what, .int .i64 y2.timer, .int .i64 y2.reg, .int .i64 y2.grp, .int .i64 y2.err] 25) := ⟨_, rfl⟩
  obtain ⟨b2, hb2⟩ : ∃ b, b = w3.heap.size := ⟨_, rfl⟩
  have kU : Kept 0 0 w3 U2 := by rw [hU]; exact Kept.alloc0 _ _
  have S3 := Lib.hid (S2.out.quiet kU)
  have X3 : Hid (Blk U2 b2 25 #[.int .i64 y2.prog, .int .i64 y2.pc, .int .i64 y2.st, .int .i64 y2.why, .int .i64 y2.what, .int .i64 y2.timer, .int .i64 y2.reg, .int .i64 y2.grp, .int .i64 y2.err]) := by show Blk _ _ _ _; rw [hU, hb2]; exact Blk.new _ _ _
  have wb2 : w.heap.size < b2 := by rw [hb2]; exact S2.out.res.lt
  have HU := Lib.hid hU
  have HB := Lib.hid hb2
  clear hU hb2 kU S2
  go_upto_region 4 with fail
  rw [← HU.out, ← HB.out]
  clear HU HB
  obtain ⟨c0, c1, c2, c3, c4, c5, c6, c7, c8⟩ := X3.out.nine
  obtain ⟨q3, hq⟩ : ∃ q, q = y2.why := ⟨_, rfl⟩
  rw [← hq] at c3
  have HQ := Lib.hid hq
  clear hq
  by_cases hz : q3 = 0
  · clear HQ
    subst hz
    obtain ⟨d0, d1, d2, d3, d4, d5, d6, d7, d8⟩ := S3.out.box.nine
    have SD := Lib.hid (S3.out.quiet (Kept.refl 0 0 U2).drew)
    go_upto_region 5 with fail
    clear c0 c1 c2 c3 c4 c5 c6 c7 c8 X3
    go_region_law (first
      | (go_simp; go_at_call 36; (with_reducible refine (from_any _ _ _ _ _ _ _ SD.out.cur (by omega) (by omega) (by omega) (by omega)).mono ?_); rintro e w4 ⟨q, rfl, -, hc, hk⟩; have S4 := Lib.hid (SD.out.draw hwg (by omega) hc hk); clear hc hk; obtain ⟨k0, k1, k2, k3, k4, k5, k6, k7, k8⟩ := S4.out.box.nine)
      | (go_simp; go_at_call 37; (with_reducible refine (below_any _ _ _ _ _ _ S4.out.cur (by omega) (by omega)).mono ?_); rintro e w5 ⟨p, rfl, -, hc, hk⟩; have S5 := Lib.hid (S4.out.draw hwg (by omega) hc hk); clear hc hk; obtain ⟨m0, m1, m2, m3, m4, m5, m6, m7, m8⟩ := S5.out.box.nine; obtain ⟨r0, r1, r2, r3, r4, r5, r6, r7, r8⟩ := S5.out.res.nine; obtain ⟨f0, f1, f2, f3, f4, f5, f6, f7, f8⟩ := S5.out.res.free9))
    all_goals
      go_wp2
      exact bodyPost_ret (v := .tuple #[.agg #[.int .i64 y1.prog, .int .i64 y1.pc, .int .i64 y1.st, .int .i64 y1.why, .int .i64 y1.what, .int .i64 y1.timer, .int .i64 y1.reg, .int .i64 y1.grp, .int .i64 y1.err], .int .i64 q, .int .i64 p, .int .i64 (-1)]) (results_DrawParked _ _ w.heap.size _ _ _ _ _ _ _ _ _ _ _ _ rfl rfl rfl rfl (back9 (w := w) S5.out.res (Nat.le_refl _) S5.out.kept _ _ _ _ _ _ _ _ _).2) rfl ⟨y1, q, p, -1, rfl, (back9 S5.out.res (Nat.le_refl _) S5.out.kept _ _ _ _ _ _ _ _ _).1⟩
  · obtain ⟨d0, d1, d2, d3, d4, d5, d6, d7, d8⟩ := S3.out.box.nine
    obtain ⟨r0, r1, r2, r3, r4, r5, r6, r7, r8⟩ := S3.out.res.nine
    obtain ⟨f0, f1, f2, f3, f4, f5, f6, f7, f8⟩ := S3.out.res.free9
    have SD := Lib.hid (S3.out.quiet (Kept.refl 0 0 U2).drew)
    go_upto_region 6 with fail
    have n1 : ¬ b2 = w.heap.size := by omega
    have n2 : ¬ w.heap.size = b2 := by omega
    have SS : Hid (∀ w', Kept w.heap.size (w.heap.size + 1) U2 w' → w'.cell? ⟨b1, 0, none⟩ = some (.int .i64 y1.prog) ∧ w'.cell? ⟨b1, 1, none⟩ = some (.int .i64 y1.pc) ∧ w'.cell? ⟨b1, 2, none⟩ = some (.int .i64 y1.st) ∧ w'.cell? ⟨b1, 3, none⟩ = some (.int .i64 y1.why) ∧ w'.cell? ⟨b1, 4, none⟩ = some (.int .i64 y1.what) ∧ w'.cell? ⟨b1, 5, none⟩ = some (.int .i64 y1.timer) ∧ w'.cell? ⟨b1, 6, none⟩ = some (.int .i64 y1.reg) ∧ w'.cell? ⟨b1, 7, none⟩ = some (.int .i64 y1.grp) ∧ w'.cell? ⟨b1, 8, none⟩ = some (.int .i64 y1.err) ∧ w'.cell? ⟨b2, 3, none⟩ = some (.int .i64 q3) ∧ w'.cell? ⟨b2, 4, none⟩ = some (.int .i64 y2.what) ∧ w'.cell? ⟨b2, 5, none⟩ = some (.int .i64 y2.timer)) := by
      intro w' hk
      obtain ⟨e0, e1, e2, e3, e4, e5, e6, e7, e8⟩ := (S3.out.box.kept hk (by omega)).nine
      obtain ⟨_, _, _, g3, g4, g5, _⟩ := (X3.out.kept hk (by omega)).nine
      rw [← HQ.out] at g3
      exact ⟨e0, e1, e2, e3, e4, e5, e6, e7, e8, g3, g4, g5⟩
    clear c0 c1 c2 c3 c4 c5 c6 c7 c8 d0 d1 d2 d3 d4 d5 d6 d7 d8
    go_region_held3 (fun w' => w'.cell? ⟨b1, 0, none⟩ = some (.int .i64 y1.prog) ∧ w'.cell? ⟨b1, 1, none⟩ = some (.int .i64 y1.pc) ∧ w'.cell? ⟨b1, 2, none⟩ = some (.int .i64 y1.st) ∧ w'.cell? ⟨b1, 3, none⟩ = some (.int .i64 y1.why) ∧ w'.cell? ⟨b1, 4, none⟩ = some (.int .i64 y1.what) ∧ w'.cell? ⟨b1, 5, none⟩ = some (.int .i64 y1.timer) ∧ w'.cell? ⟨b1, 6, none⟩ = some (.int .i64 y1.reg) ∧ w'.cell? ⟨b1, 7, none⟩ = some (.int .i64 y1.grp) ∧ w'.cell? ⟨b1, 8, none⟩ = some (.int .i64 y1.err) ∧ w'.cell? ⟨b2, 3, none⟩ = some (.int .i64 q3) ∧ w'.cell? ⟨b2, 4, none⟩ = some (.int .i64 y2.what) ∧ w'.cell? ⟨b2, 5, none⟩ = some (.int .i64 y2.timer))
      (first | (refine SS.out _ ?_; (repeat (first | with_reducible exact Kept.refl _ _ U2 | with_reducible refine Kept.drew ?_ | with_reducible refine Kept.setCell ?_ (.inr ⟨(by first | omega | (simp; done) | (simp; omega)), (by first | omega | (simp; done) | (simp; omega))⟩) _))))
      (fail)
    all_goals
      go_wp2
      exact bodyPost_ret (v := .tuple #[.agg #[.int .i64 y1.prog, .int .i64 y1.pc, .int .i64 y1.st, .int .i64 y1.why, .int .i64 y1.what, .int .i64 y1.timer, .int .i64 y1.reg, .int .i64 y1.grp, .int .i64 y1.err], .int .i64 q3, .int .i64 y2.what, .int .i64 y2.timer]) (results_DrawParked _ _ w.heap.size _ _ _ _ _ _ _ _ _ _ _ _ rfl rfl rfl rfl (back9 (w := w) S3.out.res (Nat.le_refl _) S3.out.kept _ _ _ _ _ _ _ _ _).2.drew) rfl ⟨y1, q3, y2.what, y2.timer, rfl, (back9 S3.out.res (Nat.le_refl _) S3.out.kept _ _ _ _ _ _ _ _ _).1.drew⟩
end Go.Proofs.Ytoccbmmjcbjacaa
