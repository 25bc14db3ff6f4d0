/- FnTasks returns true for every code, under what is asked of the program's functions (Does..). -/
import Derived.Test.YtoccbmmjcbjacaaHj
import Derived.Test.YtoccbmmjcbjacaaHk
import Derived.Deep.RegionHeld3
namespace Go.Proofs.Ytoccbmmjcbjacaa
open Go.RowKit Go.Sort

set_option maxHeartbeats 6400000 in
theorem lawTasks (h1 : DoesTaskOk) (h2 : DoesParked) (h3 : DoesReadied) (h4 : DoesEnded) (xs : List Int) (A : Option Addr) (c : Nat) (w : World) (h : Rd (Value.int .u8) w w.heap.size A xs) (hx : ∀ x ∈ xs, 0 ≤ x ∧ x ≤ 255) (hl : xs.length ≤ 4096) :
    Calls Try.prog 3 #[.slice A xs.length c] w fun e w' => e = .returned (.bool true) ∧ Kept 0 0 w w' := by
  have hm := h.1
  unfold DoesTaskOk at h1
  unfold DoesParked at h2
  unfold DoesReadied at h3
  unfold DoesEnded at h4
  have D1 := Lib.hid h1
  have D2 := Lib.hid h2
  have D3 := Lib.hid h3
  have D4 := Lib.hid h4
  have CD := Lib.hid (drawParked_any xs A c w h hx hl)
  have hbig : decide (4096 < xs.length) = false := by simpa using hl
  clear h hx h1 h2 h3 h4
  go_enter Try.func3, Try.ntmps3
  go_wp2_with fail
  with_reducible refine (big_any _ _ _ _ hm).mono ?_
  rintro e w' ⟨rfl, rfl⟩
  rw [hbig]
  clear hbig hm hl
  go_wp2_with fail
  with_reducible refine CD.out.mono ?_
  rintro e w1 ⟨t, y, q, m, rfl, hk⟩
  have K1 := Lib.hid hk
  clear hk CD
  obtain ⟨U, hU⟩ : ∃ U, U = w1.alloc (.cells #[.int .i64 t.prog, .int .i64 t.pc, .int .i64 t.st, .int .i64 t.why, .int .i64 t.what, .int .i64 t.timer, .int .i64 t.reg, .int .i64 t.grp, .int .i64 t.err] 25) := ⟨_, rfl⟩
  obtain ⟨b3, hb⟩ : ∃ b, b = w1.heap.size := ⟨_, rfl⟩
  have kU : Kept 0 0 w1 U := by rw [hU]; exact Kept.alloc0 _ _
  have T1 : Hid (Blk U b3 25 #[.int .i64 t.prog, .int .i64 t.pc, .int .i64 t.st, .int .i64 t.why, .int .i64 t.what, .int .i64 t.timer, .int .i64 t.reg, .int .i64 t.grp, .int .i64 t.err]) := by show Blk _ _ _ _; rw [hU, hb]; exact Blk.new _ _ _
  have KU := Lib.hid (K1.out.trans kU)
  have HU := Lib.hid hU
  have HB := Lib.hid hb
  clear hU hb kU K1 
  go_upto_region 4 with fail
  rw [← HU.out, ← HB.out]
  clear HU HB
  obtain ⟨c0, c1, c2, c3, c4, c5, c6, c7, c8⟩ := T1.out.nine
  go_wp2_with fail
  with_reducible refine (taskOk_any t _).mono ?_
  rintro e w2 ⟨rfl, hk⟩
  have K2 := Lib.hid (KU.out.trans hk)
  have T2 := Lib.hid (T1.out.kept hk (.inl (Nat.le_refl _)))
  clear hk KU T1 c0 c1 c2 c3 c4 c5 c6 c7 c8
  obtain ⟨c0, c1, c2, c3, c4, c5, c6, c7, c8⟩ := T2.out.nine
  cases htb : tkB t
  · have TB := Lib.hid htb
    have CP : Hid (∀ W, Calls Try.prog 15 #[.agg #[.int .i64 t.prog, .int .i64 t.pc, .int .i64 t.st, .int .i64 t.why, .int .i64 t.what, .int .i64 t.timer, .int .i64 t.reg, .int .i64 t.grp, .int .i64 t.err], .int .i64 y, .int .i64 q, .int .i64 m] W fun e w' => e = .returned (.agg #[.int .i64 0, .int .i64 0, .int .i64 0, .int .i64 0, .int .i64 0, .int .i64 0, .int .i64 0, .int .i64 0, .int .i64 0]) ∧ Kept 0 0 W w') := fun W => by
      have := D2.out t y q m W; rw [park_bad htb] at this; exact this
    clear htb
    go_wp2_with fail
    with_reducible refine (D1.out t _).mono ?_
    rintro e w3 ⟨rfl, hk⟩
    rw [TB.out]
    have K3 := Lib.hid (K2.out.trans hk)
    have T3 := Lib.hid (T2.out.kept hk (.inl (Nat.le_refl _)))
    clear hk K2 T2 c0 c1 c2 c3 c4 c5 c6 c7 c8
    obtain ⟨c0, c1, c2, c3, c4, c5, c6, c7, c8⟩ := T3.out.nine
    go_wp2_with fail
    with_reducible refine (CP.out _).mono ?_
    rintro e w4 ⟨rfl, hk⟩
    have K4 := Lib.hid (K3.out.trans hk)
    clear hk
    go_wp2_with fail
    go_ret
    exact ⟨rfl, K4.out⟩
  have TB := Lib.hid htb
  clear htb
  go_wp2_with fail
  with_reducible refine (D2.out t y q m _).mono ?_
  rintro e w3 ⟨rfl, hk⟩
  obtain ⟨p, hp⟩ : ∃ p, p = parkT t y q m := ⟨_, rfl⟩
  have PB : Hid (tkB p = true) := by show _ = _; rw [hp]; exact park_ok TB.out y q m
  rw [← hp]
  have HP := Lib.hid hp
  have K3 := Lib.hid (K2.out.trans hk)
  have T3 := Lib.hid (T2.out.kept hk (.inl (Nat.le_refl _)))
  clear hk hp K2 T2 c0 c1 c2 c3 c4 c5 c6 c7 c8
  obtain ⟨U2, hU⟩ : ∃ U, U = w3.alloc (.cells #[.int .i64 p.prog, .int .i64 p.pc, .int .i64 p.st, .int .i64 p.why, .int .i64 p.what, .int .i64 p.timer, .int .i64 p.reg, .int .i64 p.grp, .int .i64 p.err] 25) := ⟨_, rfl⟩
  obtain ⟨b7, hb⟩ : ∃ b, b = w3.heap.size := ⟨_, rfl⟩
  have kU : Kept 0 0 w3 U2 := by rw [hU]; exact Kept.alloc0 _ _
  have P3 : Hid (Blk U2 b7 25 #[.int .i64 p.prog, .int .i64 p.pc, .int .i64 p.st, .int .i64 p.why, .int .i64 p.what, .int .i64 p.timer, .int .i64 p.reg, .int .i64 p.grp, .int .i64 p.err]) := by show Blk _ _ _ _; rw [hU, hb]; exact Blk.new _ _ _
  have T4 := Lib.hid (T3.out.kept kU (.inl (Nat.le_refl _)))
  have KU2 := Lib.hid (K3.out.trans kU)
  have HU := Lib.hid hU
  have HB := Lib.hid hb
  clear hU hb kU K3 T3
  go_upto_region 7 with fail
  rw [← HU.out, ← HB.out]
  clear HU HB
  have SS : Hid (∀ w', Kept 0 0 U2 w' → w'.cell? ⟨b7, 0, none⟩ = some (.int .i64 p.prog) ∧ w'.cell? ⟨b7, 1, none⟩ = some (.int .i64 p.pc) ∧ w'.cell? ⟨b7, 2, none⟩ = some (.int .i64 p.st) ∧ w'.cell? ⟨b7, 3, none⟩ = some (.int .i64 p.why) ∧ w'.cell? ⟨b7, 4, none⟩ = some (.int .i64 p.what) ∧ w'.cell? ⟨b7, 5, none⟩ = some (.int .i64 p.timer) ∧ w'.cell? ⟨b7, 6, none⟩ = some (.int .i64 p.reg) ∧ w'.cell? ⟨b7, 7, none⟩ = some (.int .i64 p.grp) ∧ w'.cell? ⟨b7, 8, none⟩ = some (.int .i64 p.err) ∧ w'.cell? ⟨b3, 0, none⟩ = some (.int .i64 t.prog) ∧ w'.cell? ⟨b3, 1, none⟩ = some (.int .i64 t.pc) ∧ w'.cell? ⟨b3, 2, none⟩ = some (.int .i64 t.st) ∧ w'.cell? ⟨b3, 3, none⟩ = some (.int .i64 t.why) ∧ w'.cell? ⟨b3, 4, none⟩ = some (.int .i64 t.what) ∧ w'.cell? ⟨b3, 5, none⟩ = some (.int .i64 t.timer) ∧ w'.cell? ⟨b3, 6, none⟩ = some (.int .i64 t.reg) ∧ w'.cell? ⟨b3, 7, none⟩ = some (.int .i64 t.grp) ∧ w'.cell? ⟨b3, 8, none⟩ = some (.int .i64 t.err)) := by
    intro w' hk
    obtain ⟨x00, x01, x02, x03, x04, x05, x06, x07, x08⟩ := (P3.out.kept hk (.inl (Nat.le_refl _))).nine
    obtain ⟨x10, x11, x12, x13, x14, x15, x16, x17, x18⟩ := (T4.out.kept hk (.inl (Nat.le_refl _))).nine
    exact ⟨x00, x01, x02, x03, x04, x05, x06, x07, x08, x10, x11, x12, x13, x14, x15, x16, x17, x18⟩
  have KD := Lib.hid (SS.out _ (Kept.refl 0 0 U2))
  go_region_held3 (fun w' => w'.cell? ⟨b7, 0, none⟩ = some (.int .i64 p.prog) ∧ w'.cell? ⟨b7, 1, none⟩ = some (.int .i64 p.pc) ∧ w'.cell? ⟨b7, 2, none⟩ = some (.int .i64 p.st) ∧ w'.cell? ⟨b7, 3, none⟩ = some (.int .i64 p.why) ∧ w'.cell? ⟨b7, 4, none⟩ = some (.int .i64 p.what) ∧ w'.cell? ⟨b7, 5, none⟩ = some (.int .i64 p.timer) ∧ w'.cell? ⟨b7, 6, none⟩ = some (.int .i64 p.reg) ∧ w'.cell? ⟨b7, 7, none⟩ = some (.int .i64 p.grp) ∧ w'.cell? ⟨b7, 8, none⟩ = some (.int .i64 p.err) ∧ w'.cell? ⟨b3, 0, none⟩ = some (.int .i64 t.prog) ∧ w'.cell? ⟨b3, 1, none⟩ = some (.int .i64 t.pc) ∧ w'.cell? ⟨b3, 2, none⟩ = some (.int .i64 t.st) ∧ w'.cell? ⟨b3, 3, none⟩ = some (.int .i64 t.why) ∧ w'.cell? ⟨b3, 4, none⟩ = some (.int .i64 t.what) ∧ w'.cell? ⟨b3, 5, none⟩ = some (.int .i64 t.timer) ∧ w'.cell? ⟨b3, 6, none⟩ = some (.int .i64 t.reg) ∧ w'.cell? ⟨b3, 7, none⟩ = some (.int .i64 t.grp) ∧ w'.cell? ⟨b3, 8, none⟩ = some (.int .i64 t.err))
    (first | exact KD.out | with_reducible exact KW2 | with_reducible exact KW1)
    (first
      | (go_at_call 14; (with_reducible refine (D1.out p _).mono ?_); rintro e w4 ⟨rfl, hk⟩; rw [PB.out]; have KK1 := Lib.hid ((Kept.refl 0 0 U2).drew.trans hk); have KW1 := SS.out _ KK1.out; clear hk)
      | (go_at_call 16; (with_reducible refine (park_any t y q m _).mono ?_); rintro e w5 ⟨rfl, hk⟩; rw [← HP.out]; have KK2 := Lib.hid (KK1.out.trans hk); have KW2 := SS.out _ KK2.out; clear hk))
  have P5 := Lib.hid (P3.out.kept KK2.out (.inl (Nat.le_refl _)))
  have T5 := Lib.hid (T4.out.kept KK2.out (.inl (Nat.le_refl _)))
  have K5 := Lib.hid (KU2.out.trans KK2.out)
  clear SS KD KW1 KW2 KK1 KK2 KU2 P3 T4
  go_upto_region 9 with fail
  obtain ⟨c0, c1, c2, c3, c4, c5, c6, c7, c8⟩ := T5.out.nine
  obtain ⟨d0, d1, d2, d3, d4, d5, d6, d7, d8⟩ := P5.out.nine
  by_cases hz0 : t.st = 0
  · have q9 : (t.st != 0) = false := by simp [hz0]
    clear hz0
    go_upto_region 11 with fail
    clear c0 c1 c2 c3 c4 c5 c6 c7 c8 T5 q9
    go_wp2_with fail
    with_reducible refine (D3.out p 3 _).mono ?_
    rintro e w6 ⟨rfl, hk⟩
    obtain ⟨r, hr⟩ : ∃ r, r = readyT p 3 := ⟨_, rfl⟩
    rw [← hr]
    have HR := Lib.hid hr
    have K6 := Lib.hid (K5.out.trans hk)
    have P6 := Lib.hid (P5.out.kept hk (.inl (Nat.le_refl _)))
    clear hr hk K5 P5 d0 d1 d2 d3 d4 d5 d6 d7 d8
    obtain ⟨U3, hU⟩ : ∃ U, U = w6.alloc (.cells #[.int .i64 r.prog, .int .i64 r.pc, .int .i64 r.st, .int .i64 r.why, .int .i64 r.what, .int .i64 r.timer, .int .i64 r.reg, .int .i64 r.grp, .int .i64 r.err] 25) := ⟨_, rfl⟩
    obtain ⟨b8, hb⟩ : ∃ b, b = w6.heap.size := ⟨_, rfl⟩
    have kU : Kept 0 0 w6 U3 := by rw [hU]; exact Kept.alloc0 _ _
    have R6 : Hid (Blk U3 b8 25 #[.int .i64 r.prog, .int .i64 r.pc, .int .i64 r.st, .int .i64 r.why, .int .i64 r.what, .int .i64 r.timer, .int .i64 r.reg, .int .i64 r.grp, .int .i64 r.err]) := by show Blk _ _ _ _; rw [hU, hb]; exact Blk.new _ _ _
    have P7 := Lib.hid (P6.out.kept kU (.inl (Nat.le_refl _)))
    have KU3 := Lib.hid (K6.out.trans kU)
    have HU := Lib.hid hU
    have HB := Lib.hid hb
    clear hU hb kU K6 P6
    go_upto_region 12 with fail
    rw [← HU.out, ← HB.out]
    clear HU HB
    obtain ⟨d0, d1, d2, d3, d4, d5, d6, d7, d8⟩ := P7.out.nine
    go_wp2_with fail
    with_reducible refine (D4.out p 4 _).mono ?_
    rintro e w7 ⟨rfl, hk⟩
    obtain ⟨z, hz⟩ : ∃ z, z = endT p 4 := ⟨_, rfl⟩
    rw [← hz]
    have HZ := Lib.hid hz
    have K7 := Lib.hid (KU3.out.trans hk)
    have P8 := Lib.hid (P7.out.kept hk (.inl (Nat.le_refl _)))
    have R8 := Lib.hid (R6.out.kept hk (.inl (Nat.le_refl _)))
    clear hz hk KU3 P7 R6 d0 d1 d2 d3 d4 d5 d6 d7 d8
    obtain ⟨U4, hU⟩ : ∃ U, U = w7.alloc (.cells #[.int .i64 z.prog, .int .i64 z.pc, .int .i64 z.st, .int .i64 z.why, .int .i64 z.what, .int .i64 z.timer, .int .i64 z.reg, .int .i64 z.grp, .int .i64 z.err] 25) := ⟨_, rfl⟩
    obtain ⟨b9, hb⟩ : ∃ b, b = w7.heap.size := ⟨_, rfl⟩
    have kU : Kept 0 0 w7 U4 := by rw [hU]; exact Kept.alloc0 _ _
    have Z9 : Hid (Blk U4 b9 25 #[.int .i64 z.prog, .int .i64 z.pc, .int .i64 z.st, .int .i64 z.why, .int .i64 z.what, .int .i64 z.timer, .int .i64 z.reg, .int .i64 z.grp, .int .i64 z.err]) := by show Blk _ _ _ _; rw [hU, hb]; exact Blk.new _ _ _
    have P9 := Lib.hid (P8.out.kept kU (.inl (Nat.le_refl _)))
    have R9 := Lib.hid (R8.out.kept kU (.inl (Nat.le_refl _)))
    have KU4 := Lib.hid (K7.out.trans kU)
    have HU := Lib.hid hU
    have HB := Lib.hid hb
    clear hU hb kU K7 P8 R8
    go_upto_region 13 with fail
    rw [← HU.out, ← HB.out]
    clear HU HB
    obtain ⟨d0, d1, d2, d3, d4, d5, d6, d7, d8⟩ := P9.out.nine
    obtain ⟨s, hs⟩ : ∃ s, s = p.st := ⟨_, rfl⟩
    rw [← hs] at d2
    have HS := Lib.hid hs
    clear hs
    by_cases hs2 : s = 2
    · have er : r = p := HR.out.trans (ready_done PB.out (HS.out.symm.trans hs2) 3)
      have ez : z = p := HZ.out.trans (end_done PB.out (HS.out.symm.trans hs2) 4)
      rw [er] at R9
      rw [ez] at Z9
      clear HR HZ er ez
      subst hs2
      go_upto_region 14 with fail
      clear d0 d1 d2 d3 d4 d5 d6 d7 d8
      obtain ⟨d0, d1, d2, d3, d4, d5, d6, d7, d8⟩ := P9.out.nine
      obtain ⟨k0, k1, k2, k3, k4, k5, k6, k7, k8⟩ := R9.out.nine
      obtain ⟨m0, m1, m2, m3, m4, m5, m6, m7, m8⟩ := Z9.out.nine
      go_wp2_with fail
      go_ret
      exact ⟨rfl, KU4.out⟩
    · have hs3 : p.st ≠ 2 := fun e => hs2 (HS.out.trans e)
      have ez := end_go PB.out hs3
      have hpc := tkB_pc PB.out
      have Z10 : Hid (Blk U4 b9 25 #[.int .i64 p.prog, .int .i64 p.pc, .int .i64 2, .int .i64 0, .int .i64 0, .int .i64 (-1), .int .i64 p.reg, .int .i64 p.grp, .int .i64 4]) := by show Blk _ _ _ _; have := Z9.out; rw [HZ.out, ez.1] at this; exact this
      obtain ⟨v, hv⟩ : ∃ v : Tk, v = ⟨p.prog, p.pc, 2, 0, 0, -1, p.reg, p.grp, 4⟩ := ⟨_, rfl⟩
      have VB : tkB v = true := by rw [hv]; exact ez.2
      have C5 : Hid (∀ W, Calls Try.prog 18 #[.agg #[.int .i64 p.prog, .int .i64 p.pc, .int .i64 2, .int .i64 0, .int .i64 0, .int .i64 (-1), .int .i64 p.reg, .int .i64 p.grp, .int .i64 4], .int .i64 5] W fun e w' => e = .returned (.agg #[.int .i64 p.prog, .int .i64 p.pc, .int .i64 2, .int .i64 0, .int .i64 0, .int .i64 (-1), .int .i64 p.reg, .int .i64 p.grp, .int .i64 4]) ∧ Kept 0 0 W w') := fun W => by
        have := D4.out v 5 W; rw [end_done VB (by rw [hv]), hv] at this; exact this
      have C1 : Hid (∀ W, Calls Try.prog 17 #[.agg #[.int .i64 p.prog, .int .i64 p.pc, .int .i64 2, .int .i64 0, .int .i64 0, .int .i64 (-1), .int .i64 p.reg, .int .i64 p.grp, .int .i64 4], .int .i64 1] W fun e w' => e = .returned (.agg #[.int .i64 p.prog, .int .i64 p.pc, .int .i64 2, .int .i64 0, .int .i64 0, .int .i64 (-1), .int .i64 p.reg, .int .i64 p.grp, .int .i64 4]) ∧ Kept 0 0 W w') := fun W => by
        have := D3.out v 1 W; rw [ready_done VB (by rw [hv]), hv] at this; exact this
      have CP : Hid (∀ W, Calls Try.prog 15 #[.agg #[.int .i64 p.prog, .int .i64 p.pc, .int .i64 2, .int .i64 0, .int .i64 0, .int .i64 (-1), .int .i64 p.reg, .int .i64 p.grp, .int .i64 4], .int .i64 y, .int .i64 q, .int .i64 m] W fun e w' => e = .returned (.agg #[.int .i64 p.prog, .int .i64 p.pc, .int .i64 2, .int .i64 0, .int .i64 0, .int .i64 (-1), .int .i64 p.reg, .int .i64 p.grp, .int .i64 4]) ∧ Kept 0 0 W w') := fun W => by
        have := D2.out v y q m W; rw [park_same VB (by rw [hv]; show (2 : Int) ≠ 0; decide), hv] at this; exact this
      clear hv VB ez Z9 HZ
      have SS : Hid (∀ w', Kept 0 0 U4 w' → w'.cell? ⟨b9, 0, none⟩ = some (.int .i64 p.prog) ∧ w'.cell? ⟨b9, 1, none⟩ = some (.int .i64 p.pc) ∧ w'.cell? ⟨b9, 2, none⟩ = some (.int .i64 2) ∧ w'.cell? ⟨b9, 3, none⟩ = some (.int .i64 0) ∧ w'.cell? ⟨b9, 4, none⟩ = some (.int .i64 0) ∧ w'.cell? ⟨b9, 5, none⟩ = some (.int .i64 (-1)) ∧ w'.cell? ⟨b9, 6, none⟩ = some (.int .i64 p.reg) ∧ w'.cell? ⟨b9, 7, none⟩ = some (.int .i64 p.grp) ∧ w'.cell? ⟨b9, 8, none⟩ = some (.int .i64 4)) := by
        intro w' hk
        obtain ⟨x00, x01, x02, x03, x04, x05, x06, x07, x08⟩ := (Z10.out.kept hk (.inl (Nat.le_refl _))).nine
        exact ⟨x00, x01, x02, x03, x04, x05, x06, x07, x08⟩
      have KD := Lib.hid (SS.out _ (Kept.refl 0 0 U4))
      by_cases i1 : p.pc < 12
      · have R10 : Hid (Blk U4 b8 25 #[.int .i64 p.prog, .int .i64 (p.pc + 1), .int .i64 0, .int .i64 0, .int .i64 0, .int .i64 (-1), .int .i64 3, .int .i64 p.grp, .int .i64 p.err]) := by show Blk _ _ _ _; have := R9.out; rw [HR.out, ready_go PB.out hs3 i1] at this; exact this
        clear R9 HR HS hs3
        obtain ⟨k0, k1, k2, k3, k4, k5, k6, k7, k8⟩ := R10.out.nine
        go_upto_region 17 with fail
        clear hpc
        go_region_held3 (fun w' => w'.cell? ⟨b9, 0, none⟩ = some (.int .i64 p.prog) ∧ w'.cell? ⟨b9, 1, none⟩ = some (.int .i64 p.pc) ∧ w'.cell? ⟨b9, 2, none⟩ = some (.int .i64 2) ∧ w'.cell? ⟨b9, 3, none⟩ = some (.int .i64 0) ∧ w'.cell? ⟨b9, 4, none⟩ = some (.int .i64 0) ∧ w'.cell? ⟨b9, 5, none⟩ = some (.int .i64 (-1)) ∧ w'.cell? ⟨b9, 6, none⟩ = some (.int .i64 p.reg) ∧ w'.cell? ⟨b9, 7, none⟩ = some (.int .i64 p.grp) ∧ w'.cell? ⟨b9, 8, none⟩ = some (.int .i64 4))
          (first | exact KD.out | with_reducible exact KW3 | with_reducible exact KW2 | with_reducible exact KW1)
          (first
            | (go_at_call 18; (with_reducible refine (C5.out _).mono ?_); rintro e w8 ⟨rfl, hk⟩; have KK1 := Lib.hid ((Kept.refl 0 0 U4).drew.trans hk); have KW1 := SS.out _ KK1.out; clear hk)
            | (go_at_call 17; (with_reducible refine (C1.out _).mono ?_); rintro e w9 ⟨rfl, hk⟩; have KK2 := Lib.hid (KK1.out.trans hk); have KW2 := SS.out _ KK2.out; clear hk)
            | (go_at_call 15; (with_reducible refine (CP.out _).mono ?_); rintro e w10 ⟨rfl, hk⟩; have KK3 := Lib.hid (KK2.out.trans hk); have KW3 := SS.out _ KK3.out; clear hk))
        all_goals
          go_wp2
          go_ret
          exact ⟨rfl, KU4.out.trans KK3.out⟩
      · clear R9 HR HS hs3
        go_upto_region 17 with fail
        clear hpc
        go_region_held3 (fun w' => w'.cell? ⟨b9, 0, none⟩ = some (.int .i64 p.prog) ∧ w'.cell? ⟨b9, 1, none⟩ = some (.int .i64 p.pc) ∧ w'.cell? ⟨b9, 2, none⟩ = some (.int .i64 2) ∧ w'.cell? ⟨b9, 3, none⟩ = some (.int .i64 0) ∧ w'.cell? ⟨b9, 4, none⟩ = some (.int .i64 0) ∧ w'.cell? ⟨b9, 5, none⟩ = some (.int .i64 (-1)) ∧ w'.cell? ⟨b9, 6, none⟩ = some (.int .i64 p.reg) ∧ w'.cell? ⟨b9, 7, none⟩ = some (.int .i64 p.grp) ∧ w'.cell? ⟨b9, 8, none⟩ = some (.int .i64 4))
          (first | exact KD.out | with_reducible exact KW3 | with_reducible exact KW2 | with_reducible exact KW1)
          (first
            | (go_at_call 18; (with_reducible refine (C5.out _).mono ?_); rintro e w8 ⟨rfl, hk⟩; have KK1 := Lib.hid ((Kept.refl 0 0 U4).drew.trans hk); have KW1 := SS.out _ KK1.out; clear hk)
            | (go_at_call 17; (with_reducible refine (C1.out _).mono ?_); rintro e w9 ⟨rfl, hk⟩; have KK2 := Lib.hid (KK1.out.trans hk); have KW2 := SS.out _ KK2.out; clear hk)
            | (go_at_call 15; (with_reducible refine (CP.out _).mono ?_); rintro e w10 ⟨rfl, hk⟩; have KK3 := Lib.hid (KK2.out.trans hk); have KW3 := SS.out _ KK3.out; clear hk))
        all_goals
          go_wp2
          go_ret
          exact ⟨rfl, KU4.out.trans KK3.out⟩
  · have ep : p = t := HP.out.trans (park_same TB.out hz0 y q m)
    have q9 : (t.st != 0) = true := by simp [hz0]
    clear HP hz0
    subst ep
    go_upto_region 11 with fail
    clear c0 c1 c2 c3 c4 c5 c6 c7 c8 T5 q9
    go_wp2_with fail
    with_reducible refine (D3.out p 3 _).mono ?_
    rintro e w6 ⟨rfl, hk⟩
    obtain ⟨r, hr⟩ : ∃ r, r = readyT p 3 := ⟨_, rfl⟩
    rw [← hr]
    have HR := Lib.hid hr
    have K6 := Lib.hid (K5.out.trans hk)
    have P6 := Lib.hid (P5.out.kept hk (.inl (Nat.le_refl _)))
    clear hr hk K5 P5 d0 d1 d2 d3 d4 d5 d6 d7 d8
    obtain ⟨U3, hU⟩ : ∃ U, U = w6.alloc (.cells #[.int .i64 r.prog, .int .i64 r.pc, .int .i64 r.st, .int .i64 r.why, .int .i64 r.what, .int .i64 r.timer, .int .i64 r.reg, .int .i64 r.grp, .int .i64 r.err] 25) := ⟨_, rfl⟩
    obtain ⟨b8, hb⟩ : ∃ b, b = w6.heap.size := ⟨_, rfl⟩
    have kU : Kept 0 0 w6 U3 := by rw [hU]; exact Kept.alloc0 _ _
    have R6 : Hid (Blk U3 b8 25 #[.int .i64 r.prog, .int .i64 r.pc, .int .i64 r.st, .int .i64 r.why, .int .i64 r.what, .int .i64 r.timer, .int .i64 r.reg, .int .i64 r.grp, .int .i64 r.err]) := by show Blk _ _ _ _; rw [hU, hb]; exact Blk.new _ _ _
    have P7 := Lib.hid (P6.out.kept kU (.inl (Nat.le_refl _)))
    have KU3 := Lib.hid (K6.out.trans kU)
    have HU := Lib.hid hU
    have HB := Lib.hid hb
    clear hU hb kU K6 P6
    go_upto_region 12 with fail
    rw [← HU.out, ← HB.out]
    clear HU HB
    obtain ⟨d0, d1, d2, d3, d4, d5, d6, d7, d8⟩ := P7.out.nine
    go_wp2_with fail
    with_reducible refine (D4.out p 4 _).mono ?_
    rintro e w7 ⟨rfl, hk⟩
    obtain ⟨z, hz⟩ : ∃ z, z = endT p 4 := ⟨_, rfl⟩
    rw [← hz]
    have HZ := Lib.hid hz
    have K7 := Lib.hid (KU3.out.trans hk)
    have P8 := Lib.hid (P7.out.kept hk (.inl (Nat.le_refl _)))
    have R8 := Lib.hid (R6.out.kept hk (.inl (Nat.le_refl _)))
    clear hz hk KU3 P7 R6 d0 d1 d2 d3 d4 d5 d6 d7 d8
    obtain ⟨U4, hU⟩ : ∃ U, U = w7.alloc (.cells #[.int .i64 z.prog, .int .i64 z.pc, .int .i64 z.st, .int .i64 z.why, .int .i64 z.what, .int .i64 z.timer, .int .i64 z.reg, .int .i64 z.grp, .int .i64 z.err] 25) := ⟨_, rfl⟩
    obtain ⟨b9, hb⟩ : ∃ b, b = w7.heap.size := ⟨_, rfl⟩
    have kU : Kept 0 0 w7 U4 := by rw [hU]; exact Kept.alloc0 _ _
    have Z9 : Hid (Blk U4 b9 25 #[.int .i64 z.prog, .int .i64 z.pc, .int .i64 z.st, .int .i64 z.why, .int .i64 z.what, .int .i64 z.timer, .int .i64 z.reg, .int .i64 z.grp, .int .i64 z.err]) := by show Blk _ _ _ _; rw [hU, hb]; exact Blk.new _ _ _
    have P9 := Lib.hid (P8.out.kept kU (.inl (Nat.le_refl _)))
    have R9 := Lib.hid (R8.out.kept kU (.inl (Nat.le_refl _)))
    have KU4 := Lib.hid (K7.out.trans kU)
    have HU := Lib.hid hU
    have HB := Lib.hid hb
    clear hU hb kU K7 P8 R8
    go_upto_region 13 with fail
    rw [← HU.out, ← HB.out]
    clear HU HB
    obtain ⟨d0, d1, d2, d3, d4, d5, d6, d7, d8⟩ := P9.out.nine
    obtain ⟨s, hs⟩ : ∃ s, s = p.st := ⟨_, rfl⟩
    rw [← hs] at d2
    have HS := Lib.hid hs
    clear hs
    by_cases hs2 : s = 2
    · have er : r = p := HR.out.trans (ready_done PB.out (HS.out.symm.trans hs2) 3)
      have ez : z = p := HZ.out.trans (end_done PB.out (HS.out.symm.trans hs2) 4)
      rw [er] at R9
      rw [ez] at Z9
      clear HR HZ er ez
      subst hs2
      go_upto_region 14 with fail
      clear d0 d1 d2 d3 d4 d5 d6 d7 d8
      obtain ⟨d0, d1, d2, d3, d4, d5, d6, d7, d8⟩ := P9.out.nine
      obtain ⟨k0, k1, k2, k3, k4, k5, k6, k7, k8⟩ := R9.out.nine
      obtain ⟨m0, m1, m2, m3, m4, m5, m6, m7, m8⟩ := Z9.out.nine
      go_wp2_with fail
      go_ret
      exact ⟨rfl, KU4.out⟩
    · have hs3 : p.st ≠ 2 := fun e => hs2 (HS.out.trans e)
      have ez := end_go PB.out hs3
      have hpc := tkB_pc PB.out
      have Z10 : Hid (Blk U4 b9 25 #[.int .i64 p.prog, .int .i64 p.pc, .int .i64 2, .int .i64 0, .int .i64 0, .int .i64 (-1), .int .i64 p.reg, .int .i64 p.grp, .int .i64 4]) := by show Blk _ _ _ _; have := Z9.out; rw [HZ.out, ez.1] at this; exact this
      obtain ⟨v, hv⟩ : ∃ v : Tk, v = ⟨p.prog, p.pc, 2, 0, 0, -1, p.reg, p.grp, 4⟩ := ⟨_, rfl⟩
      have VB : tkB v = true := by rw [hv]; exact ez.2
      have C5 : Hid (∀ W, Calls Try.prog 18 #[.agg #[.int .i64 p.prog, .int .i64 p.pc, .int .i64 2, .int .i64 0, .int .i64 0, .int .i64 (-1), .int .i64 p.reg, .int .i64 p.grp, .int .i64 4], .int .i64 5] W fun e w' => e = .returned (.agg #[.int .i64 p.prog, .int .i64 p.pc, .int .i64 2, .int .i64 0, .int .i64 0, .int .i64 (-1), .int .i64 p.reg, .int .i64 p.grp, .int .i64 4]) ∧ Kept 0 0 W w') := fun W => by
        have := D4.out v 5 W; rw [end_done VB (by rw [hv]), hv] at this; exact this
      have C1 : Hid (∀ W, Calls Try.prog 17 #[.agg #[.int .i64 p.prog, .int .i64 p.pc, .int .i64 2, .int .i64 0, .int .i64 0, .int .i64 (-1), .int .i64 p.reg, .int .i64 p.grp, .int .i64 4], .int .i64 1] W fun e w' => e = .returned (.agg #[.int .i64 p.prog, .int .i64 p.pc, .int .i64 2, .int .i64 0, .int .i64 0, .int .i64 (-1), .int .i64 p.reg, .int .i64 p.grp, .int .i64 4]) ∧ Kept 0 0 W w') := fun W => by
        have := D3.out v 1 W; rw [ready_done VB (by rw [hv]), hv] at this; exact this
      have CP : Hid (∀ W, Calls Try.prog 15 #[.agg #[.int .i64 p.prog, .int .i64 p.pc, .int .i64 2, .int .i64 0, .int .i64 0, .int .i64 (-1), .int .i64 p.reg, .int .i64 p.grp, .int .i64 4], .int .i64 y, .int .i64 q, .int .i64 m] W fun e w' => e = .returned (.agg #[.int .i64 p.prog, .int .i64 p.pc, .int .i64 2, .int .i64 0, .int .i64 0, .int .i64 (-1), .int .i64 p.reg, .int .i64 p.grp, .int .i64 4]) ∧ Kept 0 0 W w') := fun W => by
        have := D2.out v y q m W; rw [park_same VB (by rw [hv]; show (2 : Int) ≠ 0; decide), hv] at this; exact this
      clear hv VB ez Z9 HZ
      have SS : Hid (∀ w', Kept 0 0 U4 w' → w'.cell? ⟨b9, 0, none⟩ = some (.int .i64 p.prog) ∧ w'.cell? ⟨b9, 1, none⟩ = some (.int .i64 p.pc) ∧ w'.cell? ⟨b9, 2, none⟩ = some (.int .i64 2) ∧ w'.cell? ⟨b9, 3, none⟩ = some (.int .i64 0) ∧ w'.cell? ⟨b9, 4, none⟩ = some (.int .i64 0) ∧ w'.cell? ⟨b9, 5, none⟩ = some (.int .i64 (-1)) ∧ w'.cell? ⟨b9, 6, none⟩ = some (.int .i64 p.reg) ∧ w'.cell? ⟨b9, 7, none⟩ = some (.int .i64 p.grp) ∧ w'.cell? ⟨b9, 8, none⟩ = some (.int .i64 4)) := by
        intro w' hk
        obtain ⟨x00, x01, x02, x03, x04, x05, x06, x07, x08⟩ := (Z10.out.kept hk (.inl (Nat.le_refl _))).nine
        exact ⟨x00, x01, x02, x03, x04, x05, x06, x07, x08⟩
      have KD := Lib.hid (SS.out _ (Kept.refl 0 0 U4))
      by_cases i1 : p.pc < 12
      · have R10 : Hid (Blk U4 b8 25 #[.int .i64 p.prog, .int .i64 (p.pc + 1), .int .i64 0, .int .i64 0, .int .i64 0, .int .i64 (-1), .int .i64 3, .int .i64 p.grp, .int .i64 p.err]) := by show Blk _ _ _ _; have := R9.out; rw [HR.out, ready_go PB.out hs3 i1] at this; exact this
        clear R9 HR HS hs3
        obtain ⟨k0, k1, k2, k3, k4, k5, k6, k7, k8⟩ := R10.out.nine
        go_upto_region 17 with fail
        clear hpc
        go_region_held3 (fun w' => w'.cell? ⟨b9, 0, none⟩ = some (.int .i64 p.prog) ∧ w'.cell? ⟨b9, 1, none⟩ = some (.int .i64 p.pc) ∧ w'.cell? ⟨b9, 2, none⟩ = some (.int .i64 2) ∧ w'.cell? ⟨b9, 3, none⟩ = some (.int .i64 0) ∧ w'.cell? ⟨b9, 4, none⟩ = some (.int .i64 0) ∧ w'.cell? ⟨b9, 5, none⟩ = some (.int .i64 (-1)) ∧ w'.cell? ⟨b9, 6, none⟩ = some (.int .i64 p.reg) ∧ w'.cell? ⟨b9, 7, none⟩ = some (.int .i64 p.grp) ∧ w'.cell? ⟨b9, 8, none⟩ = some (.int .i64 4))
          (first | exact KD.out | with_reducible exact KW3 | with_reducible exact KW2 | with_reducible exact KW1)
          (first
            | (go_at_call 18; (with_reducible refine (C5.out _).mono ?_); rintro e w8 ⟨rfl, hk⟩; have KK1 := Lib.hid ((Kept.refl 0 0 U4).drew.trans hk); have KW1 := SS.out _ KK1.out; clear hk)
            | (go_at_call 17; (with_reducible refine (C1.out _).mono ?_); rintro e w9 ⟨rfl, hk⟩; have KK2 := Lib.hid (KK1.out.trans hk); have KW2 := SS.out _ KK2.out; clear hk)
            | (go_at_call 15; (with_reducible refine (CP.out _).mono ?_); rintro e w10 ⟨rfl, hk⟩; have KK3 := Lib.hid (KK2.out.trans hk); have KW3 := SS.out _ KK3.out; clear hk))
        all_goals
          go_wp2
          go_ret
          exact ⟨rfl, KU4.out.trans KK3.out⟩
      · clear R9 HR HS hs3
        go_upto_region 17 with fail
        clear hpc
        go_region_held3 (fun w' => w'.cell? ⟨b9, 0, none⟩ = some (.int .i64 p.prog) ∧ w'.cell? ⟨b9, 1, none⟩ = some (.int .i64 p.pc) ∧ w'.cell? ⟨b9, 2, none⟩ = some (.int .i64 2) ∧ w'.cell? ⟨b9, 3, none⟩ = some (.int .i64 0) ∧ w'.cell? ⟨b9, 4, none⟩ = some (.int .i64 0) ∧ w'.cell? ⟨b9, 5, none⟩ = some (.int .i64 (-1)) ∧ w'.cell? ⟨b9, 6, none⟩ = some (.int .i64 p.reg) ∧ w'.cell? ⟨b9, 7, none⟩ = some (.int .i64 p.grp) ∧ w'.cell? ⟨b9, 8, none⟩ = some (.int .i64 4))
          (first | exact KD.out | with_reducible exact KW3 | with_reducible exact KW2 | with_reducible exact KW1)
          (first
            | (go_at_call 18; (with_reducible refine (C5.out _).mono ?_); rintro e w8 ⟨rfl, hk⟩; have KK1 := Lib.hid ((Kept.refl 0 0 U4).drew.trans hk); have KW1 := SS.out _ KK1.out; clear hk)
            | (go_at_call 17; (with_reducible refine (C1.out _).mono ?_); rintro e w9 ⟨rfl, hk⟩; have KK2 := Lib.hid (KK1.out.trans hk); have KW2 := SS.out _ KK2.out; clear hk)
            | (go_at_call 15; (with_reducible refine (CP.out _).mono ?_); rintro e w10 ⟨rfl, hk⟩; have KK3 := Lib.hid (KK2.out.trans hk); have KW3 := SS.out _ KK3.out; clear hk))
        all_goals
          go_wp2
          go_ret
          exact ⟨rfl, KU4.out.trans KK3.out⟩
end Go.Proofs.Ytoccbmmjcbjacaa
