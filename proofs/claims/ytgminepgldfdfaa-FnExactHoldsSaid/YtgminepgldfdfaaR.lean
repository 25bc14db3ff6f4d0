/- The law of Holds returns true for every Slots and Handle that can be read; no condition. -/
import Derived.Test.YtgminepgldfdfaaQ
namespace Go.Proofs.Ytgminepgldfdfaa
open Go.RowKit

set_option maxHeartbeats 1600000 in
theorem lawHolds (ages : List Int) (used : List Bool) (s a : Int) (A A' : Option Addr) (c c' : Nat) (w : World) (h : RdS w w.heap.size A A' ages used) :
    Calls Try.prog 7 #[.agg #[.slice A ages.length c, .slice A' used.length c'], .agg #[.int .i64 s, .int .i64 a]] w fun e w' => e = .returned (.bool true) ∧ Kept 0 0 w w' := by
  have H := Lib.hid h
  have HM := Lib.hid (And.intro h.i.1 h.b.1)
  clear h
  by_cases hs : ages.length + used.length ≤ 1048576
  · go_enter Try.func7, Try.ntmps7
    go_wp2_with fail
    with_reducible refine (szS_ok _ _ _ _ _ _ _ hs).mono ?_
    rintro e w1 ⟨rfl, hk⟩
    have hp : ¬ ((1048576 : Int) - ages.length - used.length < 0) := by omega
    have b1 : Blk w1 w.heap.size 43 #[.slice A ages.length c, .slice A' used.length c'] := ((Blk.new _ _ _).alloc _).kept hk (by omega)
    have b2 : Blk w1 (w.heap.size + 1) 51 #[.int .i64 s, .int .i64 a] := by have := (Blk.new (w.alloc _) 51 _).kept hk (by omega); simpa using this
    have K1 := Lib.hid (((Kept.alloc0 _ _).alloc _).trans hk)
    have B1 := Lib.hid b1
    have D1 := Lib.hid b2
    have c0 := b1.cell 0
    have c1 := b1.cell 1
    have c2 := b2.cell 0
    have c3 := b2.cell 1
    clear hk b1 b2
    go_wp2_with fail
    go_region_held3 (fun w' => w'.cell? ⟨w.heap.size, 0, none⟩ = some (.slice A ages.length c) ∧ w'.cell? ⟨w.heap.size, 1, none⟩ = some (.slice A' used.length c') ∧ w'.cell? ⟨w.heap.size + 1, 0, none⟩ = some (.int .i64 s) ∧ w'.cell? ⟨w.heap.size + 1, 1, none⟩ = some (.int .i64 a)) (first | exact ⟨c0, c1, c2, c3⟩ | exact ⟨d0, d1, d2, d3⟩ | exact ⟨f0, f1, f2, f3⟩ | exact ⟨g0, g1, g2, g3⟩)
      (first
        | (go_at_call 21; refine (toS_any _ _ _ _ _ _ _ (by exact H.out.up K1.out.drew) (by omega) (by omega)).mono ?_; rintro e w2 ⟨D, D', d, d', rfl, ho, hk⟩; have k2 : Kept 0 0 w1 w2 := (Kept.refl 0 0 w1).drew.trans hk; have K2 := Lib.hid (K1.out.trans k2); have B2 := Lib.hid (B1.out.kept k2 (by omega)); have D2 := Lib.hid (D1.out.kept k2 (by omega)); have R2 := Lib.hid (ho.rd (by omega) (by omega)); clear hk ho k2; have d0 := B2.out.cell 0; have d1 := B2.out.cell 1; have d2 := D2.out.cell 0; have d3 := D2.out.cell 1)
        | (go_at_call 29; refine (toHandle_any _ _ _).mono ?_; rintro e w3 ⟨rfl, hk⟩; have K3 := Lib.hid (K2.out.trans hk); have B3 := Lib.hid (B2.out.kept hk (by omega)); have D3 := Lib.hid (D2.out.kept hk (by omega)); have R3 := Lib.hid (R2.out.up hk); clear hk; have f0 := B3.out.cell 0; have f1 := B3.out.cell 1; have f2 := D3.out.cell 0; have f3 := D3.out.cell 1)
        | (go_at_call 28; refine (holdsSpec_any _ _ _ _ _ _ _ _ w3.heap.size _ (Nat.le_refl _) (by exact R3.out)).mono ?_; rintro e w4 ⟨rfl, hk⟩; have K4 := Lib.hid (K3.out.trans hk); have B4 := Lib.hid (B3.out.kept hk (by omega)); have D4 := Lib.hid (D3.out.kept hk (by omega)); clear hk; have g0 := B4.out.cell 0; have g1 := B4.out.cell 1; have g2 := D4.out.cell 0; have g3 := D4.out.cell 1))
    clear c0 c1 c2 c3 d0 d1 d2 d3 f0 f1 f2 f3
    go_wp2_with fail
    clear g0 g1 g2 g3
    with_reducible refine (toS_any _ _ _ _ _ _ _ (by exact H.out.up K4.out) (by omega) (by omega)).mono ?_
    rintro e w5 ⟨X, X', x, x', rfl, ho, hk⟩
    have K5 := Lib.hid (K4.out.trans hk)
    have B5 := Lib.hid (B4.out.kept hk (by omega))
    have D5 := Lib.hid (D4.out.kept hk (by omega))
    have R5 := Lib.hid (ho.rd (by omega) (by omega))
    clear hk ho K1 B1 D1 K2 B2 D2 R2 K3 B3 D3 R3 K4 B4 D4
    go_wp2_with fail
    obtain ⟨V, hV⟩ : ∃ V, V = w5.alloc (.cells #[.slice X ages.length x, .slice X' used.length x'] 31) := ⟨_, rfl⟩
    have X6 : Hid (Blk V w5.heap.size 31 #[.slice X ages.length x, .slice X' used.length x']) := by show Blk _ _ _ _; rw [hV]; exact Blk.new _ _ _
    have kV : Kept 0 0 w5 V := by rw [hV]; exact Kept.alloc0 _ _
    rw [← hV]
    clear hV
    have K6 := Lib.hid (K5.out.trans kV)
    have B6 := Lib.hid (B5.out.kept kV (by omega))
    have D6 := Lib.hid (D5.out.kept kV (by omega))
    have R6 := Lib.hid (R5.out.up kV)
    clear kV K5 B5 D5 R5
    have c0 := X6.out.cell 0
    have c1 := X6.out.cell 1
    have c2 := D6.out.cell 0
    have c3 := D6.out.cell 1
    go_region_held3 (fun w' => w'.cell? ⟨w5.heap.size, 0, none⟩ = some (.slice X ages.length x) ∧ w'.cell? ⟨w5.heap.size, 1, none⟩ = some (.slice X' used.length x') ∧ w'.cell? ⟨w.heap.size + 1, 0, none⟩ = some (.int .i64 s) ∧ w'.cell? ⟨w.heap.size + 1, 1, none⟩ = some (.int .i64 a)) (first | exact ⟨c0, c1, c2, c3⟩ | exact ⟨d0, d1, d2, d3⟩ | exact ⟨f0, f1, f2, f3⟩)
      (first
        | (go_at_call 29; refine (toHandle_any _ _ _).mono ?_; rintro e w7 ⟨rfl, hk⟩; have k2 : Kept 0 0 V w7 := (Kept.refl 0 0 V).drew.trans hk; have K7 := Lib.hid (K6.out.trans k2); have B7 := Lib.hid (B6.out.kept k2 (by omega)); have D7 := Lib.hid (D6.out.kept k2 (by omega)); have X7 := Lib.hid (X6.out.kept k2 (by omega)); have R7 := Lib.hid (R6.out.up k2); clear hk k2; have d0 := X7.out.cell 0; have d1 := X7.out.cell 1; have d2 := D7.out.cell 0; have d3 := D7.out.cell 1)
        | (go_at_call 17; refine (holdsImpl_any _ _ _ _ _ _ _ _ w7.heap.size _ (Nat.le_refl _) (by exact R7.out)).mono ?_; rintro e w8 ⟨rfl, hk⟩; have K8 := Lib.hid (K7.out.trans hk); have B8 := Lib.hid (B7.out.kept hk (by omega)); have D8 := Lib.hid (D7.out.kept hk (by omega)); have X8 := Lib.hid (X7.out.kept hk (by omega)); have R8 := Lib.hid (R7.out.up hk); clear hk; have f0 := X8.out.cell 0; have f1 := X8.out.cell 1; have f2 := D8.out.cell 0; have f3 := D8.out.cell 1))
    clear c0 c1 c2 c3 d0 d1 d2 d3 f0 f1 f2 f3 K6 B6 D6 X6 R6 K7 B7 D7 X7 R7
    generalize holdsB ages used s a = bb
    have hbb : (bb == bb) = true := by simp
    have c0 := B8.out.cell 0
    have c1 := B8.out.cell 1
    have c2 := X8.out.cell 0
    have c3 := X8.out.cell 1
    go_wp2_with fail
    go_region_held3 (fun w' => w'.cell? ⟨w.heap.size, 0, none⟩ = some (.slice A ages.length c) ∧ w'.cell? ⟨w.heap.size, 1, none⟩ = some (.slice A' used.length c') ∧ w'.cell? ⟨w5.heap.size, 0, none⟩ = some (.slice X ages.length x) ∧ w'.cell? ⟨w5.heap.size, 1, none⟩ = some (.slice X' used.length x')) (first | exact ⟨c0, c1, c2, c3⟩ | exact ⟨d0, d1, d2, d3⟩ | exact ⟨f0, f1, f2, f3⟩)
      (first
        | (go_at_call 21; refine (toS_any _ _ _ _ _ _ _ (by exact H.out.up K8.out.drew) (by omega) (by omega)).mono ?_; rintro e w9 ⟨Y, Y', y, y', rfl, ho6, hk6⟩; have k6 : Kept 0 0 w8 w9 := (Kept.refl 0 0 w8).drew.trans hk6; have R9 := Lib.hid (R8.out.up k6); have Y9 := Lib.hid (ho6.rd (by omega) (by omega)); have K9 := Lib.hid (K8.out.trans k6); have B9 := Lib.hid (B8.out.kept k6 (by omega)); have X9 := Lib.hid (X8.out.kept k6 (by omega)); clear hk6 k6 ho6; have d0 := B9.out.cell 0; have d1 := B9.out.cell 1; have d2 := X9.out.cell 0; have d3 := X9.out.cell 1)
        | (go_at_call 22; refine (eqS_any _ _ _ _ _ _ _ _ _ _ _ _ w9.heap.size w9.heap.size _ (Nat.le_refl _) (Nat.le_refl _) (by exact R9.out) (by exact Y9.out)).mono ?_; rintro e wz ⟨rfl, hk7⟩; have KZ := Lib.hid (K9.out.trans hk7); have f0 := (B9.out.kept hk7 (by omega)).cell 0; have f1 := (B9.out.kept hk7 (by omega)).cell 1; have f2 := (X9.out.kept hk7 (by omega)).cell 0; have f3 := (X9.out.kept hk7 (by omega)).cell 1; clear hk7))
    go_wp2
    go_ret
    exact ⟨rfl, KZ.out⟩
  · go_enter Try.func7, Try.ntmps7
    go_wp2_with fail
    with_reducible refine (szS_big _ _ _ _ _ _ _ (by omega) HM.out.1 HM.out.2).mono ?_
    rintro e w1 ⟨rfl, hk⟩
    have K1 := Lib.hid (((Kept.alloc0 _ _).alloc _).trans hk)
    clear hk
    go_wp2
    go_ret
    exact ⟨rfl, K1.out⟩
end Go.Proofs.Ytgminepgldfdfaa
