/- The law of UsedIn returns true for every Slots that can be read; no condition. -/
import Derived.Test.YtgminepgldfdfaaM
import Derived.Deep.RegionHeld3
namespace Go.Proofs.Ytgminepgldfdfaa
open Go.RowKit

set_option maxHeartbeats 800000 in
theorem lawUsedIn (ages : List Int) (used : List Bool) (A A' : Option Addr) (c c' : Nat) (w : World) (h : RdS w w.heap.size A A' ages used) :
    Calls Try.prog 9 #[.agg #[.slice A ages.length c, .slice A' used.length c']] w fun e w' => e = .returned (.bool true) ∧ Kept 0 0 w w' := by
  have H := Lib.hid h
  have HM := Lib.hid (And.intro h.i.1 h.b.1)
  clear h
  by_cases hs : ages.length + used.length ≤ 1048576
  · go_enter Try.func9, Try.ntmps9
    go_wp2_with fail
    with_reducible refine (szS_ok _ _ _ _ _ _ _ hs).mono ?_
    rintro e w1 ⟨rfl, hk⟩
    have hp : ¬ ((1048576 : Int) - ages.length - used.length < 0) := by omega
    have b1 : Blk w1 w.heap.size 43 #[.slice A ages.length c, .slice A' used.length c'] := (Blk.new _ _ _).kept hk (by omega)
    have K1 := Lib.hid ((Kept.alloc0 _ _).trans hk)
    have B1 := Lib.hid b1
    have c0 := b1.cell 0
    have c1 := b1.cell 1
    clear hk b1
    go_wp2_with fail
    clear c0 c1
    with_reducible refine (toS_any _ _ _ _ _ _ _ (by exact H.out.up K1.out) (by omega) (by omega)).mono ?_
    rintro e w2 ⟨D, D', d, d', rfl, ho, hk⟩
    have K2 := Lib.hid (K1.out.trans hk)
    have B2 := Lib.hid (B1.out.kept hk (by omega))
    have R2 := Lib.hid (ho.rd (by omega) (by omega))
    clear hk ho K1 B1
    go_wp2_with fail
    with_reducible refine (usedSpec_any _ _ _ _ _ _ _ _ (Nat.le_refl _) (by exact R2.out)).mono ?_
    rintro e w3 ⟨rfl, hk⟩
    have K3 := Lib.hid (K2.out.trans hk)
    have B3 := Lib.hid (B2.out.kept hk (by omega))
    clear hk K2 B2 R2
    have c0 := B3.out.cell 0
    have c1 := B3.out.cell 1
    go_wp2_with fail
    clear c0 c1
    with_reducible refine (toS_any _ _ _ _ _ _ _ (by exact H.out.up K3.out) (by omega) (by omega)).mono ?_
    rintro e w4 ⟨X, X', x, x', rfl, ho, hk⟩
    have K4 := Lib.hid (K3.out.trans hk)
    have B4 := Lib.hid (B3.out.kept hk (by omega))
    have R4 := Lib.hid (ho.rd (by omega) (by omega))
    clear hk ho K3 B3
    go_wp2_with fail
    with_reducible refine (usedImpl_any _ _ _ _ _ _ w4.heap.size _ (by simp) (by exact R4.out.kept (Nat.le_refl _) (Kept.alloc0 _ _) (.inl (Nat.le_refl _)))).mono ?_
    rintro e w5 ⟨rfl, hk⟩
    have K5 := Lib.hid (K4.out.trans ((Kept.alloc0 _ _).trans hk))
    have B5 := Lib.hid ((B4.out.alloc _).kept hk (by omega))
    have X5 := Lib.hid ((Blk.new _ _ _).kept hk (by omega))
    have R5 := Lib.hid (R4.out.up ((Kept.alloc0 _ _).trans hk))
    clear hk K4 B4 R4
    generalize usedIn ages used = bb
    have hbb : (bb != bb) = false := by simp
    have c0 : w5.cell? ⟨w.heap.size, 0, none⟩ = some (.slice A ages.length c) := B5.out.cell 0
    have c1 : w5.cell? ⟨w.heap.size, 1, none⟩ = some (.slice A' used.length c') := B5.out.cell 1
    have c2 : w5.cell? ⟨w4.heap.size, 0, none⟩ = some (.slice X ages.length x) := X5.out.cell 0
    have c3 : w5.cell? ⟨w4.heap.size, 1, none⟩ = some (.slice X' used.length x') := X5.out.cell 1
    go_wp2_with fail
    go_region_held3 (fun w' => w'.cell? ⟨w.heap.size, 0, none⟩ = some (.slice A ages.length c) ∧ w'.cell? ⟨w.heap.size, 1, none⟩ = some (.slice A' used.length c') ∧ w'.cell? ⟨w4.heap.size, 0, none⟩ = some (.slice X ages.length x) ∧ w'.cell? ⟨w4.heap.size, 1, none⟩ = some (.slice X' used.length x')) (first | exact ⟨c0, c1, c2, c3⟩ | exact ⟨d0, d1, d2, d3⟩ | exact ⟨f0, f1, f2, f3⟩)
      (first
        | (go_at_call 21; refine (toS_any _ _ _ _ _ _ _ (by exact H.out.up K5.out.drew) (by omega) (by omega)).mono ?_; rintro e w6 ⟨Y, Y', y, y', rfl, ho6, hk6⟩; have k6 : Kept 0 0 w5 w6 := (Kept.refl 0 0 w5).drew.trans hk6; have R6 := Lib.hid (R5.out.up k6); have Y6 := Lib.hid (ho6.rd (by omega) (by omega)); have K6 := Lib.hid (K5.out.trans k6); have B6 := Lib.hid (B5.out.kept k6 (by omega)); have X6 := Lib.hid (X5.out.kept k6 (by omega)); clear hk6 k6 ho6; have d0 := B6.out.cell 0; have d1 := B6.out.cell 1; have d2 := X6.out.cell 0; have d3 := X6.out.cell 1)
        | (go_at_call 22; refine (eqS_any _ _ _ _ _ _ _ _ _ _ _ _ w6.heap.size w6.heap.size _ (Nat.le_refl _) (Nat.le_refl _) (by exact R6.out) (by exact Y6.out)).mono ?_; rintro e w7 ⟨rfl, hk7⟩; have K7 := Lib.hid (K6.out.trans hk7); have f0 := (B6.out.kept hk7 (by omega)).cell 0; have f1 := (B6.out.kept hk7 (by omega)).cell 1; have f2 := (X6.out.kept hk7 (by omega)).cell 0; have f3 := (X6.out.kept hk7 (by omega)).cell 1; clear hk7))
    go_wp2
    go_ret
    exact ⟨rfl, K7.out⟩
  · go_enter Try.func9, Try.ntmps9
    go_wp2_with fail
    with_reducible refine (szS_big _ _ _ _ _ _ _ (by omega) HM.out.1 HM.out.2).mono ?_
    rintro e w1 ⟨rfl, hk⟩
    have K1 := Lib.hid ((Kept.alloc0 _ _).trans hk)
    clear hk
    go_wp2
    go_ret
    exact ⟨rfl, K1.out⟩
end Go.Proofs.Ytgminepgldfdfaa
