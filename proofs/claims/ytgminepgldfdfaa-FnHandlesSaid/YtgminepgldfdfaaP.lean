/- Both Holds functions, the program and the reference, return the same plain function of the lists and the handle; no condition. -/
import Derived.Test.YtgminepgldfdfaaE
import Derived.Deep.RegionHeld3
namespace Go.Proofs.Ytgminepgldfdfaa
open Go.RowKit

set_option maxHeartbeats 400000 in
theorem toHandle_any (s a : Int) (w : World) :
    Calls Try.prog 29 #[.agg #[.int .i64 s, .int .i64 a]] w fun e w' => e = .returned (.agg #[.int .i64 s, .int .i64 a]) ∧ Kept 0 0 w w' := by
  go_enter Try.func29, Try.ntmps29
  go_wp2
  exact bodyPost_ret (v := .agg #[.int .i64 s, .int .i64 a]) (by simp [results, Try.results29, go_sem]) rfl ⟨rfl, ((Kept.alloc0 _ _).alloc _).alloc _⟩

set_option maxHeartbeats 400000 in
theorem eqHandle_any (s a s' a' : Int) (w : World) :
    Calls Try.prog 27 #[.agg #[.int .i64 s, .int .i64 a], .agg #[.int .i64 s', .int .i64 a']] w fun e w' => e = .returned (.bool (decide (s = s' ∧ a = a'))) ∧ Kept 0 0 w w' := by
  by_cases h1 : s = s'
  · subst h1
    have g1 : (s != s) = false := by simp
    by_cases h2 : a = a'
    · subst h2
      have g2 : (a != a) = false := by simp
      go_enter Try.func27, Try.ntmps27
      go_wp2
      go_ret
      exact ⟨ret_bool (by simp), ((Kept.alloc0 _ _).alloc _)⟩
    · have g2 : (a != a') = true := by simp [h2]
      have H2 := Lib.hid h2
      clear h2
      go_enter Try.func27, Try.ntmps27
      go_wp2
      go_ret
      exact ⟨ret_bool (decide_eq_false (fun h => H2.out h.2)).symm, ((Kept.alloc0 _ _).alloc _)⟩
  · have g1 : (s != s') = true := by simp [h1]
    have H1 := Lib.hid h1
    clear h1
    go_enter Try.func27, Try.ntmps27
    go_wp2
    go_ret
    exact ⟨ret_bool (decide_eq_false (fun h => H1.out h.1)).symm, ((Kept.alloc0 _ _).alloc _)⟩

set_option maxHeartbeats 400000 in
theorem handleAt_any (ages : List Int) (used : List Bool) (s : Nat) (A A' : Option Addr) (c c' B : Nat) (w : World) (hB : B ≤ w.heap.size) (h : RdS w B A A' ages used) (hs : s < ages.length) :
    Calls Try.prog 35 #[.agg #[.slice A ages.length c, .slice A' used.length c'], .int .i64 s] w fun e w' => e = .returned (.agg #[.int .i64 s, .int .i64 ages[s]]) ∧ Kept 0 0 w w' := by
  have hm := h.i.1
  unfold maxLen at hm
  obtain ⟨ad, rfl, _, hc⟩ := (h.kept hB ((Kept.alloc0 w (.cells #[.slice A ages.length c, .slice A' used.length c'] 31)).alloc (.cells #[.int .i64 0, .int .i64 0] 36)) (.inl (Nat.le_refl _))).i.at_ hs
  clear h
  go_enter Try.func35, Try.ntmps35
  go_wp2
  exact bodyPost_ret (v := .agg #[.int .i64 s, .int .i64 ages[s]]) (by simp [results, Try.results35, go_sem]) rfl ⟨rfl, ((Kept.alloc0 _ _).alloc _)⟩

/-- The handle (s, a) is held. -/
def holdsB (ages : List Int) (used : List Bool) (s a : Int) : Bool := slotsOkB ages used && decide (0 ≤ s) && used.getD s.toNat false && (ages.getD s.toNat (-1) == a)
theorem holds_bad {ages : List Int} {used : List Bool} (s a : Int) (h : slotsOkB ages used = false) : holdsB ages used s a = false := by simp [holdsB, h]
theorem holds_out {ages : List Int} {used : List Bool} (s a : Int) (h : s < 0 ∨ (ages.length : Int) ≤ s) : holdsB ages used s a = false := by
  rcases h with h | h
  · have : decide (0 ≤ s) = false := by simp; omega
    simp only [holdsB, this, Bool.and_false, Bool.false_and]
  · cases e : slotsOkB ages used
    · exact holds_bad s a e
    · have hl := slotsOk_len e
      have : used[s.toNat]? = none := List.getElem?_eq_none (by omega)
      simp [holdsB, this]
theorem holds_in {ages : List Int} {used : List Bool} (k : Nat) (a : Int) (h : slotsOkB ages used = true) (hk : k < ages.length) (hu : k < used.length) : holdsB ages used k a = (used[k] && (ages[k] == a)) := by
  simp [holdsB, h, hk, hu]

theorem cell_kept {w w' : World} {p : Addr} {u : Value} (hk : Kept 0 0 w w') (h : w.cell? p = some u) : w'.cell? p = some u :=
  ((hk.below (Nat.le_refl _) (.inl (Nat.le_refl _))).cell (World.block_lt_of_cell? w _ h)).trans h

set_option maxHeartbeats 800000 in
theorem holdsImpl_any (ages : List Int) (used : List Bool) (s a : Int) (A A' : Option Addr) (c c' B : Nat) (w : World) (hB : B ≤ w.heap.size) (h : RdS w B A A' ages used) :
    Calls Try.prog 17 #[.agg #[.slice A ages.length c, .slice A' used.length c'], .agg #[.int .i64 s, .int .i64 a]] w fun e w' => e = .returned (.bool (holdsB ages used s a)) ∧ Kept 0 0 w w' := by
  have H := Lib.hid h
  have hm := h.i.1
  unfold maxLen at hm
  clear h
  go_enter Try.func17, Try.ntmps17
  go_wp2_with fail
  with_reducible refine (okImpl_any _ _ _ _ _ _ B _ (by simp; omega) (by exact H.out.kept hB ((Kept.alloc0 _ _).alloc _) (.inl (Nat.le_refl _)))).mono ?_
  rintro e w1 ⟨rfl, hk⟩
  have R1 := Lib.hid (H.out.kept hB (((Kept.alloc0 _ _).alloc _).trans hk) (.inl (Nat.le_refl _)))
  have b1 : Blk w1 w.heap.size 31 #[.slice A ages.length c, .slice A' used.length c'] := ((Blk.new _ _ _).alloc _).kept hk (by omega)
  have b2 : Blk w1 (w.heap.size + 1) 36 #[.int .i64 s, .int .i64 a] := by have := (Blk.new (w.alloc _) 36 _).kept hk (by omega); simpa using this
  have B1 := Lib.hid b1
  have B2 := Lib.hid b2
  have K1 := Lib.hid (((Kept.alloc0 _ _).alloc _).trans hk)
  clear hk H b1 b2
  have c0 : w1.cell? ⟨w.heap.size, 0, none⟩ = some (.slice A ages.length c) := B1.out.cell 0
  have c1 : w1.cell? ⟨w.heap.size, 1, none⟩ = some (.slice A' used.length c') := B1.out.cell 1
  have c2 : w1.cell? ⟨w.heap.size + 1, 0, none⟩ = some (.int .i64 s) := B2.out.cell 0
  have c3 : w1.cell? ⟨w.heap.size + 1, 1, none⟩ = some (.int .i64 a) := B2.out.cell 1
  cases hb : slotsOkB ages used
  · have E := Lib.hid (holds_bad s a hb)
    clear hb
    go_wp2
    go_ret
    exact ⟨ret_bool E.out.symm, K1.out⟩
  have HL := Lib.hid (slotsOk_len hb)
  by_cases g1 : s < 0
  · have E := Lib.hid (holds_out (ages := ages) (used := used) s a (.inl g1))
    have g1' : decide (s < 0) = true := by simpa using g1
    clear hb
    go_wp2
    go_ret
    exact ⟨ret_bool E.out.symm, K1.out⟩
  have g1' : decide (s < 0) = false := by simpa using g1
  by_cases g2 : (ages.length : Int) ≤ s
  · have E := Lib.hid (holds_out (ages := ages) (used := used) s a (.inr g2))
    have g2' : decide ((ages.length : Int) ≤ s) = true := by simpa using g2
    clear hb
    go_wp2
    go_ret
    exact ⟨ret_bool E.out.symm, K1.out⟩
  have g2' : decide ((ages.length : Int) ≤ s) = false := by simpa using g2
  obtain ⟨k, rfl⟩ := Int.eq_ofNat_of_zero_le (show 0 ≤ s by omega)
  have hk1 : k < ages.length := by omega
  have hk2 : k < used.length := by have := HL.out; omega
  obtain ⟨ad, rfl, _, hc⟩ := R1.out.b.at_ hk2
  have E := Lib.hid (holds_in k a hb hk1 hk2)
  clear hb
  generalize hu : used[k] = u at hc E
  cases u
  · clear hu
    go_wp2
    go_quiet (fail)
    go_wp2
    go_ret
    exact ⟨ret_bool E.out.symm, K1.out.drewN _⟩
  · clear hu
    have hB1 : B ≤ w1.heap.size := by have := K1.out.size; omega
    have hkk : ((k : Int) == (k : Int)) = true := by simp
    cases he : (ages[k] == a)
    · rw [he] at E
      go_wp2
      go_region_held3 (fun w' => w'.cell? ⟨w.heap.size, 0, none⟩ = some (.slice A ages.length c) ∧ w'.cell? ⟨w.heap.size, 1, none⟩ = some (.slice (some ad) used.length c') ∧ w'.cell? ⟨w.heap.size + 1, 0, none⟩ = some (.int .i64 k) ∧ w'.cell? ⟨w.heap.size + 1, 1, none⟩ = some (.int .i64 a) ∧ w'.cell? (ad.add k) = some (.bool true)) (first | exact ⟨c0, c1, c2, c3, hc⟩ | exact ⟨d0, d1, d2, d3, d4⟩)
        (first
          | (go_at_call 35; refine (handleAt_any ages used k _ _ _ _ B _ (by exact hB1) (by exact R1.out.kept hB1 (Kept.drew (Kept.refl 0 0 _)) (.inl (Nat.le_refl _))) hk1).mono ?_; rintro e w2 ⟨rfl, hk⟩; have k2 : Kept 0 0 w1 w2 := (Kept.refl 0 0 w1).drew.trans hk; have d0 := (B1.out.kept k2 (by omega)).cell 0; have d1 := (B1.out.kept k2 (by omega)).cell 1; have d2 := (B2.out.kept k2 (by omega)).cell 0; have d3 := (B2.out.kept k2 (by omega)).cell 1; have d4 := cell_kept k2 hc; have K2 := Lib.hid (K1.out.trans k2); clear hk k2))
      go_wp2
      go_ret
      exact ⟨ret_bool E.out.symm, K2.out⟩
    · rw [he] at E
      go_wp2
      go_region_held3 (fun w' => w'.cell? ⟨w.heap.size, 0, none⟩ = some (.slice A ages.length c) ∧ w'.cell? ⟨w.heap.size, 1, none⟩ = some (.slice (some ad) used.length c') ∧ w'.cell? ⟨w.heap.size + 1, 0, none⟩ = some (.int .i64 k) ∧ w'.cell? ⟨w.heap.size + 1, 1, none⟩ = some (.int .i64 a) ∧ w'.cell? (ad.add k) = some (.bool true)) (first | exact ⟨c0, c1, c2, c3, hc⟩ | exact ⟨d0, d1, d2, d3, d4⟩)
        (first
          | (go_at_call 35; refine (handleAt_any ages used k _ _ _ _ B _ (by exact hB1) (by exact R1.out.kept hB1 (Kept.drew (Kept.refl 0 0 _)) (.inl (Nat.le_refl _))) hk1).mono ?_; rintro e w2 ⟨rfl, hk⟩; have k2 : Kept 0 0 w1 w2 := (Kept.refl 0 0 w1).drew.trans hk; have d0 := (B1.out.kept k2 (by omega)).cell 0; have d1 := (B1.out.kept k2 (by omega)).cell 1; have d2 := (B2.out.kept k2 (by omega)).cell 0; have d3 := (B2.out.kept k2 (by omega)).cell 1; have d4 := cell_kept k2 hc; have K2 := Lib.hid (K1.out.trans k2); clear hk k2))
      go_wp2
      go_ret
      exact ⟨ret_bool E.out.symm, K2.out⟩
end Go.Proofs.Ytgminepgldfdfaa
