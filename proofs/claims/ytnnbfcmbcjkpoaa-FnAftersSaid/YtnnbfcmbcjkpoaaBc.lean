/- Both Holds functions, the program's and the reference's, and the laws' helpers over handles; no condition. -/
import Derived.Test.YtnnbfcmbcjkpoaaBb
import Derived.Deep.RegionHeld3
namespace Go.Proofs.Ytnnbfcmbcjkpoaa
open Go.RowKit Go.Sort



set_option maxHeartbeats 400000 in
theorem toHandle_any (s a : Int) (w : World) :
    Calls Try.prog 30 #[.agg #[.int .i64 s, .int .i64 a]] w fun e w' => e = .returned (.agg #[.int .i64 s, .int .i64 a]) ∧ Kept 0 0 w w' := by
  go_enter Try.func30, Try.ntmps30
  go_wp2
  exact bodyPost_ret (v := .agg #[.int .i64 s, .int .i64 a]) (by simp [results, Try.results30, go_sem]) rfl ⟨rfl, ((Kept.alloc0 _ _).alloc _).alloc _⟩

set_option maxHeartbeats 400000 in
theorem eqHandle_any (s a s' a' : Int) (w : World) :
    Calls Try.prog 28 #[.agg #[.int .i64 s, .int .i64 a], .agg #[.int .i64 s', .int .i64 a']] w fun e w' => e = .returned (.bool (decide (s = s' ∧ a = a'))) ∧ Kept 0 0 w w' := by
  by_cases h1 : s = s'
  · subst h1
    have g1 : (s != s) = false := by simp
    by_cases h2 : a = a'
    · subst h2
      have g2 : (a != a) = false := by simp
      go_enter Try.func28, Try.ntmps28
      go_wp2
      go_ret
      exact ⟨ret_bool (by simp), ((Kept.alloc0 _ _).alloc _)⟩
    · have g2 : (a != a') = true := by simp [h2]
      have H2 := Lib.hid h2
      clear h2
      go_enter Try.func28, Try.ntmps28
      go_wp2
      go_ret
      exact ⟨ret_bool (decide_eq_false (fun h => H2.out h.2)).symm, ((Kept.alloc0 _ _).alloc _)⟩
  · have g1 : (s != s') = true := by simp [h1]
    have H1 := Lib.hid h1
    clear h1
    go_enter Try.func28, Try.ntmps28
    go_wp2
    go_ret
    exact ⟨ret_bool (decide_eq_false (fun h => H1.out h.1)).symm, ((Kept.alloc0 _ _).alloc _)⟩

set_option maxHeartbeats 400000 in
theorem handleAt_any (ages : List Int) (used : List Bool) (s : Nat) (A A' : Option Addr) (c c' B : Nat) (w : World) (hB : B ≤ w.heap.size) (h : RdL w B A A' ages used) (hs : s < ages.length) :
    Calls Try.prog 85 #[.agg #[.slice A ages.length c, .slice A' used.length c'], .int .i64 s] w fun e w' => e = .returned (.agg #[.int .i64 s, .int .i64 ages[s]]) ∧ Kept 0 0 w w' := by
  have hm := h.i.1
  unfold maxLen at hm
  obtain ⟨ad, rfl, _, hc⟩ := (h.kept hB ((Kept.alloc0 w (.cells #[.slice A ages.length c, .slice A' used.length c'] 31)).alloc (.cells #[.int .i64 0, .int .i64 0] 40)) (.inl (Nat.le_refl _))).i.at_ hs
  clear h
  go_enter Try.func85, Try.ntmps85
  go_wp2
  exact bodyPost_ret (v := .agg #[.int .i64 s, .int .i64 ages[s]]) (by simp [results, Try.results85, go_sem]) rfl ⟨rfl, ((Kept.alloc0 _ _).alloc _)⟩

/-- The handle (s, a) is held. -/
def holdsB (ages : List Int) (used : List Bool) (s a : Int) : Bool := slotsOkB ages used && decide (0 ≤ s) && used.getD s.toNat false && (ages.getD s.toNat (-1) == a)
theorem holds_bad {ages : List Int} {used : List Bool} (s a : Int) (h : slotsOkB ages used = false) : holdsB ages used s a = false := by simp [holdsB, h]
theorem holds_out {ages : List Int} {used : List Bool} (s a : Int) (h : s < 0 ∨ (ages.length : Int) ≤ s) : holdsB ages used s a = false := by
  rcases h with h | h
  · have : decide (0 ≤ s) = false := by simp; omega
    simp only [holdsB, this, Bool.and_false, Bool.false_and]
  · cases e : slotsOkB ages used
    · exact holds_bad s a e
    · have hl := slotsOk_len e
      have : used[s.toNat]? = none := List.getElem?_eq_none (by omega)
      simp [holdsB, this]
theorem holds_in {ages : List Int} {used : List Bool} (k : Nat) (a : Int) (h : slotsOkB ages used = true) (hk : k < ages.length) (hu : k < used.length) : holdsB ages used k a = (used[k] && (ages[k] == a)) := by
  simp [holdsB, h, hk, hu]

set_option maxHeartbeats 800000 in
theorem holdsImpl_any (ages : List Int) (used : List Bool) (s a : Int) (A A' : Option Addr) (c c' B : Nat) (w : World) (hB : B ≤ w.heap.size) (h : RdL w B A A' ages used) :
    Calls Try.prog 63 #[.agg #[.slice A ages.length c, .slice A' used.length c'], .agg #[.int .i64 s, .int .i64 a]] w fun e w' => e = .returned (.bool (holdsB ages used s a)) ∧ Kept 0 0 w w' := by
  have H := Lib.hid h
  have hm := h.i.1
  unfold maxLen at hm
  clear h
  go_enter Try.func63, Try.ntmps63
  go_wp2_with fail
  with_reducible refine (okImpl_any _ _ _ _ _ _ B _ (by simp; omega) (by exact H.out.kept hB ((Kept.alloc0 _ _).alloc _) (.inl (Nat.le_refl _)))).mono ?_
  rintro e w1 ⟨rfl, hk⟩
  have R1 := Lib.hid (H.out.kept hB (((Kept.alloc0 _ _).alloc _).trans hk) (.inl (Nat.le_refl _)))
  have b1 : Blk w1 w.heap.size 31 #[.slice A ages.length c, .slice A' used.length c'] := ((Blk.new _ _ _).alloc _).kept hk (by omega)
  have b2 : Blk w1 (w.heap.size + 1) 40 #[.int .i64 s, .int .i64 a] := by have := (Blk.new (w.alloc _) 40 _).kept hk (by omega); simpa using this
  have B1 := Lib.hid b1
  have B2 := Lib.hid b2
  have K1 := Lib.hid (((Kept.alloc0 _ _).alloc _).trans hk)
  clear hk H b1 b2
  have c0 : w1.cell? ⟨w.heap.size, 0, none⟩ = some (.slice A ages.length c) := B1.out.cell 0
  have c1 : w1.cell? ⟨w.heap.size, 1, none⟩ = some (.slice A' used.length c') := B1.out.cell 1
  have c2 : w1.cell? ⟨w.heap.size + 1, 0, none⟩ = some (.int .i64 s) := B2.out.cell 0
  have c3 : w1.cell? ⟨w.heap.size + 1, 1, none⟩ = some (.int .i64 a) := B2.out.cell 1
  cases hb : slotsOkB ages used
  · have E := Lib.hid (holds_bad s a hb)
    clear hb
    go_wp2
    go_ret
    exact ⟨ret_bool E.out.symm, K1.out⟩
  have HL := Lib.hid (slotsOk_len hb)
  by_cases g1 : s < 0
  · have E := Lib.hid (holds_out (ages := ages) (used := used) s a (.inl g1))
    have g1' : decide (s < 0) = true := by simpa using g1
    clear hb
    go_wp2
    go_ret
    exact ⟨ret_bool E.out.symm, K1.out⟩
  have g1' : decide (s < 0) = false := by simpa using g1
  by_cases g2 : (ages.length : Int) ≤ s
  · have E := Lib.hid (holds_out (ages := ages) (used := used) s a (.inr g2))
    have g2' : decide ((ages.length : Int) ≤ s) = true := by simpa using g2
    clear hb
    go_wp2
    go_ret
    exact ⟨ret_bool E.out.symm, K1.out⟩
  have g2' : decide ((ages.length : Int) ≤ s) = false := by simpa using g2
  obtain ⟨k, rfl⟩ := Int.eq_ofNat_of_zero_le (show 0 ≤ s by omega)
  have hk1 : k < ages.length := by omega
  have hk2 : k < used.length := by have := HL.out; omega
  obtain ⟨ad, rfl, _, hc⟩ := R1.out.b.at_ hk2
  have E := Lib.hid (holds_in k a hb hk1 hk2)
  clear hb
  generalize hu : used[k] = u at hc E
  cases u
  · clear hu
    go_wp2
    go_quiet (fail)
    go_wp2
    go_ret
    exact ⟨ret_bool E.out.symm, K1.out.drewN _⟩
  · clear hu
    have hB1 : B ≤ w1.heap.size := by have := K1.out.size; omega
    have hkk : ((k : Int) == (k : Int)) = true := by simp
    cases he : (ages[k] == a)
    · rw [he] at E
      go_wp2
      go_region_held3 (fun w' => w'.cell? ⟨w.heap.size, 0, none⟩ = some (.slice A ages.length c) ∧ w'.cell? ⟨w.heap.size, 1, none⟩ = some (.slice (some ad) used.length c') ∧ w'.cell? ⟨w.heap.size + 1, 0, none⟩ = some (.int .i64 k) ∧ w'.cell? ⟨w.heap.size + 1, 1, none⟩ = some (.int .i64 a) ∧ w'.cell? (ad.add k) = some (.bool true)) (first | exact ⟨c0, c1, c2, c3, hc⟩ | exact ⟨d0, d1, d2, d3, d4⟩)
        (first
          | (go_at_call 85; refine (handleAt_any ages used k _ _ _ _ B _ (by exact hB1) (by exact R1.out.kept hB1 (Kept.drew (Kept.refl 0 0 _)) (.inl (Nat.le_refl _))) hk1).mono ?_; rintro e w2 ⟨rfl, hk⟩; have k2 : Kept 0 0 w1 w2 := (Kept.refl 0 0 w1).drew.trans hk; have d0 := (B1.out.kept k2 (by omega)).cell 0; have d1 := (B1.out.kept k2 (by omega)).cell 1; have d2 := (B2.out.kept k2 (by omega)).cell 0; have d3 := (B2.out.kept k2 (by omega)).cell 1; have d4 := cell_kept k2 hc; have K2 := Lib.hid (K1.out.trans k2); clear hk k2))
      go_wp2
      go_ret
      exact ⟨ret_bool E.out.symm, K2.out⟩
    · rw [he] at E
      go_wp2
      go_region_held3 (fun w' => w'.cell? ⟨w.heap.size, 0, none⟩ = some (.slice A ages.length c) ∧ w'.cell? ⟨w.heap.size, 1, none⟩ = some (.slice (some ad) used.length c') ∧ w'.cell? ⟨w.heap.size + 1, 0, none⟩ = some (.int .i64 k) ∧ w'.cell? ⟨w.heap.size + 1, 1, none⟩ = some (.int .i64 a) ∧ w'.cell? (ad.add k) = some (.bool true)) (first | exact ⟨c0, c1, c2, c3, hc⟩ | exact ⟨d0, d1, d2, d3, d4⟩)
        (first
          | (go_at_call 85; refine (handleAt_any ages used k _ _ _ _ B _ (by exact hB1) (by exact R1.out.kept hB1 (Kept.drew (Kept.refl 0 0 _)) (.inl (Nat.le_refl _))) hk1).mono ?_; rintro e w2 ⟨rfl, hk⟩; have k2 : Kept 0 0 w1 w2 := (Kept.refl 0 0 w1).drew.trans hk; have d0 := (B1.out.kept k2 (by omega)).cell 0; have d1 := (B1.out.kept k2 (by omega)).cell 1; have d2 := (B2.out.kept k2 (by omega)).cell 0; have d3 := (B2.out.kept k2 (by omega)).cell 1; have d4 := cell_kept k2 hc; have K2 := Lib.hid (K1.out.trans k2); clear hk k2))
      go_wp2
      go_ret
      exact ⟨ret_bool E.out.symm, K2.out⟩

open Go.RowKit Go.Sort

theorem RdL.regrown {W : World} {B : Nat} {A A' : Option Addr} {ages : List Int} {used : List Bool} (h : RdL W B A A' ages used) (hB : B ≤ W.heap.size) (d : Nat) (os : Array Obj) : RdL (grow (redrawn W d) os) B A A' ages used :=
  h.kept hB (Kept.regrown W d os) (.inl (Nat.le_refl _))

set_option maxHeartbeats 1600000 in
theorem holdsSpec_any (ages : List Int) (used : List Bool) (s a : Int) (A A' : Option Addr) (c c' B : Nat) (w : World) (hB : B ≤ w.heap.size) (h : RdL w B A A' ages used) :
    Calls Try.prog 48 #[.agg #[.slice A ages.length c, .slice A' used.length c'], .agg #[.int .i64 s, .int .i64 a]] w fun e w' => e = .returned (.bool (holdsB ages used s a)) ∧ Kept 0 0 w w' := by
  have hm := h.i.1
  unfold maxLen at hm
  have H := Lib.hid h
  clear h
  go_enter Try.func48, Try.ntmps48
  go_wp2
  obtain ⟨W, hW⟩ : ∃ W, W = (w.alloc (.cells #[.slice A ages.length c, .slice A' used.length c'] 31)).alloc (.cells #[.int .i64 s, .int .i64 a] 40) := ⟨_, rfl⟩
  have c0 : W.cell? ⟨w.heap.size, 0, none⟩ = some (.slice A ages.length c) := by rw [hW]; exact ((Blk.new w 31 _).alloc _).cell 0
  have c1 : W.cell? ⟨w.heap.size, 1, none⟩ = some (.slice A' used.length c') := by rw [hW]; exact ((Blk.new w 31 _).alloc _).cell 1
  have b2 : Blk W (w.heap.size + 1) 40 #[.int .i64 s, .int .i64 a] := by rw [hW]; have := (Blk.new (w.alloc (.cells #[.slice A ages.length c, .slice A' used.length c'] 31)) 40 #[.int .i64 s, .int .i64 a]); simpa using this
  have c2 : W.cell? ⟨w.heap.size + 1, 0, none⟩ = some (.int .i64 s) := b2.cell 0
  have c3 : W.cell? ⟨w.heap.size + 1, 1, none⟩ = some (.int .i64 a) := b2.cell 1
  have hBW : B ≤ W.heap.size := by rw [hW]; simp; omega
  have R := Lib.hid (H.out.kept hB (by rw [hW]; exact ((Kept.alloc0 w (.cells #[.slice A ages.length c, .slice A' used.length c'] 31)).alloc (.cells #[.int .i64 s, .int .i64 a] 40))) (.inl (Nat.le_refl _)) : RdL W B A A' ages used)
  have K := Lib.hid (show Kept 0 0 w W by rw [hW]; exact (Kept.alloc0 w _).alloc _)
  rw [← hW]
  clear hW b2 H
  have k0 := cell_regrown c0
  have k1 := cell_regrown c1
  have k2 := cell_regrown c2
  have k3 := cell_regrown c3
  clear c0 c1 c2 c3
  have cOk : ∀ d os, Calls Try.prog 46 #[.agg #[.slice A ages.length c, .slice A' used.length c']] (grow (redrawn W d) os) fun e w'' => e = .returned (.bool (slotsOkB ages used)) ∧ ∃ p : Regrown, w'' = grow (redrawn W p.d) p.os :=
    fun d os => regrown_call (okSpec_any _ _ _ _ _ _ B _ (Nat.le_trans hBW (Kept.regrown W d os).size) (R.out.regrown hBW d os))
  cases hb : slotsOkB ages used
  · have E := Lib.hid (holds_bad s a hb)
    rw [hb] at cOk
    clear hb
    have CO := Lib.hid cOk
    clear cOk
    refine wp_region_quiet_below (by kernel_rfl) (by kernel_rfl) ?_
    repeat (first | go_big_quiet_step (exact CO.out _ _) | quiet_step (exact CO.out _ _))
    refine wpQuiet_nil ?_
    intro _ hw'
    obtain ⟨⟨dq, osq⟩, hw''⟩ := hw'
    subst hw''
    go_wp2
    go_ret
    exact ⟨ret_bool E.out.symm, K.out.trans (Kept.regrown W dq osq)⟩
  rw [hb] at cOk
  have CO := Lib.hid cOk
  clear cOk
  have HL := Lib.hid (slotsOk_len hb)
  by_cases g : s < 0 ∨ (ages.length : Int) ≤ s
  · have E := Lib.hid (holds_out (ages := ages) (used := used) s a g)
    have CI : Hid (∀ d os, Calls Try.prog 49 #[.int .i64 s, .int .i64 0, .int .i64 ((ages.length : Int) - 1)] (grow (redrawn W d) os) fun e w'' => e = .returned (.bool false) ∧ ∃ p : Regrown, w'' = grow (redrawn W p.d) p.os) := by
      intro d os
      have := regrown_same (l1In_any s 0 ((ages.length : Int) - 1) (grow (redrawn W d) os))
      rwa [show (decide (0 ≤ s) && decide (s ≤ (ages.length : Int) - 1)) = false from by simp; omega] at this
    clear hb g
    refine wp_region_quiet_below (by kernel_rfl) (by kernel_rfl) ?_
    repeat (first | go_big_quiet_step (first | exact CO.out _ _ | exact CI.out _ _) | quiet_step (first | exact CO.out _ _ | exact CI.out _ _))
    refine wpQuiet_nil ?_
    intro _ hw'
    obtain ⟨⟨dq, osq⟩, hw''⟩ := hw'
    subst hw''
    go_wp2
    go_ret
    exact ⟨ret_bool E.out.symm, K.out.trans (Kept.regrown W dq osq)⟩
  obtain ⟨k, rfl⟩ := Int.eq_ofNat_of_zero_le (show 0 ≤ s by omega)
  have hk1 : k < ages.length := by omega
  have hk2 : k < used.length := by have := HL.out; omega
  have CI : Hid (∀ d os, Calls Try.prog 49 #[.int .i64 k, .int .i64 0, .int .i64 ((ages.length : Int) - 1)] (grow (redrawn W d) os) fun e w'' => e = .returned (.bool true) ∧ ∃ p : Regrown, w'' = grow (redrawn W p.d) p.os) := by
    intro d os
    have := regrown_same (l1In_any k 0 ((ages.length : Int) - 1) (grow (redrawn W d) os))
    rwa [show (decide ((0 : Int) ≤ k) && decide ((k : Int) ≤ (ages.length : Int) - 1)) = true from by simp; omega] at this
  have E := Lib.hid (holds_in k a hb hk1 hk2)
  have l1 : (ages.length : Int) ≤ 64 := by have := HL.out; omega
  have l2 : (used.length : Int) ≤ 64 := by have := HL.out; omega
  have i1 : (k : Int) < (ages.length : Int) := by omega
  have i2 : (k : Int) < (used.length : Int) := by omega
  clear hb g
  obtain ⟨ad, rfl, _, hc⟩ := R.out.b.at_ hk2
  obtain ⟨ad2, rfl, _, hc2⟩ := R.out.i.at_ hk1
  have k4 := cell_regrown hc
  have k5 := cell_regrown hc2
  clear hc hc2
  generalize used[k] = u at k4 E
  cases u
  · refine wp_region_quiet_below (by kernel_rfl) (by kernel_rfl) ?_
    repeat (first | go_big_quiet_step (first | exact CO.out _ _ | exact CI.out _ _) | quiet_step (first | exact CO.out _ _ | exact CI.out _ _))
    refine wpQuiet_nil ?_
    intro _ hw'
    obtain ⟨⟨dq, osq⟩, hw''⟩ := hw'
    subst hw''
    go_wp2
    go_ret
    exact ⟨ret_bool E.out.symm, K.out.trans (Kept.regrown W dq osq)⟩
  · cases he : (ages[k] == a)
    · rw [he] at E
      refine wp_region_quiet_below (by kernel_rfl) (by kernel_rfl) ?_
      repeat (first | go_big_quiet_step (first | exact CO.out _ _ | exact CI.out _ _) | quiet_step (first | exact CO.out _ _ | exact CI.out _ _))
      refine wpQuiet_nil ?_
      intro _ hw'
      obtain ⟨⟨dq, osq⟩, hw''⟩ := hw'
      subst hw''
      go_wp2
      go_ret
      exact ⟨ret_bool E.out.symm, K.out.trans (Kept.regrown W dq osq)⟩
    · rw [he] at E
      refine wp_region_quiet_below (by kernel_rfl) (by kernel_rfl) ?_
      repeat (first | go_big_quiet_step (first | exact CO.out _ _ | exact CI.out _ _) | quiet_step (first | exact CO.out _ _ | exact CI.out _ _))
      refine wpQuiet_nil ?_
      intro _ hw'
      obtain ⟨⟨dq, osq⟩, hw''⟩ := hw'
      subst hw''
      go_wp2
      go_ret
      exact ⟨ret_bool E.out.symm, K.out.trans (Kept.regrown W dq osq)⟩
end Go.Proofs.Ytnnbfcmbcjkpoaa
