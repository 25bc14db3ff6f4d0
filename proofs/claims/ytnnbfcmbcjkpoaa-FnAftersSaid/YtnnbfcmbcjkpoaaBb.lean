/- Both SlotsOk functions and both UsedIn functions, the program's and the reference's; no condition beyond that the slices can be read. -/
import Derived.Test.YtnnbfcmbcjkpoaaBa
import Derived.Test.YtnnbfcmbcjkpoaaNb
namespace Go.Proofs.Ytnnbfcmbcjkpoaa
open Go.RowKit Go.Sort



def ageOk (a : Int) : Bool := decide (0 ≤ a) && decide (a ≤ 1000000)
def slotsOkB (ages : List Int) (used : List Bool) : Bool := decide (1 ≤ ages.length) && decide (ages.length ≤ 64) && decide (used.length = ages.length) && ages.all ageOk
theorem slotsOk_len {ages : List Int} {used : List Bool} (h : slotsOkB ages used = true) : 1 ≤ ages.length ∧ ages.length ≤ 64 ∧ used.length = ages.length := by
  simp [slotsOkB] at h; omega
theorem slotsOk_age {ages : List Int} {used : List Bool} (h : slotsOkB ages used = true) (k : Nat) (hk : k < ages.length) : 0 ≤ ages[k] ∧ ages[k] ≤ 1000000 := by
  simp [slotsOkB] at h
  have := h.2 ages[k] (List.getElem_mem hk)
  simpa [ageOk] using this
theorem slotsOk_bad {ages : List Int} {used : List Bool} (h : ¬ (1 ≤ ages.length ∧ ages.length ≤ 64 ∧ used.length = ages.length)) : slotsOkB ages used = false := by
  cases e : slotsOkB ages used
  · rfl
  · exact absurd (slotsOk_len e) h
theorem slotsOk_badAge {ages : List Int} {used : List Bool} {k : Nat} (hk : k < ages.length) (h : ¬ (0 ≤ ages[k] ∧ ages[k] ≤ 1000000)) : slotsOkB ages used = false := by
  cases e : slotsOkB ages used
  · rfl
  · exact absurd (slotsOk_age e k hk) h
theorem slotsOk_good {ages : List Int} {used : List Bool} (h : 1 ≤ ages.length ∧ ages.length ≤ 64 ∧ used.length = ages.length) (k : Nat) (hk : ages.length ≤ k) (ha : (ages.take k).all ageOk = true) : slotsOkB ages used = true := by
  rw [List.take_of_length_le hk] at ha
  simp only [slotsOkB, ha, Bool.and_true]
  simp; omega
theorem all_succ {ages : List Int} {k : Nat} (hk : k < ages.length) (ha : (ages.take k).all ageOk = true) (h : 0 ≤ ages[k] ∧ ages[k] ≤ 1000000) : (ages.take (k + 1)).all ageOk = true := by
  rw [List.take_succ_eq_append_getElem hk, List.all_append, ha]
  simp [ageOk, h]

set_option maxHeartbeats 800000 in
theorem okImpl_any (ages : List Int) (used : List Bool) (A A' : Option Addr) (c c' B : Nat) (w : World) (hB : B ≤ w.heap.size) (h : RdL w B A A' ages used) :
    Calls Try.prog 43 #[.agg #[.slice A ages.length c, .slice A' used.length c']] w fun e w' => e = .returned (.bool (slotsOkB ages used)) ∧ Kept 0 0 w w' := by
  have hm := h.i.1
  have hm' := h.b.1
  unfold maxLen at hm hm'
  have H := Lib.hid h
  clear h
  by_cases g1 : (ages.length : Int) < 1
  · have e : Hid (slotsOkB ages used = false) := slotsOk_bad (by omega)
    have g1' : decide ((ages.length : Int) < 1) = true := by simpa using g1
    go_enter Try.func43, Try.ntmps43
    go_wp2
    go_ret
    exact ⟨ret_bool e.out.symm, Kept.alloc0 _ _⟩
  have g1' : decide ((ages.length : Int) < 1) = false := by simpa using g1
  by_cases g2 : (64 : Int) < (ages.length : Int)
  · have e : Hid (slotsOkB ages used = false) := slotsOk_bad (by omega)
    have g2' : decide ((64 : Int) < (ages.length : Int)) = true := by simpa using g2
    go_enter Try.func43, Try.ntmps43
    go_wp2
    go_ret
    exact ⟨ret_bool e.out.symm, Kept.alloc0 _ _⟩
  have g2' : decide ((64 : Int) < (ages.length : Int)) = false := by simpa using g2
  by_cases g3 : used.length = ages.length
  · have g3' : (((used.length : Int)) != ((ages.length : Int))) = false := by simp [g3]
    have G3 := Lib.hid g3
    clear g3
    go_enter Try.func43, Try.ntmps43
    go_wp2
    go_loop [27] (fun i => ∃ k : Nat, k ≤ ages.length ∧ i = .int .i64 k ∧ Hid ((ages.take k).all ageOk = true)) (fun i => ages.length - (intOf i).toNat)
    case atStart => exact ⟨0, Nat.zero_le _, rfl, Lib.hid rfl⟩
    case round =>
      obtain ⟨k, hk, rfl, HA⟩ := hrel
      by_cases hlt : k < ages.length
      · obtain ⟨ad, rfl, _, hc⟩ := (H.out.kept hB (Kept.alloc0 w (.cells #[.slice A ages.length c, .slice A' used.length c'] 31)) (.inl (Nat.le_refl _))).i.at_ hlt
        by_cases a1 : ages[k] < 0
        · have e : Hid (slotsOkB ages used = false) := slotsOk_badAge hlt (by omega)
          have a1' : decide (ages[k] < 0) = true := by simpa using a1
          go_wp2
          go_ret
          exact ⟨ret_bool e.out.symm, Kept.alloc0 _ _⟩
        have a1' : decide (ages[k] < 0) = false := by simpa using a1
        by_cases a2 : 1000000 < ages[k]
        · have e : Hid (slotsOkB ages used = false) := slotsOk_badAge hlt (by omega)
          have a2' : decide (1000000 < ages[k]) = true := by simpa using a2
          go_wp2
          go_ret
          exact ⟨ret_bool e.out.symm, Kept.alloc0 _ _⟩
        have a2' : decide (1000000 < ages[k]) = false := by simpa using a2
        have HA' : Hid ((ages.take (k + 1)).all ageOk = true) := all_succ hlt HA.out (by omega)
        go_wp2
        go_round
        case rel => exact ⟨k + 1, by omega, by go_num, HA'⟩
        case measure => simp [intOf]; omega
      · go_wp2
        go_ret
        exact ⟨ret_bool (slotsOk_good ⟨by omega, by omega, G3.out⟩ k (by omega) HA.out).symm, Kept.alloc0 _ _⟩
  · have e : Hid (slotsOkB ages used = false) := slotsOk_bad (by omega)
    have g3' : (((used.length : Int)) != ((ages.length : Int))) = true := by simp; omega
    clear g3
    go_enter Try.func43, Try.ntmps43
    go_wp2
    go_ret
    exact ⟨ret_bool e.out.symm, Kept.alloc0 _ _⟩

set_option maxHeartbeats 800000 in
theorem okSpec_any (ages : List Int) (used : List Bool) (A A' : Option Addr) (c c' B : Nat) (w : World) (hB : B ≤ w.heap.size) (h : RdL w B A A' ages used) :
    Calls Try.prog 46 #[.agg #[.slice A ages.length c, .slice A' used.length c']] w fun e w' => e = .returned (.bool (slotsOkB ages used)) ∧ Kept 0 0 w w' := by
  have hm := h.i.1
  have hm' := h.b.1
  unfold maxLen at hm hm'
  have H := Lib.hid h
  clear h
  by_cases g1 : 1 ≤ ages.length ∧ ages.length ≤ 64
  · have g1' : (decide ((1 : Int) ≤ (ages.length : Int)) && decide ((ages.length : Int) ≤ 64)) = true := by simp; omega
    have G1 := Lib.hid g1
    have G1' := Lib.hid g1'
    clear g1 g1'
    by_cases g3 : used.length = ages.length
    · have g3' : (((used.length : Int)) != ((ages.length : Int))) = false := by simp [g3]
      have G3 := Lib.hid g3
      clear g3
      go_enter Try.func46, Try.ntmps46
      go_wp2_with fail
      with_reducible refine (l1In_any _ _ _ _).mono ?_
      rintro e w' ⟨rfl, rfl⟩
      rw [G1'.out]
      go_wp2
      go_loop [3] (fun i => ∃ k : Nat, k ≤ ages.length ∧ i = .int .i64 k ∧ Hid ((ages.take k).all ageOk = true)) (fun i => ages.length - (intOf i).toNat)
      case atStart => exact ⟨0, Nat.zero_le _, rfl, Lib.hid rfl⟩
      case round =>
        obtain ⟨k, hk, rfl, HA⟩ := hrel
        by_cases hlt : k < ages.length
        · obtain ⟨ad, rfl, _, hc⟩ := (H.out.kept hB (Kept.alloc0 w (.cells #[.slice A ages.length c, .slice A' used.length c'] 31)) (.inl (Nat.le_refl _))).i.at_ hlt
          go_wp2_with fail
          with_reducible refine (l1In_any _ _ _ _).mono ?_
          rintro e w' ⟨rfl, rfl⟩
          by_cases a1 : 0 ≤ ages[k] ∧ ages[k] ≤ 1000000
          · rw [show (decide (0 ≤ ages[k]) && decide (ages[k] ≤ 1000000)) = true from by simp; exact a1]
            have HA' : Hid ((ages.take (k + 1)).all ageOk = true) := all_succ hlt HA.out a1
            clear a1
            go_wp2
            go_round
            case rel => exact ⟨k + 1, by omega, by go_num, HA'⟩
            case measure => simp [intOf]; omega
          · rw [show (decide (0 ≤ ages[k]) && decide (ages[k] ≤ 1000000)) = false from by simp; omega]
            have e : Hid (slotsOkB ages used = false) := slotsOk_badAge hlt a1
            clear a1
            go_wp2
            go_ret
            exact ⟨ret_bool e.out.symm, Kept.alloc0 _ _⟩
        · go_wp2
          go_ret
          exact ⟨ret_bool (slotsOk_good ⟨G1.out.1, G1.out.2, G3.out⟩ k (by omega) HA.out).symm, Kept.alloc0 _ _⟩
    · have e : Hid (slotsOkB ages used = false) := slotsOk_bad (by omega)
      have g3' : (((used.length : Int)) != ((ages.length : Int))) = true := by simp; omega
      clear g3
      go_enter Try.func46, Try.ntmps46
      go_wp2_with fail
      with_reducible refine (l1In_any _ _ _ _).mono ?_
      rintro e w' ⟨rfl, rfl⟩
      rw [G1'.out]
      go_wp2
      go_ret
      exact ⟨ret_bool e.out.symm, Kept.alloc0 _ _⟩
  · have e : Hid (slotsOkB ages used = false) := slotsOk_bad (by omega)
    have G1' : Hid ((decide ((1 : Int) ≤ (ages.length : Int)) && decide ((ages.length : Int) ≤ 64)) = false) := by show _ = _; simp; omega
    clear g1
    go_enter Try.func46, Try.ntmps46
    go_wp2_with fail
    with_reducible refine (l1In_any _ _ _ _).mono ?_
    rintro e w' ⟨rfl, rfl⟩
    rw [G1'.out]
    go_wp2
    go_ret
    exact ⟨ret_bool e.out.symm, Kept.alloc0 _ _⟩


/-- How many of the first k are used. -/
def cntT (used : List Bool) (k : Nat) : Int := ((used.take k).filter id).length
theorem cntT_zero (used : List Bool) : cntT used 0 = 0 := by simp [cntT]
theorem cntT_bd (used : List Bool) (k : Nat) : 0 ≤ cntT used k ∧ cntT used k ≤ k := by
  unfold cntT
  have h1 := List.length_filter_le id (used.take k)
  have h2 : (used.take k).length ≤ k := List.length_take_le _ _
  omega
theorem cntT_succ (used : List Bool) (k : Nat) (h : k < used.length) : cntT used (k + 1) = cntT used k + if used[k] then 1 else 0 := by
  unfold cntT
  rw [List.take_succ_eq_append_getElem h, List.filter_append]
  cases used[k] <;> simp
theorem cntT_all (used : List Bool) (k : Nat) (h : used.length ≤ k) : cntT used k = cntT used used.length := by
  unfold cntT; rw [List.take_of_length_le h, List.take_length]
def usedIn (ages : List Int) (used : List Bool) : Int := if slotsOkB ages used then cntT used used.length else -1
theorem usedIn_ok {ages : List Int} {used : List Bool} (h : slotsOkB ages used = true) : usedIn ages used = cntT used used.length := by simp [usedIn, h]
theorem usedIn_bad {ages : List Int} {used : List Bool} (h : slotsOkB ages used = false) : usedIn ages used = -1 := by simp [usedIn, h]

set_option maxHeartbeats 800000 in
theorem usedImpl_any (ages : List Int) (used : List Bool) (A A' : Option Addr) (c c' B : Nat) (w : World) (hB : B ≤ w.heap.size) (h : RdL w B A A' ages used) :
    Calls Try.prog 18 #[.agg #[.slice A ages.length c, .slice A' used.length c']] w fun e w' => e = .returned (.int .i64 (usedIn ages used)) ∧ Kept 0 0 w w' := by
  have hm' := h.b.1
  unfold maxLen at hm'
  have H := Lib.hid h
  clear h
  go_enter Try.func18, Try.ntmps18
  go_wp2_with fail
  with_reducible refine (okImpl_any _ _ _ _ _ _ B _ (by simp; omega) (by exact H.out.kept hB (Kept.alloc0 _ _) (.inl (Nat.le_refl _)))).mono ?_
  rintro e w1 ⟨rfl, hk⟩
  have R1 := Lib.hid (H.out.kept hB ((Kept.alloc0 _ _).trans hk) (.inl (Nat.le_refl _)))
  have B1 := Lib.hid ((Blk.new _ _ _).kept hk (by omega))
  have K1 := Lib.hid ((Kept.alloc0 _ _).trans hk)
  clear hk H
  cases hb : slotsOkB ages used
  · have E := Lib.hid (usedIn_bad hb)
    clear hb
    go_wp2
    go_ret
    exact ⟨ret_int E.out.symm, K1.out⟩
  · have E := Lib.hid (usedIn_ok hb)
    clear hb
    have c1 := B1.out.cell 1
    go_wp2
    go_loop [3, 12] (fun q i => ∃ k : Nat, k ≤ used.length ∧ i = .int .i64 k ∧ q = .int .i64 (cntT used k)) (fun _ i => used.length - (intOf i).toNat)
    case atStart => exact ⟨0, Nat.zero_le _, rfl, by rw [cntT_zero]⟩
    case round =>
      clear c1
      obtain ⟨k, hk, rfl, rfl⟩ := hrel
      have hd := cntT_bd used k
      by_cases hlt : k < used.length
      · obtain ⟨ad, rfl, _, hc⟩ := R1.out.b.at_ hlt
        have S := Lib.hid (cntT_succ used k hlt)
        generalize used[k] = u at hc S
        cases u
        · go_wp2
          go_round
          case rel => exact ⟨k + 1, by omega, by go_num, by rw [S.out]; simp⟩
          case measure => simp [intOf]; omega
        · go_wp2
          go_round
          case rel => exact ⟨k + 1, by omega, by go_num, by rw [S.out]; simp⟩
          case measure => simp [intOf]; omega
      · go_wp2
        go_ret
        exact ⟨ret_int (by rw [E.out, cntT_all used k (by omega)]), K1.out⟩

set_option maxHeartbeats 800000 in
theorem usedSpec_any (ages : List Int) (used : List Bool) (A A' : Option Addr) (c c' B : Nat) (w : World) (hB : B ≤ w.heap.size) (h : RdL w B A A' ages used) :
    Calls Try.prog 47 #[.agg #[.slice A ages.length c, .slice A' used.length c']] w fun e w' => e = .returned (.int .i64 (usedIn ages used)) ∧ Kept 0 0 w w' := by
  have hm' := h.b.1
  unfold maxLen at hm'
  have H := Lib.hid h
  clear h
  go_enter Try.func47, Try.ntmps47
  go_wp2_with fail
  with_reducible refine (okSpec_any _ _ _ _ _ _ B _ (by simp; omega) (by exact H.out.kept hB (Kept.alloc0 _ _) (.inl (Nat.le_refl _)))).mono ?_
  rintro e w1 ⟨rfl, hk⟩
  have R1 := Lib.hid (H.out.kept hB ((Kept.alloc0 _ _).trans hk) (.inl (Nat.le_refl _)))
  have B1 := Lib.hid ((Blk.new _ _ _).kept hk (by omega))
  have K1 := Lib.hid ((Kept.alloc0 _ _).trans hk)
  clear hk H
  cases hb : slotsOkB ages used
  · have E := Lib.hid (usedIn_bad hb)
    clear hb
    go_wp2
    go_ret
    exact ⟨ret_int E.out.symm, K1.out⟩
  · have E := Lib.hid (usedIn_ok hb)
    clear hb
    have c1 : w1.cell? ⟨w.heap.size, 1, none⟩ = some (.slice A' used.length c') := B1.out.cell 1
    go_wp2
    go_loop [3, 4] (fun q i => ∃ k : Nat, k ≤ used.length ∧ i = .int .i64 k ∧ q = .int .i64 (cntT used k)) (fun _ i => used.length - (intOf i).toNat)
    case atStart => exact ⟨0, Nat.zero_le _, rfl, by rw [cntT_zero]⟩
    case round =>
      obtain ⟨k, hk, rfl, rfl⟩ := hrel
      have hd := cntT_bd used k
      by_cases hlt : k < used.length
      · obtain ⟨ad, rfl, _, hc⟩ := R1.out.b.at_ hlt
        have S := Lib.hid (cntT_succ used k hlt)
        generalize used[k] = u at hc S
        cases u
        · go_wp2
          go_round
          case rel => exact ⟨k + 1, by omega, by go_num, by rw [S.out]; simp⟩
          case measure => simp [intOf]; omega
        · go_wp2
          go_round
          case rel => exact ⟨k + 1, by omega, by go_num, by rw [S.out]; simp⟩
          case measure => simp [intOf]; omega
      · go_wp2
        go_ret
        exact ⟨ret_int (by rw [E.out, cntT_all used k (by omega)]), K1.out⟩
end Go.Proofs.Ytnnbfcmbcjkpoaa
