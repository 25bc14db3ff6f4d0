/- Both UsedIn functions, the program and the reference, count the used slots, or return -1 where the slots are not valid; no condition. -/
import Derived.Test.YtgminepgldfdfaaE
namespace Go.Proofs.Ytgminepgldfdfaa
open Go.RowKit

/-- How many of the first k are used. -/
def cntT (used : List Bool) (k : Nat) : Int := ((used.take k).filter id).length
theorem cntT_zero (used : List Bool) : cntT used 0 = 0 := by simp [cntT]
theorem cntT_bd (used : List Bool) (k : Nat) : 0 ≤ cntT used k ∧ cntT used k ≤ k := by
  unfold cntT
  have h1 := List.length_filter_le id (used.take k)
  have h2 : (used.take k).length ≤ k := List.length_take_le _ _
  omega
theorem cntT_succ (used : List Bool) (k : Nat) (h : k < used.length) : cntT used (k + 1) = cntT used k + if used[k] then 1 else 0 := by
  unfold cntT
  rw [List.take_succ_eq_append_getElem h, List.filter_append]
  cases used[k] <;> simp
theorem cntT_all (used : List Bool) (k : Nat) (h : used.length ≤ k) : cntT used k = cntT used used.length := by
  unfold cntT; rw [List.take_of_length_le h, List.take_length]
def usedIn (ages : List Int) (used : List Bool) : Int := if slotsOkB ages used then cntT used used.length else -1
theorem usedIn_ok {ages : List Int} {used : List Bool} (h : slotsOkB ages used = true) : usedIn ages used = cntT used used.length := by simp [usedIn, h]
theorem usedIn_bad {ages : List Int} {used : List Bool} (h : slotsOkB ages used = false) : usedIn ages used = -1 := by simp [usedIn, h]

set_option maxHeartbeats 800000 in
theorem usedImpl_any (ages : List Int) (used : List Bool) (A A' : Option Addr) (c c' B : Nat) (w : World) (hB : B ≤ w.heap.size) (h : RdS w B A A' ages used) :
    Calls Try.prog 16 #[.agg #[.slice A ages.length c, .slice A' used.length c']] w fun e w' => e = .returned (.int .i64 (usedIn ages used)) ∧ Kept 0 0 w w' := by
  have hm' := h.b.1
  unfold maxLen at hm'
  have H := Lib.hid h
  clear h
  go_enter Try.func16, Try.ntmps16
  go_wp2_with fail
  with_reducible refine (okImpl_any _ _ _ _ _ _ B _ (by simp; omega) (by exact H.out.kept hB (Kept.alloc0 _ _) (.inl (Nat.le_refl _)))).mono ?_
  rintro e w1 ⟨rfl, hk⟩
  have R1 := Lib.hid (H.out.kept hB ((Kept.alloc0 _ _).trans hk) (.inl (Nat.le_refl _)))
  have B1 := Lib.hid ((Blk.new _ _ _).kept hk (by omega))
  have K1 := Lib.hid ((Kept.alloc0 _ _).trans hk)
  clear hk H
  cases hb : slotsOkB ages used
  · have E := Lib.hid (usedIn_bad hb)
    clear hb
    go_wp2
    go_ret
    exact ⟨ret_int E.out.symm, K1.out⟩
  · have E := Lib.hid (usedIn_ok hb)
    clear hb
    have c1 := B1.out.cell 1
    go_wp2
    go_loop [3, 12] (fun q i => ∃ k : Nat, k ≤ used.length ∧ i = .int .i64 k ∧ q = .int .i64 (cntT used k)) (fun _ i => used.length - (intOf i).toNat)
    case atStart => exact ⟨0, Nat.zero_le _, rfl, by rw [cntT_zero]⟩
    case round =>
      clear c1
      obtain ⟨k, hk, rfl, rfl⟩ := hrel
      have hd := cntT_bd used k
      by_cases hlt : k < used.length
      · obtain ⟨ad, rfl, _, hc⟩ := R1.out.b.at_ hlt
        have S := Lib.hid (cntT_succ used k hlt)
        generalize used[k] = u at hc S
        cases u
        · go_wp2
          go_round
          case rel => exact ⟨k + 1, by omega, by go_num, by rw [S.out]; simp⟩
          case measure => simp [intOf]; omega
        · go_wp2
          go_round
          case rel => exact ⟨k + 1, by omega, by go_num, by rw [S.out]; simp⟩
          case measure => simp [intOf]; omega
      · go_wp2
        go_ret
        exact ⟨ret_int (by rw [E.out, cntT_all used k (by omega)]), K1.out⟩

set_option maxHeartbeats 800000 in
theorem usedSpec_any (ages : List Int) (used : List Bool) (A A' : Option Addr) (c c' B : Nat) (w : World) (hB : B ≤ w.heap.size) (h : RdS w B A A' ages used) :
    Calls Try.prog 31 #[.agg #[.slice A ages.length c, .slice A' used.length c']] w fun e w' => e = .returned (.int .i64 (usedIn ages used)) ∧ Kept 0 0 w w' := by
  have hm' := h.b.1
  unfold maxLen at hm'
  have H := Lib.hid h
  clear h
  go_enter Try.func31, Try.ntmps31
  go_wp2_with fail
  with_reducible refine (okSpec_any _ _ _ _ _ _ B _ (by simp; omega) (by exact H.out.kept hB (Kept.alloc0 _ _) (.inl (Nat.le_refl _)))).mono ?_
  rintro e w1 ⟨rfl, hk⟩
  have R1 := Lib.hid (H.out.kept hB ((Kept.alloc0 _ _).trans hk) (.inl (Nat.le_refl _)))
  have B1 := Lib.hid ((Blk.new _ _ _).kept hk (by omega))
  have K1 := Lib.hid ((Kept.alloc0 _ _).trans hk)
  clear hk H
  cases hb : slotsOkB ages used
  · have E := Lib.hid (usedIn_bad hb)
    clear hb
    go_wp2
    go_ret
    exact ⟨ret_int E.out.symm, K1.out⟩
  · have E := Lib.hid (usedIn_ok hb)
    clear hb
    have c1 : w1.cell? ⟨w.heap.size, 1, none⟩ = some (.slice A' used.length c') := B1.out.cell 1
    go_wp2
    go_loop [3, 4] (fun q i => ∃ k : Nat, k ≤ used.length ∧ i = .int .i64 k ∧ q = .int .i64 (cntT used k)) (fun _ i => used.length - (intOf i).toNat)
    case atStart => exact ⟨0, Nat.zero_le _, rfl, by rw [cntT_zero]⟩
    case round =>
      obtain ⟨k, hk, rfl, rfl⟩ := hrel
      have hd := cntT_bd used k
      by_cases hlt : k < used.length
      · obtain ⟨ad, rfl, _, hc⟩ := R1.out.b.at_ hlt
        have S := Lib.hid (cntT_succ used k hlt)
        generalize used[k] = u at hc S
        cases u
        · go_wp2
          go_round
          case rel => exact ⟨k + 1, by omega, by go_num, by rw [S.out]; simp⟩
          case measure => simp [intOf]; omega
        · go_wp2
          go_round
          case rel => exact ⟨k + 1, by omega, by go_num, by rw [S.out]; simp⟩
          case measure => simp [intOf]; omega
      · go_wp2
        go_ret
        exact ⟨ret_int (by rw [E.out, cntT_all used k (by omega)]), K1.out⟩
end Go.Proofs.Ytgminepgldfdfaa
