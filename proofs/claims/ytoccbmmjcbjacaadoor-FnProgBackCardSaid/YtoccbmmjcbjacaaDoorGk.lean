/- Two lists of instructions compared, and the draws of texts; condition: the code can be read and has at most 4096 bytes. -/
import Derived.Test.YtoccbmmjcbjacaaDoorGj
namespace Go.Proofs.YtoccbmmjcbjacaaDoor
open Go.RowKit Go.Sort

set_option maxHeartbeats 800000 in
theorem likeIns_same (xs : List Ins) (A A' : Option Addr) (c c' B B' : Nat) (w : World) (hB : B ≤ w.heap.size) (hB' : B' ≤ w.heap.size) (h : RdR nsR w B A xs) (h' : RdR nsR w B' A' xs) :
    Calls Tryd.prog 12 #[.slice A xs.length c, .slice A' xs.length c'] w fun e w' => e = .returned (.bool true) ∧ Kept 0 0 w w' := by
  have hx := h.1
  unfold maxLen at hx
  have H := Lib.hid h
  have H' := Lib.hid h'
  clear h h'
  have hb : (((xs.length : Int)) != ((xs.length : Int))) = false := by simp
  go_enter Tryd.func12, Tryd.ntmps12
  go_wp2
  go_loopw [5] (fun i wr => ∃ k : Nat, k ≤ xs.length ∧ i = .int .i64 k ∧ Hid (Kept 0 0 w wr)) (fun i _ => xs.length - (intOf i).toNat)
  case atStart => exact ⟨0, Nat.zero_le _, rfl, Lib.hid (Kept.refl _ _ _)⟩
  case round =>
    obtain ⟨k, hk, rfl, HK⟩ := hrel
    by_cases hlt : k < xs.length
    · obtain ⟨ad, rfl, _, c0, c1, c2⟩ := (H.out.kept hB HK.out (.inl (Nat.le_refl _))).ns hlt
      obtain ⟨ad', rfl, _, d0, d1, d2⟩ := (H'.out.kept hB' HK.out (.inl (Nat.le_refl _))).ns hlt
      have i1 : (k : Int) < (xs.length : Int) := by omega
      go_wp2_with fail
      go_quiet (fail)
      go_wp2
      go_roundw
      case rel => exact ⟨k + 1, by omega, by go_num, Lib.hid (HK.out.drewN _)⟩
      case measure => simp [intOf]; omega
    · go_wp2
      go_ret
      exact ⟨rfl, HK.out⟩
theorem showP_len (l : List Ins) : (showP l).length ≤ 1000 := by
  unfold showP
  split
  · rename_i h
    have hp := progB_iff.1 h
    have := joinW_small [59, 32] (l.map showI) (by simp) (fun x hx => by
      obtain ⟨i, hi, rfl⟩ := List.mem_map.1 hx
      exact showI_len (hp.1 i hi))
    rw [List.length_map] at this
    have := hp.2
    omega
  · simp
set_option maxHeartbeats 1600000 in
theorem drawRead_any (xs : List Int) (A : Option Addr) (c : Nat) (w : World) (h : Rd (Value.int .u8) w w.heap.size A xs) (hx : ∀ x ∈ xs, 0 ≤ x ∧ x ≤ 255) (hl : xs.length ≤ 4096) :
    Calls Tryd.prog 13 #[.slice A xs.length c] w fun e w' => ∃ l : List UInt8, e = .returned (.string (bs l)) ∧ l.length ≤ 1002 ∧ Kept 0 0 w w' := by
  have CN := Lib.hid (new_any xs A c w h hx hl)
  clear h hx
  go_enter Tryd.func13, Tryd.ntmps13
  go_wp2_with fail
  with_reducible refine CN.out.mono ?_
  rintro e w1 ⟨rfl, hc, hk⟩
  have C1 := Lib.hid hc
  have K1 := Lib.hid hk
  clear hc hk CN
  go_wp2_with fail
  with_reducible refine (drawAny9_any _ _ _ _ _ C1.out).mono ?_
  rintro e w2 ⟨zs, D, d, rfl, zl, o2, hc, hk⟩
  have R2 := Lib.hid (OwnZ.rd (R := nsR) o2).2
  have C2 := Lib.hid hc
  have K2 : Hid (Kept 0 0 w w2) := K1.out.trans2 hk (.inr (Nat.le_refl _))
  have z1 := K1.out.size
  clear o2 hc hk
  go_wp2_with fail
  with_reducible refine (showP_any zs D d _ _ (Nat.le_refl _) R2.out).mono ?_
  rintro e w3 ⟨rfl, hk⟩
  have C3 := Lib.hid (C2.out.kept hk (.inl (Nat.le_refl _)))
  have K3 : Hid (Kept 0 0 w w3) := K2.out.trans hk
  have sl := showP_len zs
  obtain ⟨s, hs⟩ : ∃ s, s = showP zs := ⟨_, rfl⟩
  rw [← hs] at sl
  rw [← hs]
  clear hk hs C2 R2
  go_wp2_with fail
  with_reducible refine (once_any _ _ _ _ _ _ C3.out (by omega) (by omega)).mono ?_
  rintro e w4 ⟨b, rfl, hc, hk⟩
  have C4 := Lib.hid hc
  have K4 : Hid (Kept 0 0 w w4) := K3.out.trans2 hk (.inr (by omega))
  clear hc hk C3
  cases b
  · go_wp2_with fail
    go_ret
    exact ⟨s, rfl, by omega, K4.out⟩
  go_wp2_with fail
  with_reducible refine (bend_any _ _ _ _ s _ _ C4.out sl (by first | exact (rfl : (ByteArray.mk #[48, 49, 57, 32, 59, 45, 101, 110, 100, 105, 116, 103, 111]).size = 13) | decide)).mono ?_
  rintro e w5 ⟨l, rfl, hl5, hc, hk⟩
  have K5 : Hid (Kept 0 0 w w5) := K4.out.trans2 hk (.inr (by omega))
  clear hc hk C4
  go_wp2_with fail
  go_ret
  exact ⟨l, rfl, hl5, K5.out⟩
end Go.Proofs.YtoccbmmjcbjacaaDoor
