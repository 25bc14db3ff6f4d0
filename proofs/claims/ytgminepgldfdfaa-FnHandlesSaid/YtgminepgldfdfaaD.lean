/- Contracts of the helper functions over Slots (size, copy, compare, mark, check marks); no condition beyond what each theorem states. -/
import Derived.Test.YtgminepgldfdfaaC
namespace Go.Proofs.Ytgminepgldfdfaa
open Go.RowKit

set_option maxHeartbeats 400000 in
theorem szS_ok (A A' : Option Addr) (n c n' c' : Nat) (w : World) (h : n + n' ≤ 1048576) :
    Calls Try.prog 19 #[.agg #[.slice A n c, .slice A' n' c'], .int .i64 1048576] w fun e w' => e = .returned (.int .i64 (1048576 - n - n')) ∧ Kept 0 0 w w' := by
  have e1 : szF 1048576 n = 1048576 - n := szF_pos (by omega)
  have e2 : szF (1048576 - n) n' = 1048576 - n - n' := szF_pos (by omega)
  have E1 := Lib.hid e1
  have E2 := Lib.hid e2
  clear e1 e2
  go_enter Try.func19, Try.ntmps19
  go_wp2_with fail
  with_reducible refine (szI_any _ _ _ _ _ (by omega) (by omega) (by unfold maxLen; omega)).mono ?_
  rintro e w' ⟨rfl, rfl⟩
  rw [E1.out]
  go_wp2_with fail
  with_reducible refine (szB_any _ _ _ _ _ (by omega) (by omega) (by unfold maxLen; omega)).mono ?_
  rintro e w' ⟨rfl, rfl⟩
  rw [E2.out]
  go_wp2
  go_ret
  exact ⟨rfl, (Kept.refl _ _ _).alloc _⟩

set_option maxHeartbeats 400000 in
theorem szS_big (A A' : Option Addr) (n c n' c' : Nat) (w : World) (h : 1048576 < n + n') (hn : n ≤ maxLen) (hn' : n' ≤ maxLen) :
    Calls Try.prog 19 #[.agg #[.slice A n c, .slice A' n' c'], .int .i64 1048576] w fun e w' => e = .returned (.int .i64 (-1)) ∧ Kept 0 0 w w' := by
  by_cases h1 : (1048576 : Int) - n < 0
  · have E1 := Lib.hid (szF_neg h1)
    clear h1
    go_enter Try.func19, Try.ntmps19
    go_wp2_with fail
    with_reducible refine (szI_any _ _ _ _ _ (by omega) (by omega) hn).mono ?_
    rintro e w' ⟨rfl, rfl⟩
    rw [E1.out]
    go_wp2
    go_ret
    exact ⟨rfl, (Kept.refl _ _ _).alloc _⟩
  · have E1 := Lib.hid (szF_pos h1)
    have E2 := Lib.hid (szF_neg (left := 1048576 - n) (n := n') (by omega))
    have h1' : (n : Int) ≤ 1048576 := by omega
    clear h1
    go_enter Try.func19, Try.ntmps19
    go_wp2_with fail
    with_reducible refine (szI_any _ _ _ _ _ (by omega) (by omega) hn).mono ?_
    rintro e w' ⟨rfl, rfl⟩
    rw [E1.out]
    go_wp2_with fail
    with_reducible refine (szB_any _ _ _ _ _ (by omega) (by omega) hn').mono ?_
    rintro e w' ⟨rfl, rfl⟩
    rw [E2.out]
    go_wp2
    go_ret
    exact ⟨rfl, (Kept.refl _ _ _).alloc _⟩

/-- Slots that read as (ages, used). -/
structure RdS (w : World) (B : Nat) (A A' : Option Addr) (ages : List Int) (used : List Bool) : Prop where
  i : Rd (Value.int .i64) w B A ages
  b : Rd Value.bool w B A' used
/-- Slots of the call's own. -/
structure OwnS (w : World) (lo hi : Nat) (A : Option Addr) (c : Nat) (A' : Option Addr) (c' : Nat) (ages : List Int) (used : List Bool) : Prop where
  i : Own w lo hi 2 A ages.length c (ages.map (Value.int .i64))
  b : Own w lo hi 4 A' used.length c' (used.map Value.bool)

theorem RdS.kept {w w' : World} {B lo hi : Nat} {A A' : Option Addr} {ages : List Int} {used : List Bool} (h : RdS w B A A' ages used) (hB : B ≤ w.heap.size) (hk : Kept lo hi w w') (hr : hi ≤ lo ∨ B ≤ lo) : RdS w' B A A' ages used :=
  ⟨h.i.kept hB hk hr, h.b.kept hB hk hr⟩
theorem RdS.wide {w : World} {B B' : Nat} {A A' : Option Addr} {ages : List Int} {used : List Bool} (h : RdS w B A A' ages used) (hB : B ≤ B') : RdS w B' A A' ages used := ⟨h.i.wide hB, h.b.wide hB⟩
theorem OwnS.kept {w w' : World} {lo hi lo' hi' c c' : Nat} {A A' : Option Addr} {ages : List Int} {used : List Bool} (h : OwnS w lo hi A c A' c' ages used) (hk : Kept lo' hi' w w') (hr : hi' ≤ lo' ∨ hi ≤ lo' ∨ hi' ≤ lo) : OwnS w' lo hi A c A' c' ages used :=
  ⟨h.i.kept hk hr, h.b.kept hk hr⟩
theorem OwnS.rd {w : World} {lo hi c c' : Nat} {A A' : Option Addr} {ages : List Int} {used : List Bool} (h : OwnS w lo hi A c A' c' ages used) (h1 : ages.length ≤ 1048576) (h2 : used.length ≤ 1048576) : RdS w hi A A' ages used :=
  ⟨h.i.rd (by unfold maxLen; omega), h.b.rd (by unfold maxLen; omega)⟩
theorem RdS.up {w w' : World} {A A' : Option Addr} {ages : List Int} {used : List Bool} (h : RdS w w.heap.size A A' ages used) (hk : Kept 0 0 w w') : RdS w' w'.heap.size A A' ages used :=
  (h.kept (Nat.le_refl _) hk (.inl (Nat.le_refl _))).wide hk.size
theorem Kept.alloc0 (w : World) (o : Obj) : Kept 0 0 w (w.alloc o) := (Kept.refl _ _ _).alloc _

set_option maxHeartbeats 400000 in
theorem eqS_any (ages ages2 : List Int) (used used2 : List Bool) (A A' A2 A2' : Option Addr) (c c' c2 c2' B B2 : Nat) (w : World) (hB : B ≤ w.heap.size) (hB2 : B2 ≤ w.heap.size) (h : RdS w B A A' ages used) (h2 : RdS w B2 A2 A2' ages2 used2) :
    Calls Try.prog 22 #[.agg #[.slice A ages.length c, .slice A' used.length c'], .agg #[.slice A2 ages2.length c2, .slice A2' used2.length c2']] w fun e w' =>
      e = .returned (.bool (decide (ages = ages2 ∧ used = used2))) ∧ Kept 0 0 w w' := by
  have H := Lib.hid h
  have H2 := Lib.hid h2
  clear h h2
  go_enter Try.func22, Try.ntmps22
  go_wp2_with fail
  with_reducible refine (eqI_any _ _ _ _ _ _ B B2 _ (by exact (H.out.kept hB ((Kept.alloc0 _ _).alloc _) (.inl (Nat.le_refl _))).i) (by exact (H2.out.kept hB2 ((Kept.alloc0 _ _).alloc _) (.inl (Nat.le_refl _))).i)).mono ?_
  rintro e w1 ⟨rfl, n, rfl⟩
  by_cases ha : ages = ages2
  · rw [decide_eq_true ha]
    have HA := Lib.hid ha
    clear ha
    go_wp2_with fail
    with_reducible refine (eqB_any _ _ _ _ _ _ B B2 _ (by exact (H.out.kept hB (((Kept.alloc0 _ _).alloc _).drewN _) (.inl (Nat.le_refl _))).b) (by exact (H2.out.kept hB2 (((Kept.alloc0 _ _).alloc _).drewN _) (.inl (Nat.le_refl _))).b)).mono ?_
    rintro e w1 ⟨rfl, m, rfl⟩
    by_cases hu : used = used2
    · rw [decide_eq_true hu]
      have HU := Lib.hid hu
      clear hu
      go_wp2
      go_ret
      exact ⟨ret_bool (decide_eq_true ⟨HA.out, HU.out⟩).symm, (((Kept.alloc0 _ _).alloc _).drewN _)⟩
    · rw [decide_eq_false hu]
      have HU := Lib.hid hu
      clear hu
      go_wp2
      go_ret
      exact ⟨ret_bool (decide_eq_false (fun h => HU.out h.2)).symm, (((Kept.alloc0 _ _).alloc _).drewN _)⟩
  · rw [decide_eq_false ha]
    have HA := Lib.hid ha
    clear ha
    go_wp2
    go_ret
    exact ⟨ret_bool (decide_eq_false (fun h => HA.out h.1)).symm, (((Kept.alloc0 _ _).alloc _).drewN _)⟩

set_option maxHeartbeats 400000 in
theorem toS_any (ages : List Int) (used : List Bool) (A A' : Option Addr) (c c' : Nat) (w : World) (h : RdS w w.heap.size A A' ages used) (h1 : ages.length ≤ 1048576) (h2 : used.length ≤ 1048576) :
    Calls Try.prog 21 #[.agg #[.slice A ages.length c, .slice A' used.length c']] w fun e w' => ∃ B B' : Option Addr, ∃ b b' : Nat,
      e = .returned (.agg #[.slice B ages.length b, .slice B' used.length b']) ∧ OwnS w' w.heap.size w'.heap.size B b B' b' ages used ∧ Kept 0 0 w w' := by
  have H := Lib.hid h
  clear h
  go_enter Try.func21, Try.ntmps21
  go_wp2_with fail
  with_reducible refine (toI_own _ _ _ _ (by exact (H.out.up (((Kept.alloc0 _ _).alloc _).alloc _)).i) h1).mono ?_
  rintro e w1 ⟨B, b, rfl, ho, hk⟩
  have b1 : Blk w1 w.heap.size 43 #[.slice A ages.length c, .slice A' used.length c'] := (((Blk.new _ _ _).alloc _).alloc _).kept hk (by omega)
  have b2 : Blk w1 (w.heap.size + 1) 31 #[.slice none 0 0, .slice none 0 0] := by have := (((Blk.new (w.alloc _) 31 _).alloc _).kept hk (by omega)); simpa using this
  have b3 : Blk w1 (w.heap.size + 1 + 1) 31 #[.slice none 0 0, .slice none 0 0] := by have := ((Blk.new ((w.alloc _).alloc _) 31 _).kept hk (by omega)); simpa using this
  have hk1 : Kept 0 0 w w1 := (((Kept.alloc0 _ _).alloc _).alloc _).trans hk
  have ho1 : Own w1 (w.heap.size + 3) w1.heap.size 2 B ages.length b (ages.map (Value.int .i64)) := ho.wide (by simp) (Nat.le_refl _)
  have hz : w.heap.size + 3 ≤ w1.heap.size := by have := b3.lt; omega
  have HK := Lib.hid hk1
  have HO := Lib.hid ho1
  have B1 := Lib.hid b1
  have B2 := Lib.hid b2
  have B3 := Lib.hid b3
  clear hk ho ho1 hk1 b1 b2 b3
  have c1 := B1.out.cell 1
  have c2 := B3.out.cell 0
  have c3 := B3.out.frozen 0
  go_wp2_with fail
  clear c1 c2 c3
  with_reducible refine (toB_own _ _ _ _ (by exact (H.out.up (HK.out.setCell (p := ⟨w.heap.size + 1 + 1, 0, none⟩) (.inl (by simp; omega)) _)).b) h2).mono ?_
  rintro e w2 ⟨B', b', rfl, ho', hk⟩
  have b2 := (B2.out.far (p := ⟨w.heap.size + 1 + 1, 0, none⟩) (by simp) (.slice B ages.length b)).kept hk (by omega)
  have b3 := (B3.out.set_ 0 (.slice B ages.length b)).kept hk (by omega)
  have ho1 := (HO.out.far (p := ⟨w.heap.size + 1 + 1, 0, none⟩) (by simp) (.slice B ages.length b)).kept hk (by omega)
  have hk1 := (HK.out.setCell (p := ⟨w.heap.size + 1 + 1, 0, none⟩) (.inl (by simp; omega)) (.slice B ages.length b)).trans hk
  have hz2 : w1.heap.size ≤ w2.heap.size := by have := hk.size; simpa using this
  have ho2 : Own w2 (w.heap.size + 3) w2.heap.size 4 B' used.length b' (used.map Value.bool) := ho'.wide (by simpa using hz) (Nat.le_refl _)
  clear HK HO B1 B2 B3 hk ho'
  have HK := Lib.hid hk1
  have HO := Lib.hid (ho1.wide (Nat.le_refl _) hz2)
  have HO2 := Lib.hid ho2
  have B2 := Lib.hid b2
  have B3 := Lib.hid b3
  clear hk1 ho1 ho2 b2 b3
  have c1 := B3.out.cell 0
  have c2 := B3.out.cell 1
  have c3 := B3.out.frozen 1
  have c4 := B2.out.cell 0
  have c5 := B2.out.cell 1
  have c6 := B2.out.frozen 0
  have c7 := B2.out.frozen 1
  simp at c1 c2
  go_wp2
  refine bodyPost_ret (v := .agg #[.slice B ages.length b, .slice B' used.length b']) (by simp [results, Try.results21, go_sem, c4, c5]) rfl ⟨B, B', b, b', rfl, ⟨?_, ?_⟩, ?_⟩
  · exact (((HO.out.far (.inl (by simp)) _).far (.inl (by simp)) _).far (.inl (by simp)) _).wide (by omega) (by simp)
  · exact (((HO2.out.far (.inl (by simp)) _).far (.inl (by simp)) _).far (.inl (by simp)) _).wide (by omega) (by simp)
  · exact ((HK.out.setCell (.inl (by simp; omega)) _).setCell (.inl (by simp)) _).setCell (.inl (by simp)) _

set_option maxHeartbeats 400000 in
theorem heldS_any (k : Int) (n n' : Nat) (A A' : Option Addr) (c c' B : Nat) (w : World) (hB : B ≤ w.heap.size) (h : RdS w B A A' (marksI k n) (marksB (k + n) n')) (hk0 : 0 ≤ k) (hk : k ≤ 1) (hn : n ≤ 1048576) (hn' : n' ≤ 1048576) :
    Calls Try.prog 25 #[.agg #[.slice A n c, .slice A' n' c'], .int .i64 k] w fun e w' => e = .returned (.int .i64 (k + n + n')) ∧ Kept 0 0 w w' := by
  have H := Lib.hid h
  clear h
  go_enter Try.func25, Try.ntmps25
  go_wp2_with fail
  with_reducible refine (heldI_any _ _ _ _ B _ (by exact (H.out.kept hB (Kept.alloc0 _ _) (.inl (Nat.le_refl _))).i) (by omega) (by omega) (by omega)).mono ?_
  rintro e w1 ⟨rfl, rfl⟩
  have hp : 0 ≤ k + (n : Int) := by omega
  go_wp2_with fail
  with_reducible refine (heldB_any _ _ _ _ B _ (by exact (H.out.kept hB (Kept.alloc0 _ _) (.inl (Nat.le_refl _))).b) (by omega) (by omega) (by omega)).mono ?_
  rintro e w1 ⟨rfl, rfl⟩
  have hp' : 0 ≤ k + (n : Int) + n' := by omega
  go_wp2
  go_ret
  exact ⟨ret_int (by omega), Kept.alloc0 _ _⟩

set_option maxHeartbeats 400000 in
theorem markS_any (k : Int) (ages : List Int) (used : List Bool) (A A' : Option Addr) (c c' lo hi : Nat) (w : World) (hi' : hi ≤ w.heap.size) (h : OwnS w lo hi A c A' c' ages used) (hk0 : 0 ≤ k) (hk : k ≤ 1) (hn : ages.length ≤ 1048576) (hn' : used.length ≤ 1048576) :
    Calls Try.prog 24 #[.agg #[.slice A ages.length c, .slice A' used.length c'], .int .i64 k] w fun e w' => e = .returned (.int .i64 (k + ages.length + used.length)) ∧
      Own w' lo hi 2 A ages.length c ((marksI k ages.length).map (Value.int .i64)) ∧ Own w' lo hi 4 A' used.length c' ((marksB (k + ages.length) used.length).map Value.bool) ∧ Kept lo hi w w' := by
  have H := Lib.hid h
  clear h
  go_enter Try.func24, Try.ntmps24
  go_wp2_with fail
  with_reducible refine (markI_own _ _ _ _ _ lo hi _ (by exact H.out.i.alloc _) (by omega) (by omega) (by omega)).mono ?_
  rintro e w1 ⟨rfl, ho, hk1⟩
  have r1 := H.out.i.range
  have b1 : Blk w1 w.heap.size 31 #[.slice A ages.length c, .slice A' used.length c'] := (Blk.new _ _ _).kept hk1 (by omega)
  have o2 := (H.out.i.alloc _).other (H.out.b.alloc _) (by decide) hk1
  have k1 : Kept lo hi w w1 := ((Kept.refl _ _ _).alloc _).trans (hk1.wide (by omega))
  clear hk1 r1
  have O1 := Lib.hid ho
  have O2 := Lib.hid o2
  have K1 := Lib.hid k1
  have c1 := b1.cell 1
  clear ho o2 k1 b1 H
  go_wp2_with fail
  clear c1
  with_reducible refine (markB_own _ _ _ _ _ lo hi _ (by exact O2.out) (by omega) (by omega) (by omega)).mono ?_
  rintro e w2 ⟨rfl, ho, hk1⟩
  have r1 := O2.out.range
  have o1 := O2.out.other O1.out (by decide) hk1
  have k1 : Kept lo hi w w2 := K1.out.trans (hk1.wide (by omega))
  clear O1 O2 K1 hk1 r1
  have O1 := Lib.hid o1
  have O2 := Lib.hid ho
  have K1 := Lib.hid k1
  clear o1 ho k1
  go_wp2
  go_ret
  exact ⟨ret_int (by omega), O1.out, O2.out, K1.out⟩
end Go.Proofs.Ytgminepgldfdfaa
