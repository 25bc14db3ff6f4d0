/- Both NewSlots functions; no condition. -/
import Derived.Test.YtnnbfcmbcjkpoaaBb
namespace Go.Proofs.Ytnnbfcmbcjkpoaa
open Go.RowKit Go.Sort



theorem run_make_rowN {P : Program} (t e : TypeId) (i : TypeInfo) (z : Value) (ht : P.underlying t = some (.slice e)) (hi : P.info? e = some i) (hz : i.zero = some z)
    (kl kc : IntKind) (n c : Nat) (hnc : n ≤ c) (hbytes : i.bytes * c ≤ 281474976710656) (h63 : c ≤ 9223372036854775807) (w : World) :
    (Instr.makeSlice t (.int kl (n : Int)) (.int kc (c : Int))).run P w = .ok (.slice (some ⟨w.heap.size, 0, none⟩) n c) (w.alloc (.cells (madeCells z.cells (c * i.size)) e)) := by
  have hb : (i.bytes : Int) * (c : Int) ≤ 281474976710656 := by
    have h : ((i.bytes * c : Nat) : Int) ≤ 281474976710656 := by omega
    rwa [Int.natCast_mul] at h
  have hr := run_make (P := P) w t e i z ht hi hz kl kc n c (by omega) (by omega) hb (by omega)
  simp only [Int.toNat_natCast] at hr
  exact hr
def zerosI (n : Nat) : Array Value := madeCells #[.int .i64 0] n
def zerosB (n : Nat) : Array Value := madeCells #[.bool false] n
theorem makeI (n : Nat) (hn : n ≤ 1048576) (w : World) : (Instr.makeSlice 28 (.int .i64 (n : Int)) (.int .i64 (n : Int))).run Try.prog w = .ok (.slice (some ⟨w.heap.size, 0, none⟩) n n) (w.alloc (.cells (zerosI n) 2)) := by
  obtain ⟨i0, hi, hz0, hz1, hz2⟩ := info_parts Try.info2
  have := run_make_rowN (P := Try.prog) 28 2 i0 (.int .i64 0) Try.underlying28 hi hz0 .i64 .i64 n n (Nat.le_refl _) (by rw [hz2]; omega) (by omega) w
  rw [hz1, Nat.mul_one] at this
  exact this
theorem makeB (n : Nat) (hn : n ≤ 1048576) (w : World) : (Instr.makeSlice 29 (.int .i64 (n : Int)) (.int .i64 (n : Int))).run Try.prog w = .ok (.slice (some ⟨w.heap.size, 0, none⟩) n n) (w.alloc (.cells (zerosB n) 4)) := by
  obtain ⟨i0, hi, hz0, hz1, hz2⟩ := info_parts Try.info4
  have := run_make_rowN (P := Try.prog) 29 4 i0 (.bool false) Try.underlying29 hi hz0 .i64 .i64 n n (Nat.le_refl _) (by rw [hz2]; omega) (by omega) w
  rw [hz1, Nat.mul_one] at this
  exact this
/-- A block of n cells is a row of the call's own. -/
theorem own_of_blk {w : World} {g e n : Nat} {cs : Array Value} {lo hi : Nat} (h : w.heap[g]? = some (.cells cs e (0, 0))) (hn : cs.size = n) (hm : n ≤ 1048576) (hl : lo ≤ g) (hh : g < hi) : Own w lo hi e (some ⟨g, 0, none⟩) n n cs.toList :=
  ⟨⟨by simp [hn], .inr ⟨g, n, cs, rfl, hl, h, Nat.le_refl _, by unfold maxLen; omega, by omega, List.take_of_length_le (by simp [hn])⟩⟩, fun ad e => by injection e with e; subst e; exact hh⟩
theorem zerosI_list (n : Nat) : (zerosI n).toList = (List.replicate n (0 : Int)).map (Value.int .i64) := by simp [zerosI, toList_madeCells_one]
theorem zerosB_list (n : Nat) : (zerosB n).toList = (List.replicate n false).map Value.bool := by simp [zerosB, toList_madeCells_one]
theorem zerosI_size (n : Nat) : (zerosI n).size = n := by rw [← Array.length_toList, zerosI_list]; simp
theorem zerosB_size (n : Nat) : (zerosB n).size = n := by rw [← Array.length_toList, zerosB_list]; simp

theorem new_own (w : World) (o : Obj) (ages : List Int) (used : List Bool) (n : Nat) (hn : n ≤ 1048576) (e1 : ages.length = n) (e2 : used.length = n) (hi : ages.map (Value.int .i64) = (zerosI n).toList) (hb : used.map Value.bool = (zerosB n).toList) :
    OwnL (((w.alloc o).alloc (.cells (zerosI n) 2)).alloc (.cells (zerosB n) 4)).drew w.heap.size (((w.alloc o).alloc (.cells (zerosI n) 2)).alloc (.cells (zerosB n) 4)).drew.heap.size (some ⟨w.heap.size + 1, 0, none⟩) n (some ⟨w.heap.size + 1 + 1, 0, none⟩) n ages used := by
  have b1 : Blk ((w.alloc o).alloc (.cells (zerosI n) 2)) (w.heap.size + 1) 2 (zerosI n) := by have := Blk.new (w.alloc o) 2 (zerosI n); simpa using this
  have b2 : Blk (((w.alloc o).alloc (.cells (zerosI n) 2)).alloc (.cells (zerosB n) 4)) (w.heap.size + 1 + 1) 4 (zerosB n) := by have := Blk.new ((w.alloc o).alloc (.cells (zerosI n) 2)) 4 (zerosB n); simpa using this
  refine ⟨?_, ?_⟩
  · rw [hi, e1]; exact own_of_blk (b1.alloc _) (zerosI_size n) hn (by omega) (by simp)
  · rw [hb, e2]; exact own_of_blk b2 (zerosB_size n) hn (by omega) (by simp)
theorem new_own' (w : World) (o : Obj) (ages : List Int) (used : List Bool) (n : Nat) (hn : n ≤ 1048576) (e1 : ages.length = n) (e2 : used.length = n) (hi : ages.map (Value.int .i64) = (zerosI n).toList) (hb : used.map Value.bool = (zerosB n).toList) :
    OwnL (((w.alloc o).alloc (.cells (zerosB n) 4)).alloc (.cells (zerosI n) 2)).drew w.heap.size (((w.alloc o).alloc (.cells (zerosB n) 4)).alloc (.cells (zerosI n) 2)).drew.heap.size (some ⟨w.heap.size + 1 + 1, 0, none⟩) n (some ⟨w.heap.size + 1, 0, none⟩) n ages used := by
  have b1 : Blk ((w.alloc o).alloc (.cells (zerosB n) 4)) (w.heap.size + 1) 4 (zerosB n) := by have := Blk.new (w.alloc o) 4 (zerosB n); simpa using this
  have b2 : Blk (((w.alloc o).alloc (.cells (zerosB n) 4)).alloc (.cells (zerosI n) 2)) (w.heap.size + 1 + 1) 2 (zerosI n) := by have := Blk.new ((w.alloc o).alloc (.cells (zerosB n) 4)) 2 (zerosI n); simpa using this
  refine ⟨?_, ?_⟩
  · rw [hi, e1]; exact own_of_blk b2 (zerosI_size n) hn (by omega) (by simp)
  · rw [hb, e2]; exact own_of_blk (b1.alloc _) (zerosB_size n) hn (by omega) (by simp)

set_option maxHeartbeats 800000 in
theorem newImpl_ok (ages : List Int) (used : List Bool) (n : Nat) (ha : ages = List.replicate n 0) (hu : used = List.replicate n false) (h1 : 1 ≤ n) (h2 : n ≤ 64) (w : World) :
    Calls Try.prog 34 #[.int .i64 n] w fun e w' => ∃ (A A' : Option Addr) (c c' : Nat), e = .returned (.tuple #[.agg #[.slice A ages.length c, .slice A' used.length c'], .bool true]) ∧
      OwnL w' w.heap.size w'.heap.size A c A' c' ages used ∧ Kept 0 0 w w' := by
  have e1 : ages.length = n := by rw [ha]; simp
  have e2 : used.length = n := by rw [hu]; simp
  have HI : Hid (ages.map (Value.int .i64) = (zerosI n).toList) := by show _ = _; rw [ha, zerosI_list]
  have HB : Hid (used.map Value.bool = (zerosB n).toList) := by show _ = _; rw [hu, zerosB_list]
  rw [e1, e2]
  have E1 := Lib.hid e1
  have E2 := Lib.hid e2
  clear e1 e2 ha hu
  have g1 : decide ((n : Int) < 1) = false := by simp; omega
  have g2 : decide ((64 : Int) < (n : Int)) = false := by simp; omega
  have m1 := makeI n (by omega)
  have m2 := makeB n (by omega)
  go_enter Try.func34, Try.ntmps34
  go_wp2
  go_region
  · go_wp2
    refine bodyPost_ret (v := .tuple #[.agg #[.slice (some ⟨w.heap.size + 1, 0, none⟩) n n, .slice (some ⟨w.heap.size + 1 + 1, 0, none⟩) n n], .bool true]) (by simp [results, Try.results34, go_sem]) rfl ⟨_, _, _, _, rfl, ?_, (((Kept.alloc0 _ _).alloc _).alloc _).drew⟩
    exact new_own _ _ _ _ n (by omega) E1.out E2.out HI.out HB.out
  · go_wp2
    refine bodyPost_ret (v := .tuple #[.agg #[.slice (some ⟨w.heap.size + 1 + 1, 0, none⟩) n n, .slice (some ⟨w.heap.size + 1, 0, none⟩) n n], .bool true]) (by simp [results, Try.results34, go_sem]) rfl ⟨_, _, _, _, rfl, ?_, (((Kept.alloc0 _ _).alloc _).alloc _).drew⟩
    exact new_own' _ _ _ _ n (by omega) E1.out E2.out HI.out HB.out
set_option maxHeartbeats 800000 in
theorem newSpec_ok (ages : List Int) (used : List Bool) (n : Nat) (ha : ages = List.replicate n 0) (hu : used = List.replicate n false) (h1 : 1 ≤ n) (h2 : n ≤ 64) (w : World) :
    Calls Try.prog 54 #[.int .i64 n] w fun e w' => ∃ (A A' : Option Addr) (c c' : Nat), e = .returned (.tuple #[.agg #[.slice A ages.length c, .slice A' used.length c'], .bool true]) ∧
      OwnL w' w.heap.size w'.heap.size A c A' c' ages used ∧ Kept 0 0 w w' := by
  have e1 : ages.length = n := by rw [ha]; simp
  have e2 : used.length = n := by rw [hu]; simp
  have HI : Hid (ages.map (Value.int .i64) = (zerosI n).toList) := by show _ = _; rw [ha, zerosI_list]
  have HB : Hid (used.map Value.bool = (zerosB n).toList) := by show _ = _; rw [hu, zerosB_list]
  rw [e1, e2]
  have E1 := Lib.hid e1
  have E2 := Lib.hid e2
  clear e1 e2 ha hu
  have g1 : (decide ((1 : Int) ≤ (n : Int)) && decide ((n : Int) ≤ 64)) = true := by simp; omega
  have m1 := makeI n (by omega)
  have m2 := makeB n (by omega)
  go_enter Try.func54, Try.ntmps54
  go_wp2_with fail
  with_reducible refine (l1In_any _ _ _ _).mono ?_
  rintro e w' ⟨rfl, rfl⟩
  rw [g1]
  clear g1
  go_wp2
  go_region
  · go_wp2
    refine bodyPost_ret (v := .tuple #[.agg #[.slice (some ⟨w.heap.size + 1, 0, none⟩) n n, .slice (some ⟨w.heap.size + 1 + 1, 0, none⟩) n n], .bool true]) (by simp [results, Try.results54, go_sem]) rfl ⟨_, _, _, _, rfl, ?_, (((Kept.alloc0 _ _).alloc _).alloc _).drew⟩
    exact new_own _ _ _ _ n (by omega) E1.out E2.out HI.out HB.out
  · go_wp2
    refine bodyPost_ret (v := .tuple #[.agg #[.slice (some ⟨w.heap.size + 1 + 1, 0, none⟩) n n, .slice (some ⟨w.heap.size + 1, 0, none⟩) n n], .bool true]) (by simp [results, Try.results54, go_sem]) rfl ⟨_, _, _, _, rfl, ?_, (((Kept.alloc0 _ _).alloc _).alloc _).drew⟩
    exact new_own' _ _ _ _ n (by omega) E1.out E2.out HI.out HB.out
set_option maxHeartbeats 800000 in
theorem newImpl_bad (n : Int) (h : n < 1 ∨ 64 < n) (w : World) :
    Calls Try.prog 34 #[.int .i64 n] w fun e w' => e = .returned (.tuple #[.agg #[.slice none 0 0, .slice none 0 0], .bool false]) ∧ Kept 0 0 w w' := by
  by_cases h1 : n < 1
  · have g1 : decide (n < 1) = true := by simpa using h1
    clear h
    go_enter Try.func34, Try.ntmps34
    go_wp2
    exact bodyPost_ret (v := .tuple #[.agg #[.slice none 0 0, .slice none 0 0], .bool false]) (by simp [results, Try.results34, go_sem]) rfl ⟨rfl, Kept.alloc0 _ _⟩
  · have g1 : decide (n < 1) = false := by simpa using h1
    have h2 : 64 < n := by omega
    have g2 : decide (64 < n) = true := by simpa using h2
    clear h
    go_enter Try.func34, Try.ntmps34
    go_wp2
    exact bodyPost_ret (v := .tuple #[.agg #[.slice none 0 0, .slice none 0 0], .bool false]) (by simp [results, Try.results34, go_sem]) rfl ⟨rfl, Kept.alloc0 _ _⟩
set_option maxHeartbeats 800000 in
theorem newSpec_bad (n : Int) (h : n < 1 ∨ 64 < n) (w : World) :
    Calls Try.prog 54 #[.int .i64 n] w fun e w' => e = .returned (.tuple #[.agg #[.slice none 0 0, .slice none 0 0], .bool false]) ∧ Kept 0 0 w w' := by
  have g1 : (decide ((1 : Int) ≤ n) && decide (n ≤ 64)) = false := by simp; omega
  go_enter Try.func54, Try.ntmps54
  go_wp2_with fail
  with_reducible refine (l1In_any _ _ _ _).mono ?_
  rintro e w' ⟨rfl, rfl⟩
  rw [g1]
  clear g1 h
  go_wp2
  exact bodyPost_ret (v := .tuple #[.agg #[.slice none 0 0, .slice none 0 0], .bool false]) (by simp [results, Try.results54, go_sem]) rfl ⟨rfl, Kept.alloc0 _ _⟩
end Go.Proofs.Ytnnbfcmbcjkpoaa
