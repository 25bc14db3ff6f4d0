/- Contracts of the helper functions that copy a slice and that write marks into one; no condition beyond what each theorem states. -/
import Derived.Test.YtgminepgldfdfaaA
import Derived.Maps.AppendAt
namespace Go.Proofs.Ytgminepgldfdfaa
open Go.RowKit

theorem Try.info2 : (Try.prog.info? 2).map (fun i => (i.zero, i.size, i.bytes)) = some (some (.int .i64 0), 1, 8) := by kernel_rfl
theorem Try.info4 : (Try.prog.info? 4).map (fun i => (i.zero, i.size, i.bytes)) = some (some (.bool false), 1, 1) := by kernel_rfl

/-- What a copy in the making holds behind k rounds: k of xs, then zeros. -/
def part {α : Type} (f : α → Value) (z : Value) (xs : List α) (k : Nat) : List Value := (xs.take k).map f ++ List.replicate (xs.length - k) z
theorem part_zero {α : Type} (f : α → Value) (z : Value) (xs : List α) : part f z xs 0 = List.replicate xs.length z := by simp [part]
theorem part_all {α : Type} (f : α → Value) (z : Value) (xs : List α) (k : Nat) (h : xs.length ≤ k) : part f z xs k = xs.map f := by
  simp [part, List.take_of_length_le h, Nat.sub_eq_zero_of_le h]
theorem part_succ {α : Type} (f : α → Value) (z : Value) (xs : List α) (k : Nat) (h : k < xs.length) : (part f z xs k).set k (f xs[k]) = part f z xs (k + 1) := by
  unfold part
  have e : xs.length - k = (xs.length - (k + 1)) + 1 := by omega
  rw [List.set_append_right _ _ (by simp; omega)]
  simp only [List.length_map, List.length_take, Nat.min_eq_left (Nat.le_of_lt h), Nat.sub_self]
  rw [e, List.replicate_succ, List.set_cons_zero, List.take_succ_eq_append_getElem h, List.map_append, List.append_assoc]
  rfl

theorem part_at {α : Type} (f : α → Value) (z : Value) (xs : List α) (k : Nat) (h : k < xs.length) : (part f z xs k)[k]? = some z := by
  unfold part
  have hl : ((xs.take k).map f).length = k := by simp; omega
  rw [List.getElem?_append_right (by omega), hl, Nat.sub_self, List.getElem?_replicate, if_pos (by omega)]
theorem Below.of_grown_none {w w' : World} (h : w.grownBy w' none) : Below w.heap.size w w' := ⟨h.os, h.tape, h.output, h.size, fun k hk => h.block k hk (by simp)⟩
theorem cell_own {w : World} {base e n cap g : Nat} {xs : List Value} {k : Nat} {u : Value} (h : w.ownsRow base e 1 (.slice (some ⟨g, 0, none⟩) n cap) n xs) (hk : k < n) (hu : xs[k]? = some u) : w.cell? ⟨g, k, none⟩ = some u := by
  rw [h.cellAt k (by omega)]; exact hu
theorem Rd.below {α : Type} {f : α → Value} {w w' : World} {B : Nat} {A : Option Addr} {xs : List α} (h : Rd f w B A xs) (hb : Below B w w') : Rd f w' B A xs :=
  ⟨h.1, fun hn => by
    obtain ⟨ad, e, hB, hc⟩ := h.2 hn
    exact ⟨ad, e, hB, fun j x hx => (hb.cell (by unfold Addr.add; split <;> exact hB)).trans (hc j x hx)⟩⟩

set_option maxHeartbeats 400000 in
theorem toI_any (xs : List Int) (A : Option Addr) (c : Nat) (w : World) (h : Rd (Value.int .i64) w w.heap.size A xs) (hn : xs.length ≤ 1048576) :
    Calls Try.prog 39 #[.slice A xs.length c] w fun e w' => e = .returned (.slice (some ⟨w.heap.size, 0, none⟩) xs.length xs.length) ∧
      w'.ownsRow w.heap.size 2 1 (.slice (some ⟨w.heap.size, 0, none⟩) xs.length xs.length) xs.length (xs.map (Value.int .i64)) ∧ Below w.heap.size w w' := by
  obtain ⟨i0, hi, hz0, hz1, hz2⟩ := info_parts Try.info2
  go_enter Try.func39, Try.ntmps39
  go_wp2_with (refine wpList_make_full _ rfl _ _ 28 rfl w.heap.size 2 i0 (.int .i64 0) 1 Try.underlying28 hi hz0 hz1 _ _ _ _ xs.length rfl rfl rfl rfl (by rw [hz2]; omega) (by unfold maxLen; omega) (Nat.le_refl _) ?_; intro w1 hown hg)
  have hown1 : w1.ownsRow w.heap.size 2 1 (.slice (some ⟨w.heap.size, 0, none⟩) xs.length xs.length) xs.length (part (Value.int .i64) (.int .i64 0) xs 0) := by
    rw [part_zero]; simpa [Value.cells, toList_madeCells_one] using hown
  have hb1 := Below.of_grown_none hg
  have HO := Lib.hid hown1
  have HB := Lib.hid hb1
  clear hown hg hown1 hb1 hi hz0 hz1 hz2
  go_loopw [4] (fun i wr => ∃ k : Nat, k ≤ xs.length ∧ i = .int .i64 k ∧ Hid (wr.ownsRow w.heap.size 2 1 (.slice (some ⟨w.heap.size, 0, none⟩) xs.length xs.length) xs.length (part (Value.int .i64) (.int .i64 0) xs k)) ∧ Hid (Below w.heap.size w wr)) (fun i _ => xs.length - (intOf i).toNat)
  case atStart => exact ⟨0, Nat.zero_le _, rfl, HO, HB⟩
  case round =>
    clear HO HB
    obtain ⟨k, hk, rfl, HO, HB⟩ := hrel
    by_cases hlt : k < xs.length
    · obtain ⟨ad, rfl, _, hc⟩ := (h.below HB.out).at_ hlt
      have hg : wr.cell? ⟨w.heap.size, k, none⟩ = some (.int .i64 0) := cell_own HO.out hlt (part_at _ _ _ _ hlt)
      have hf : wr.frozen? ⟨w.heap.size, k, none⟩ = false := HO.out.frozenAt k
      go_wp2
      go_roundw
      case rel => exact ⟨k + 1, by omega, by go_num, Lib.hid (by rw [← part_succ _ _ _ _ hlt]; exact (HO.out.stored k _).1), Lib.hid (HB.out.setCell (Nat.le_refl _) _)⟩
      case measure => simp [intOf]; omega
    · go_wp2
      go_ret
      exact ⟨rfl, by rw [← part_all (Value.int .i64) (.int .i64 0) xs k (by omega)]; exact HO.out, HB.out⟩

set_option maxHeartbeats 400000 in
theorem toB_any (xs : List Bool) (A : Option Addr) (c : Nat) (w : World) (h : Rd Value.bool w w.heap.size A xs) (hn : xs.length ≤ 1048576) :
    Calls Try.prog 40 #[.slice A xs.length c] w fun e w' => e = .returned (.slice (some ⟨w.heap.size, 0, none⟩) xs.length xs.length) ∧
      w'.ownsRow w.heap.size 4 1 (.slice (some ⟨w.heap.size, 0, none⟩) xs.length xs.length) xs.length (xs.map Value.bool) ∧ Below w.heap.size w w' := by
  obtain ⟨i0, hi, hz0, hz1, hz2⟩ := info_parts Try.info4
  go_enter Try.func40, Try.ntmps40
  go_wp2_with (refine wpList_make_full _ rfl _ _ 29 rfl w.heap.size 4 i0 (.bool false) 1 Try.underlying29 hi hz0 hz1 _ _ _ _ xs.length rfl rfl rfl rfl (by rw [hz2]; omega) (by unfold maxLen; omega) (Nat.le_refl _) ?_; intro w1 hown hg)
  have hown1 : w1.ownsRow w.heap.size 4 1 (.slice (some ⟨w.heap.size, 0, none⟩) xs.length xs.length) xs.length (part Value.bool (.bool false) xs 0) := by
    rw [part_zero]; simpa [Value.cells, toList_madeCells_one] using hown
  have hb1 := Below.of_grown_none hg
  have HO := Lib.hid hown1
  have HB := Lib.hid hb1
  clear hown hg hown1 hb1 hi hz0 hz1 hz2
  go_loopw [4] (fun i wr => ∃ k : Nat, k ≤ xs.length ∧ i = .int .i64 k ∧ Hid (wr.ownsRow w.heap.size 4 1 (.slice (some ⟨w.heap.size, 0, none⟩) xs.length xs.length) xs.length (part Value.bool (.bool false) xs k)) ∧ Hid (Below w.heap.size w wr)) (fun i _ => xs.length - (intOf i).toNat)
  case atStart => exact ⟨0, Nat.zero_le _, rfl, HO, HB⟩
  case round =>
    clear HO HB
    obtain ⟨k, hk, rfl, HO, HB⟩ := hrel
    by_cases hlt : k < xs.length
    · obtain ⟨ad, rfl, _, hc⟩ := (h.below HB.out).at_ hlt
      have hg : wr.cell? ⟨w.heap.size, k, none⟩ = some (.bool false) := cell_own HO.out hlt (part_at _ _ _ _ hlt)
      have hf : wr.frozen? ⟨w.heap.size, k, none⟩ = false := HO.out.frozenAt k
      go_wp2
      go_roundw
      case rel => exact ⟨k + 1, by omega, by go_num, Lib.hid (by rw [← part_succ _ _ _ _ hlt]; exact (HO.out.stored k _).1), Lib.hid (HB.out.setCell (Nat.le_refl _) _)⟩
      case measure => simp [intOf]; omega
    · go_wp2
      go_ret
      exact ⟨rfl, by rw [← part_all Value.bool (.bool false) xs k (by omega)]; exact HO.out, HB.out⟩

/-- The first j cells of a row marked. -/
def markPart {α : Type} (f : α → Value) (ms : List α) (ys : List Value) (j : Nat) : List Value := (ms.take j).map f ++ ys.drop j
theorem markPart_zero {α : Type} (f : α → Value) (ms : List α) (ys : List Value) : markPart f ms ys 0 = ys := by simp [markPart]
theorem markPart_all {α : Type} (f : α → Value) (ms : List α) (ys : List Value) (j : Nat) (h : ms.length ≤ j) (h' : ys.length ≤ j) : markPart f ms ys j = ms.map f := by
  simp [markPart, List.take_of_length_le h, List.drop_of_length_le h']
theorem markPart_succ {α : Type} (f : α → Value) (ms : List α) (ys : List Value) (j : Nat) (h : j < ms.length) (h' : j < ys.length) : (markPart f ms ys j).set j (f ms[j]) = markPart f ms ys (j + 1) := by
  unfold markPart
  have hl : ((ms.take j).map f).length = j := by simp; omega
  rw [List.set_append_right _ _ (by omega), hl, Nat.sub_self, List.drop_eq_getElem_cons h', List.set_cons_zero, List.take_succ_eq_append_getElem h, List.map_append, List.append_assoc]
  rfl
theorem markPart_at {α : Type} (f : α → Value) (ms : List α) (ys : List Value) (j : Nat) (h : j < ms.length) (h' : j < ys.length) : (markPart f ms ys j)[j]? = some ys[j] := by
  unfold markPart
  have hl : ((ms.take j).map f).length = j := by simp; omega
  rw [List.getElem?_append_right (by omega), hl, Nat.sub_self, List.getElem?_drop, Nat.add_zero]
  exact List.getElem?_eq_getElem h'

set_option maxHeartbeats 400000 in
theorem markI_any (k : Int) (n : Nat) (ys : List Int) (g cap base : Nat) (w : World) (h : w.ownsRow base 2 1 (.slice (some ⟨g, 0, none⟩) n cap) n (ys.map (Value.int .i64))) (hk0 : 0 ≤ k) (hk : k ≤ 4000000) (hn : n ≤ 1048576) :
    Calls Try.prog 43 #[.slice (some ⟨g, 0, none⟩) n cap, .int .i64 k] w fun e w' => e = .returned (.int .i64 (k + (n : Int))) ∧
      w'.ownsRow base 2 1 (.slice (some ⟨g, 0, none⟩) n cap) n ((marksI k n).map (Value.int .i64)) ∧ w.grownBy w' (some g) := by
  have hlen : ys.length = n := by simpa using h.1
  have HL := Lib.hid hlen
  have HO : Hid (w.ownsRow base 2 1 (.slice (some ⟨g, 0, none⟩) n cap) n (markPart (Value.int .i64) (marksI k n) (ys.map (Value.int .i64)) 0)) := by rw [markPart_zero]; exact h
  have HG := Lib.hid (World.grownBy.refl w (some g))
  clear hlen h
  go_enter Try.func43, Try.ntmps43
  go_wp2
  go_loopw [1, 5] (fun q i wr => ∃ j : Nat, j ≤ n ∧ i = .int .i64 j ∧ q = .int .i64 (k + (j : Int)) ∧ Hid (wr.ownsRow base 2 1 (.slice (some ⟨g, 0, none⟩) n cap) n (markPart (Value.int .i64) (marksI k n) (ys.map (Value.int .i64)) j)) ∧ Hid (w.grownBy wr (some g))) (fun _ i _ => n - (intOf i).toNat)
  case atStart => exact ⟨0, Nat.zero_le _, rfl, by go_num, HO, HG⟩
  case round =>
    clear HO HG
    obtain ⟨j, hj, rfl, rfl, HO, HG⟩ := hrel
    by_cases hlt : j < n
    · have hm : j < (marksI k n).length := by rw [marksI_len]; exact hlt
      have hy : j < (ys.map (Value.int .i64)).length := by rw [List.length_map, HL.out]; exact hlt
      obtain ⟨u, hg⟩ : ∃ u, wr.cell? ⟨g, j, none⟩ = some (.int .i64 u) := ⟨_, (cell_own HO.out hlt (markPart_at (Value.int .i64) _ _ _ hm hy)).trans (by rw [List.getElem_map])⟩
      have hf : wr.frozen? ⟨g, j, none⟩ = false := HO.out.frozenAt j
      have HM := Lib.hid hm
      have HY := Lib.hid hy
      clear hm hy
      go_wp2
      go_roundw
      case rel =>
        refine ⟨j + 1, by omega, by go_num, by go_num, Lib.hid ?_, Lib.hid (HG.out.trans (HO.out.stored j _).2)⟩
        have e := markPart_succ (Value.int .i64) (marksI k n) (ys.map (Value.int .i64)) j HM.out HY.out
        rw [show (marksI k n)[j]'HM.out = k + (j : Int) from by simp [marksI]] at e
        rw [← e]
        exact (HO.out.stored j _).1
      case measure => simp [intOf]; omega
    · go_wp2
      go_ret
      refine ⟨ret_int (by omega), ?_, HG.out⟩
      rw [← markPart_all (Value.int .i64) (marksI k n) (ys.map (Value.int .i64)) j (by rw [marksI_len]; omega) (by rw [List.length_map, HL.out]; omega)]
      exact HO.out
set_option maxHeartbeats 400000 in
theorem markB_any (k : Int) (n : Nat) (ys : List Bool) (g cap base : Nat) (w : World) (h : w.ownsRow base 4 1 (.slice (some ⟨g, 0, none⟩) n cap) n (ys.map Value.bool)) (hk0 : 0 ≤ k) (hk : k ≤ 4000000) (hn : n ≤ 1048576) :
    Calls Try.prog 44 #[.slice (some ⟨g, 0, none⟩) n cap, .int .i64 k] w fun e w' => e = .returned (.int .i64 (k + (n : Int))) ∧
      w'.ownsRow base 4 1 (.slice (some ⟨g, 0, none⟩) n cap) n ((marksB k n).map Value.bool) ∧ w.grownBy w' (some g) := by
  have hlen : ys.length = n := by simpa using h.1
  have HL := Lib.hid hlen
  have HO : Hid (w.ownsRow base 4 1 (.slice (some ⟨g, 0, none⟩) n cap) n (markPart Value.bool (marksB k n) (ys.map Value.bool) 0)) := by rw [markPart_zero]; exact h
  have HG := Lib.hid (World.grownBy.refl w (some g))
  clear hlen h
  go_enter Try.func44, Try.ntmps44
  go_wp2
  go_loopw [1, 5] (fun q i wr => ∃ j : Nat, j ≤ n ∧ i = .int .i64 j ∧ q = .int .i64 (k + (j : Int)) ∧ Hid (wr.ownsRow base 4 1 (.slice (some ⟨g, 0, none⟩) n cap) n (markPart Value.bool (marksB k n) (ys.map Value.bool) j)) ∧ Hid (w.grownBy wr (some g))) (fun _ i _ => n - (intOf i).toNat)
  case atStart => exact ⟨0, Nat.zero_le _, rfl, by go_num, HO, HG⟩
  case round =>
    clear HO HG
    obtain ⟨j, hj, rfl, rfl, HO, HG⟩ := hrel
    by_cases hlt : j < n
    · have hm : j < (marksB k n).length := by rw [marksB_len]; exact hlt
      have hy : j < (ys.map Value.bool).length := by rw [List.length_map, HL.out]; exact hlt
      obtain ⟨u, hg⟩ : ∃ u, wr.cell? ⟨g, j, none⟩ = some (.bool u) := ⟨_, (cell_own HO.out hlt (markPart_at Value.bool _ _ _ hm hy)).trans (by rw [List.getElem_map])⟩
      have hf : wr.frozen? ⟨g, j, none⟩ = false := HO.out.frozenAt j
      have HM := Lib.hid hm
      have HY := Lib.hid hy
      clear hm hy
      go_wp2
      go_roundw
      case rel =>
        refine ⟨j + 1, by omega, by go_num, by go_num, Lib.hid ?_, Lib.hid (HG.out.trans (HO.out.stored j _).2)⟩
        have e := markPart_succ Value.bool (marksB k n) (ys.map Value.bool) j HM.out HY.out
        rw [show (marksB k n)[j]'HM.out = ((k + (j : Int)) % 3 == 0) from by simp [marksB]] at e
        rw [← e]
        exact (HO.out.stored j _).1
      case measure => simp [intOf]; omega
    · go_wp2
      go_ret
      refine ⟨ret_int (by omega), ?_, HG.out⟩
      rw [← markPart_all Value.bool (marksB k n) (ys.map Value.bool) j (by rw [marksB_len]; omega) (by rw [List.length_map, HL.out]; omega)]
      exact HO.out
end Go.Proofs.Ytgminepgldfdfaa
