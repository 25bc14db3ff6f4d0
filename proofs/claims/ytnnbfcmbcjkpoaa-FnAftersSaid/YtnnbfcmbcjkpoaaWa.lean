/- Slices of bools: how they lie in memory, and the helper functions of the laws over them (size, copy, compare, mark, check marks); the copies and sizes of slices of int64; no condition beyond what each theorem states. -/
import Derived.Test.YtnnbfcmbcjkpoaaNi
import Derived.Test.YtnnbfcmbcjkpoaaNb
namespace Go.Proofs.Ytnnbfcmbcjkpoaa
open Go.RowKit Go.Sort

/-- How a bool lies in memory. -/
def bR : Rec Bool := ⟨1, fun x => [.bool x], fun _ => rfl, by decide, fun x u hu => by
  simp only [List.mem_cons, List.not_mem_nil, or_false] at hu
  subst hu; rfl⟩
theorem bR_k : bR.k = 1 := rfl
theorem Try.infoB : (Try.prog.info? 4).map (fun i => (i.zero, i.size, i.bytes)) = some (some (.bool false), 1, 1) := by kernel_rfl
theorem bSlice : SliceOf Try.prog 29 4 bR.k 1 := SliceOf.of Try.underlying29 Try.infoB rfl
/-- What the walk wants to know of element k. -/
theorem RdR.b {w : World} {B : Nat} {A : Option Addr} {xs : List Bool} {k : Nat} (h : RdR bR w B A xs) (hk : k < xs.length) :
    ∃ ad, A = some ad ∧ ad.block < B ∧ w.cell? (ad.add k) = some (.bool xs[k]) := by
  obtain ⟨ad, e, hb, hc⟩ := h.at_ hk
  exact ⟨ad, e, hb, by simpa [bR_k] using hc 0 _ rfl⟩
theorem bR_flat (xs : List Bool) : bR.flat xs = xs.map Value.bool := by
  induction xs with
  | nil => rfl
  | cons x r ih => rw [Rec.flat_cons, ih]; rfl

set_option maxHeartbeats 800000 in
theorem eqBS_any (xs : List Bool) (A A' : Option Addr) (c c' B B' : Nat) (w : World) (h : RdR bR w B A xs) (h' : RdR bR w B' A' xs) :
    Calls Try.prog 76 #[.slice A xs.length c, .slice A' xs.length c'] w fun e w' => e = .returned (.bool true) ∧ Kept 0 0 w w' := by
  have hx := h.1
  unfold maxLen at hx
  have H := Lib.hid h
  have H' := Lib.hid h'
  clear h h'
  have hb : (((xs.length : Int)) != ((xs.length : Int))) = false := by simp
  go_enter Try.func76, Try.ntmps76
  go_wp2
  go_loopw [5] (fun i wr => ∃ k : Nat, k ≤ xs.length ∧ i = .int .i64 k ∧ Hid (Kept 0 0 w wr) ∧ Hid (RdR bR wr B A xs) ∧ Hid (RdR bR wr B' A' xs)) (fun i _ => xs.length - (intOf i).toNat)
  case atStart => exact ⟨0, Nat.zero_le _, rfl, Lib.hid (Kept.refl _ _ _), H, H'⟩
  case round =>
    clear H H'
    obtain ⟨k, hk, rfl, HK, H, H'⟩ := hrel
    by_cases hlt : k < xs.length
    · obtain ⟨ad, rfl, _, c0⟩ := H.out.b hlt
      obtain ⟨ad', rfl, _, d0⟩ := H'.out.b hlt
      have i1 : (k : Int) < (xs.length : Int) := by omega
      go_wp2_with fail
      go_quiet (fail)
      clear c0 d0
      go_wp2
      go_roundw
      case rel => exact ⟨k + 1, by omega, by go_num, Lib.hid (HK.out.drewN _), H, H'⟩
      case measure => simp [intOf]; omega
    · go_wp2
      go_ret
      exact ⟨rfl, HK.out⟩

/-- What the marks write. -/
def marksB (k : Int) (n : Nat) : List Bool := (List.range n).map fun i : Nat => ((k + (i : Int)) % 3 == 0)
theorem marksB_len (k : Int) (n : Nat) : (marksB k n).length = n := by simp [marksB]
theorem marksB_at (k : Int) (n i : Nat) (h : i < (marksB k n).length) : (marksB k n)[i] = ((k + (i : Int)) % 3 == 0) := by simp [marksB]

set_option maxHeartbeats 800000 in
theorem heldBS_any (k : Int) (n : Nat) (A : Option Addr) (c B : Nat) (w : World) (h : RdR bR w B A (marksB k n)) (hk0 : 0 ≤ k) (hk : k ≤ 10000000) (hn : n ≤ 1048576) :
    Calls Try.prog 80 #[.slice A n c, .int .i64 k] w fun e w' => e = .returned (.int .i64 (k + (n : Int))) ∧ w = w' := by
  have H := Lib.hid h
  clear h
  go_enter Try.func80, Try.ntmps80
  go_wp2
  go_loop [1, 5] (fun q i => ∃ j : Nat, j ≤ n ∧ i = .int .i64 j ∧ q = .int .i64 (k + (j : Int))) (fun _ i => n - (intOf i).toNat)
  case atStart => exact ⟨0, Nat.zero_le _, rfl, by go_num⟩
  case round =>
    obtain ⟨j, hj, rfl, rfl⟩ := hrel
    by_cases hlt : j < n
    · have hm : j < (marksB k n).length := by rw [marksB_len]; exact hlt
      obtain ⟨ad, rfl, _, c0⟩ := H.out.b hm
      rw [marksB_at] at c0
      have i1 : (j : Int) < (n : Int) := by omega
      go_wp2
      go_round
      case rel => exact ⟨j + 1, by omega, by go_num, by rw [show k + ((j + 1 : Nat) : Int) = k + (j : Int) + 1 from by omega]⟩
      case measure => simp [intOf]; omega
    · go_wp2
      go_ret
      exact ⟨ret_int (by omega), rfl⟩

/-- The first j cells of a row marked. -/
def bMarked (k : Int) (ys : List Bool) (j : Nat) : List Bool := marksB k j ++ ys.drop j
theorem bMarked_zero (k : Int) (ys : List Bool) : bMarked k ys 0 = ys := by simp [bMarked, marksB]
theorem bMarked_len (k : Int) (ys : List Bool) (j : Nat) (h : j ≤ ys.length) : (bMarked k ys j).length = ys.length := by simp [bMarked, marksB_len]; omega
theorem bMarked_all (k : Int) (ys : List Bool) : bMarked k ys ys.length = marksB k ys.length := by simp [bMarked]
theorem bMarked_at (k : Int) (ys : List Bool) (j : Nat) (h : j < ys.length) : (bMarked k ys j)[j]'(by rw [bMarked_len k ys j (Nat.le_of_lt h)]; exact h) = ys[j] := by
  unfold bMarked
  rw [List.getElem_append_right (by rw [marksB_len]; exact Nat.le_refl _)]
  simp [marksB_len]
theorem bMarked_succ (k : Int) (ys : List Bool) (j : Nat) (h : j < ys.length) : (bMarked k ys j).set j ((k + (j : Int)) % 3 == 0) = bMarked k ys (j + 1) := by
  unfold bMarked
  rw [List.set_append_right _ _ (by rw [marksB_len]; exact Nat.le_refl _), marksB_len, Nat.sub_self, List.drop_eq_getElem_cons h, List.set_cons_zero]
  simp [marksB, List.range_succ]
theorem own_putB {w : World} {base e n c g : Nat} {xs : List Bool} (h : w.ownsRow base e 1 (.slice (some ⟨g, 0, none⟩) n c) n (bR.flat xs)) (i : Nat) (x : Bool) :
    (w.setCell ⟨g, i, none⟩ (.bool x)).ownsRow base e 1 (.slice (some ⟨g, 0, none⟩) n c) n (bR.flat (xs.set i x)) := by
  have h1 := (h.stored i (.bool x)).1
  rw [bR_flat] at h1 ⊢
  rwa [List.map_set]

set_option maxHeartbeats 1600000 in
theorem markBS_any (k : Int) (ys : List Bool) (g cap base : Nat) (w : World) (h : w.ownsRow base 4 1 (.slice (some ⟨g, 0, none⟩) ys.length cap) ys.length (bR.flat ys)) (hk0 : 0 ≤ k) (hk : k ≤ 10000000) (hn : ys.length ≤ 1048576) :
    Calls Try.prog 78 #[.slice (some ⟨g, 0, none⟩) ys.length cap, .int .i64 k] w fun e w' => e = .returned (.int .i64 (k + (ys.length : Int))) ∧
      w'.ownsRow base 4 1 (.slice (some ⟨g, 0, none⟩) ys.length cap) ys.length (bR.flat (marksB k ys.length)) ∧ Kept g (g + 1) w w' := by
  have HO : Hid (w.ownsRow base 4 1 (.slice (some ⟨g, 0, none⟩) ys.length cap) ys.length (bR.flat (bMarked k ys 0))) := by rw [bMarked_zero]; exact h
  clear h
  go_enter Try.func78, Try.ntmps78
  go_wp2
  go_loopw [1, 5] (fun q i wr => ∃ j : Nat, j ≤ ys.length ∧ i = .int .i64 j ∧ q = .int .i64 (k + (j : Int)) ∧ Hid (wr.ownsRow base 4 1 (.slice (some ⟨g, 0, none⟩) ys.length cap) ys.length (bR.flat (bMarked k ys j))) ∧ Hid (Kept g (g + 1) w wr)) (fun _ i _ => ys.length - (intOf i).toNat)
  case atStart => exact ⟨0, Nat.zero_le _, rfl, by go_num, HO, Lib.hid (Kept.refl _ _ _)⟩
  case round =>
    clear HO
    obtain ⟨j, hj, rfl, rfl, HO, HK⟩ := hrel
    by_cases hlt : j < ys.length
    · have hpl : j < (bMarked k ys j).length := by rw [bMarked_len k ys j hj]; exact hlt
      have hat := bMarked_at k ys j hlt
      have c0 : wr.cell? ⟨g, j, none⟩ = some (.bool ys[j]) := by
        have := own_at (R := bR) HO.out hpl 0 (u := .bool ys[j]) (by rw [hat]; rfl)
        rwa [bR_k, Nat.mul_one, Nat.add_zero] at this
      have f0 : wr.frozen? ⟨g, j, none⟩ = false := HO.out.frozenAt _
      have i1 : (j : Int) < (ys.length : Int) := by omega
      clear hpl hat
      go_wp2
      go_roundw
      case rel =>
        refine ⟨j + 1, by omega, by go_num, by rw [show k + ((j + 1 : Nat) : Int) = k + (j : Int) + 1 from by omega], Lib.hid ?_, Lib.hid (HK.out.setCell (.inr ⟨Nat.le_refl _, Nat.lt_succ_self _⟩) _)⟩
        rw [← bMarked_succ k ys j hlt]
        exact own_putB HO.out j _
      case measure => simp [intOf]; omega
    · have e : j = ys.length := by omega
      subst e
      go_wp2
      go_ret
      exact ⟨rfl, by rw [← bMarked_all]; exact HO.out, HK.out⟩
theorem markBS_own (k : Int) (ys : List Bool) (A : Option Addr) (c lo hi : Nat) (w : World) (h : OwnZ w lo hi 4 1 A ys.length c (bR.flat ys)) (hk0 : 0 ≤ k) (hk : k ≤ 10000000) (hn : ys.length ≤ 1048576) :
    Calls Try.prog 78 #[.slice A ys.length c, .int .i64 k] w fun e w' => e = .returned (.int .i64 (k + (ys.length : Int))) ∧
      OwnZ w' lo hi 4 1 A ys.length c (bR.flat (marksB k ys.length)) ∧ Kept (aLo A) (aHi A) w w' := by
  rcases h.form with ⟨rfl, h0, rfl⟩ | ⟨g, rfl, h1, h2, _⟩
  · rw [h0]
    go_enter Try.func78, Try.ntmps78
    go_wp2
    go_rounds 1
    go_ret
    exact ⟨ret_int (by simp), ⟨by simp [marksB, Rec.flat]; exact World.ownsRow_nil _ _ _ _, by simp⟩, Kept.refl _ _ _⟩
  · exact (markBS_any k ys g c lo w h.1 hk0 hk hn).mono fun e w' ⟨he, ho, hk⟩ => ⟨he, ⟨ho, h.2⟩, hk⟩

/-- A slice value that reads as xs. -/
def RdB (w : World) (B : Nat) (v : Value) (xs : List Bool) : Prop := ∃ A c, v = .slice A xs.length c ∧ SL bR w B A c xs
/-- A slice value of the call's own. -/
def OwnB (w : World) (lo hi : Nat) (v : Value) (xs : List Bool) : Prop := ∃ D d, v = .slice D xs.length d ∧ OwnZ w lo hi 4 1 D xs.length d (bR.flat xs)
section
variable {w w' : World} {B B' lo hi lo' hi' : Nat} {v : Value} {xs : List Bool}
theorem RdB.kept (h : RdB w B v xs) (hB : B ≤ w.heap.size) (hk : Kept lo hi w w') (hr : hi ≤ lo ∨ B ≤ lo) : RdB w' B v xs := by
  obtain ⟨A, c, e, h⟩ := h; exact ⟨A, c, e, h.kept hB hk hr⟩
theorem RdB.wide (h : RdB w B v xs) (hB : B ≤ B') : RdB w B' v xs := by
  obtain ⟨A, c, e, h⟩ := h; exact ⟨A, c, e, h.wide hB⟩
theorem RdB.up (h : RdB w w.heap.size v xs) (hk : Kept 0 0 w w') : RdB w' w'.heap.size v xs := (h.kept (Nat.le_refl _) hk (.inl (Nat.le_refl _))).wide hk.size
theorem RdB.len (h : RdB w B v xs) : xs.length ≤ maxLen := by obtain ⟨A, c, e, h⟩ := h; exact h.rd.1
theorem OwnB.kept (h : OwnB w lo hi v xs) (hk : Kept lo' hi' w w') (hr : hi' ≤ lo' ∨ hi ≤ lo' ∨ hi' ≤ lo) : OwnB w' lo hi v xs := by
  obtain ⟨A, c, e, h⟩ := h; exact ⟨A, c, e, h.kept hk hr⟩
theorem OwnB.wide (h : OwnB w lo hi v xs) (hl : lo' ≤ lo) (hh : hi ≤ hi') : OwnB w lo' hi' v xs := by
  obtain ⟨A, c, e, h⟩ := h; exact ⟨A, c, e, h.wide hl hh⟩
theorem OwnB.rd (h : OwnB w lo hi v xs) : RdB w hi v xs := by
  obtain ⟨D, d, e, h⟩ := h; exact ⟨D, d, e, (OwnZ.sl (R := bR) h).2⟩
theorem OwnB.rdW (h : OwnB w lo hi v xs) (hh : hi ≤ w.heap.size) : RdB w w.heap.size v xs := h.rd.wide hh
theorem OwnB.nil (w : World) (lo hi : Nat) : OwnB w lo hi (.slice none 0 0) [] := ⟨none, 0, rfl, ⟨⟨rfl, .inl ⟨rfl, rfl⟩⟩, by intro ad h; cases h⟩⟩
end
theorem eqB (xs : List Bool) (v v' : Value) (w : World) (h : RdB w w.heap.size v xs) (h' : RdB w w.heap.size v' xs) :
    Calls Try.prog 76 #[v, v'] w fun e w' => e = .returned (.bool true) ∧ Kept 0 0 w w' := by
  obtain ⟨A, c, rfl, h⟩ := h
  obtain ⟨A', c', rfl, h'⟩ := h'
  exact eqBS_any xs A A' c c' _ _ w h.rd h'.rd
theorem markB (k : Int) (xs : List Bool) (v : Value) (lo hi : Nat) (w : World) (h : OwnB w lo hi v xs) (hk0 : 0 ≤ k) (hk : k ≤ 10000000) (hn : xs.length ≤ 1048576) :
    Calls Try.prog 78 #[v, .int .i64 k] w fun e w' => e = .returned (.int .i64 (k + (xs.length : Int))) ∧ OwnB w' lo hi v (marksB k xs.length) ∧ Kept lo hi w w' := by
  obtain ⟨D, d, rfl, h⟩ := h
  refine (markBS_own k xs D d lo hi w h hk0 hk hn).mono fun e w' ⟨he, ho, hk'⟩ => ⟨he, ⟨D, d, by rw [marksB_len], by rw [marksB_len]; exact ho⟩, hk'.wide ?_⟩
  have := h.range
  omega
theorem heldB (k : Int) (n : Nat) (v : Value) (w : World) (B : Nat) (h : RdB w B v (marksB k n)) (hk0 : 0 ≤ k) (hk : k ≤ 10000000) (hn : n ≤ 1048576) :
    Calls Try.prog 80 #[v, .int .i64 k] w fun e w' => e = .returned (.int .i64 (k + (n : Int))) ∧ w = w' := by
  obtain ⟨A, c, rfl, h⟩ := h
  rw [marksB_len]
  exact heldBS_any k n A c B w h.rd hk0 hk hn
set_option maxHeartbeats 800000 in
theorem toBS_any (xs : List Bool) (A : Option Addr) (c : Nat) (w : World) (h : RdR bR w w.heap.size A xs) (hn : xs.length ≤ 1048576) :
    Calls Try.prog 73 #[.slice A xs.length c] w fun e w' => ∃ D d, e = .returned (.slice D xs.length d) ∧ OwnZ w' w.heap.size w'.heap.size 4 1 D xs.length d (bR.flat xs) ∧ Kept 0 0 w w' := by
  obtain ⟨i0, hi, hz0, hz1, hz2⟩ := info_parts Try.infoB
  have H := Lib.hid h
  clear h
  go_enter Try.func73, Try.ntmps73
  go_wp2_with (refine wpList_make_full _ rfl _ _ 29 rfl w.heap.size 4 i0 (.bool false) 1 Try.underlying29 hi hz0 hz1 _ _ _ _ xs.length rfl rfl rfl rfl (by rw [hz2]; omega) (by unfold maxLen; omega) (Nat.le_refl _) ?_; intro w1 hown hg)
  have hown1 : w1.ownsRow w.heap.size 4 1 (.slice (some ⟨w.heap.size, 0, none⟩) xs.length xs.length) xs.length (part (Value.bool) (.bool false) xs 0) := by
    rw [part_zero]; simpa [Value.cells, toList_madeCells_one] using hown
  have HO := Lib.hid hown1
  have HK : Hid (Kept 0 0 w w1) := Kept.of_grown hg (by intro k hk; cases hk)
  clear hown hg hown1 hi hz0 hz1 hz2
  go_loopw [4] (fun i wr => ∃ k : Nat, k ≤ xs.length ∧ i = .int .i64 k ∧ Hid (wr.ownsRow w.heap.size 4 1 (.slice (some ⟨w.heap.size, 0, none⟩) xs.length xs.length) xs.length (part (Value.bool) (.bool false) xs k)) ∧ Hid (Kept 0 0 w wr)) (fun i _ => xs.length - (intOf i).toNat)
  case atStart => exact ⟨0, Nat.zero_le _, rfl, HO, HK⟩
  case round =>
    clear HO HK
    obtain ⟨k, hk, rfl, HO, HK⟩ := hrel
    by_cases hlt : k < xs.length
    · obtain ⟨ad, rfl, _, hc⟩ := (H.out.kept (Nat.le_refl _) HK.out (.inl (Nat.le_refl _))).b hlt
      have hg : wr.cell? ⟨w.heap.size, k, none⟩ = some (.bool false) := cell_own HO.out hlt (part_at _ _ _ _ hlt)
      have hf : wr.frozen? ⟨w.heap.size, k, none⟩ = false := HO.out.frozenAt k
      have i1 : (k : Int) < (xs.length : Int) := by omega
      go_wp2
      go_roundw
      case rel => exact ⟨k + 1, by omega, by go_num, Lib.hid (by rw [← part_succ _ _ _ _ hlt]; exact (HO.out.stored k _).1), Lib.hid (HK.out.setCell (.inl (Nat.le_refl _)) _)⟩
      case measure => simp [intOf]; omega
    · go_wp2
      go_ret
      refine ⟨_, _, rfl, ?_, HK.out⟩
      rw [bR_flat, ← part_all (Value.bool) (.bool false) xs k (by omega)]
      exact OwnZ.of_row HO.out
theorem toB (xs : List Bool) (v : Value) (w : World) (h : RdB w w.heap.size v xs) (hn : xs.length ≤ 1048576) :
    Calls Try.prog 73 #[v] w fun e w' => ∃ u, e = .returned u ∧ OwnB w' w.heap.size w'.heap.size u xs ∧ Kept 0 0 w w' := by
  obtain ⟨A, c, rfl, h⟩ := h
  exact (toBS_any xs A c w h.rd hn).mono fun e w' ⟨D, d, he, ho, hk⟩ => ⟨_, he, ⟨D, d, rfl, ho⟩, hk⟩
set_option maxHeartbeats 400000 in
theorem szBS_any (A : Option Addr) (n c : Nat) (left : Int) (w : World) (h0 : 0 ≤ left) (h1 : left ≤ 1048576) (hn : n ≤ maxLen) :
    Calls Try.prog 71 #[.slice A n c, .int .i64 left] w fun e w' => e = .returned (.int .i64 (szF left n)) ∧ w = w' := by
  unfold maxLen at hn
  by_cases hl : left - n < 0
  · have H := Lib.hid hl
    go_enter Try.func71, Try.ntmps71
    go_wp2
    go_ret
    exact ⟨ret_int (szF_neg (by have := H.out; omega)).symm, rfl⟩
  · have H := Lib.hid hl
    go_enter Try.func71, Try.ntmps71
    go_wp2
    go_ret
    exact ⟨ret_int (szF_pos (by have := H.out; omega)).symm, rfl⟩
theorem szB (xs : List Bool) (v : Value) (left : Int) (w : World) (B : Nat) (h : RdB w B v xs) (h0 : 0 ≤ left) (h1 : left ≤ 1048576) :
    Calls Try.prog 71 #[v, .int .i64 left] w fun e w' => e = .returned (.int .i64 (szF left xs.length)) ∧ w = w' := by
  have hm := h.len
  obtain ⟨A, c, rfl, h⟩ := h
  exact szBS_any A xs.length c left w h0 h1 hm
set_option maxHeartbeats 800000 in
theorem toIS_any (xs : List Int) (A : Option Addr) (c : Nat) (w : World) (h : RdR iR w w.heap.size A xs) (hn : xs.length ≤ 1048576) :
    Calls Try.prog 72 #[.slice A xs.length c] w fun e w' => ∃ D d, e = .returned (.slice D xs.length d) ∧ OwnZ w' w.heap.size w'.heap.size 2 1 D xs.length d (iR.flat xs) ∧ Kept 0 0 w w' := by
  obtain ⟨i0, hi, hz0, hz1, hz2⟩ := info_parts Try.infoI
  have H := Lib.hid h
  clear h
  go_enter Try.func72, Try.ntmps72
  go_wp2_with (refine wpList_make_full _ rfl _ _ 28 rfl w.heap.size 2 i0 (.int .i64 0) 1 Try.underlying28 hi hz0 hz1 _ _ _ _ xs.length rfl rfl rfl rfl (by rw [hz2]; omega) (by unfold maxLen; omega) (Nat.le_refl _) ?_; intro w1 hown hg)
  have hown1 : w1.ownsRow w.heap.size 2 1 (.slice (some ⟨w.heap.size, 0, none⟩) xs.length xs.length) xs.length (part (Value.int .i64) (.int .i64 0) xs 0) := by
    rw [part_zero]; simpa [Value.cells, toList_madeCells_one] using hown
  have HO := Lib.hid hown1
  have HK : Hid (Kept 0 0 w w1) := Kept.of_grown hg (by intro k hk; cases hk)
  clear hown hg hown1 hi hz0 hz1 hz2
  go_loopw [4] (fun i wr => ∃ k : Nat, k ≤ xs.length ∧ i = .int .i64 k ∧ Hid (wr.ownsRow w.heap.size 2 1 (.slice (some ⟨w.heap.size, 0, none⟩) xs.length xs.length) xs.length (part (Value.int .i64) (.int .i64 0) xs k)) ∧ Hid (Kept 0 0 w wr)) (fun i _ => xs.length - (intOf i).toNat)
  case atStart => exact ⟨0, Nat.zero_le _, rfl, HO, HK⟩
  case round =>
    clear HO HK
    obtain ⟨k, hk, rfl, HO, HK⟩ := hrel
    by_cases hlt : k < xs.length
    · obtain ⟨ad, rfl, _, hc⟩ := (H.out.kept (Nat.le_refl _) HK.out (.inl (Nat.le_refl _))).i hlt
      have hg : wr.cell? ⟨w.heap.size, k, none⟩ = some (.int .i64 0) := cell_own HO.out hlt (part_at _ _ _ _ hlt)
      have hf : wr.frozen? ⟨w.heap.size, k, none⟩ = false := HO.out.frozenAt k
      have i1 : (k : Int) < (xs.length : Int) := by omega
      go_wp2
      go_roundw
      case rel => exact ⟨k + 1, by omega, by go_num, Lib.hid (by rw [← part_succ _ _ _ _ hlt]; exact (HO.out.stored k _).1), Lib.hid (HK.out.setCell (.inl (Nat.le_refl _)) _)⟩
      case measure => simp [intOf]; omega
    · go_wp2
      go_ret
      refine ⟨_, _, rfl, ?_, HK.out⟩
      rw [iR_flat, ← part_all (Value.int .i64) (.int .i64 0) xs k (by omega)]
      exact OwnZ.of_row HO.out
theorem toI (xs : List Int) (v : Value) (w : World) (h : RdI w w.heap.size v xs) (hn : xs.length ≤ 1048576) :
    Calls Try.prog 72 #[v] w fun e w' => ∃ u, e = .returned u ∧ OwnI w' w.heap.size w'.heap.size u xs ∧ Kept 0 0 w w' := by
  obtain ⟨A, c, rfl, h⟩ := h
  exact (toIS_any xs A c w h.rd hn).mono fun e w' ⟨D, d, he, ho, hk⟩ => ⟨_, he, ⟨D, d, rfl, ho⟩, hk⟩
set_option maxHeartbeats 400000 in
theorem szIS_any (A : Option Addr) (n c : Nat) (left : Int) (w : World) (h0 : 0 ≤ left) (h1 : left ≤ 1048576) (hn : n ≤ maxLen) :
    Calls Try.prog 70 #[.slice A n c, .int .i64 left] w fun e w' => e = .returned (.int .i64 (szF left n)) ∧ w = w' := by
  unfold maxLen at hn
  by_cases hl : left - n < 0
  · have H := Lib.hid hl
    go_enter Try.func70, Try.ntmps70
    go_wp2
    go_ret
    exact ⟨ret_int (szF_neg (by have := H.out; omega)).symm, rfl⟩
  · have H := Lib.hid hl
    go_enter Try.func70, Try.ntmps70
    go_wp2
    go_ret
    exact ⟨ret_int (szF_pos (by have := H.out; omega)).symm, rfl⟩
theorem szI (xs : List Int) (v : Value) (left : Int) (w : World) (B : Nat) (h : RdI w B v xs) (h0 : 0 ≤ left) (h1 : left ≤ 1048576) :
    Calls Try.prog 70 #[v, .int .i64 left] w fun e w' => e = .returned (.int .i64 (szF left xs.length)) ∧ w = w' := by
  have hm := h.len
  obtain ⟨A, c, rfl, h⟩ := h
  exact szIS_any A xs.length c left w h0 h1 hm
end Go.Proofs.Ytnnbfcmbcjkpoaa
