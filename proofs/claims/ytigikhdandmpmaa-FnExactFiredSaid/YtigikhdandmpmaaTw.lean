/- Slices of heap elements: the helper functions of the laws over them (size, copy, compare, mark, check marks); no condition beyond what each theorem states. -/
import Derived.Test.YtigikhdandmpmaaRc
import Derived.Test.YtigikhdandmpmaaHp
namespace Go.Proofs.Ytigikhdandmpmaa
open Go.RowKit Go.Sort

/-- How an element lies in memory. -/
def twR : Rec Tw := ⟨3, fun x => [.int .i64 x.due, .int .i64 x.seq, .int .i64 x.lefts], fun _ => rfl, by decide, fun x u hu => by
  simp only [List.mem_cons, List.not_mem_nil, or_false] at hu
  rcases hu with rfl | rfl | rfl <;> rfl⟩
theorem twR_k : twR.k = 3 := rfl

theorem Try.infoTw : (Try.prog.info? 98).map (fun i => (i.zero, i.size, i.bytes)) = some (some (.agg #[.int .i64 0, .int .i64 0, .int .i64 0]), 3, 24) := by kernel_rfl

theorem twSlice : SliceOf Try.prog 27 98 twR.k 24 := SliceOf.of Try.underlying27 Try.infoTw rfl

/-- Field j of an element, as the walk spells it. -/
theorem fieldAt_eq (ad : Addr) (n j : Nat) (hj : 0 < j) : ad.add (n + j) = ⟨(ad.add n).block, (ad.add n).off + j, none⟩ := by
  rw [← add_add_]
  show (ad.add n).add j = _
  generalize ad.add n = a
  unfold Addr.add
  rw [if_neg (by omega)]
/-- What the walk wants to know of element k. -/
theorem RdR.tw {w : World} {B : Nat} {A : Option Addr} {xs : List Tw} {k : Nat} (h : RdR twR w B A xs) (hk : k < xs.length) :
    ∃ ad, A = some ad ∧ ad.block < B ∧ w.cell? (ad.add (k * 3)) = some (.int .i64 xs[k].due) ∧ w.cell? ⟨(ad.add (k * 3)).block, (ad.add (k * 3)).off + 1, none⟩ = some (.int .i64 xs[k].seq) ∧ w.cell? ⟨(ad.add (k * 3)).block, (ad.add (k * 3)).off + 2, none⟩ = some (.int .i64 xs[k].lefts) := by
  obtain ⟨ad, e, hb, hc⟩ := h.at_ hk
  refine ⟨ad, e, hb, hc 0 _ rfl, ?_, ?_⟩
  · rw [← fieldAt_eq _ _ _ (by decide)]; exact hc 1 _ rfl
  · rw [← fieldAt_eq _ _ _ (by decide)]; exact hc 2 _ rfl

/-- The same of the first element. -/
theorem RdR.head {w : World} {B : Nat} {A : Option Addr} {x : Tw} {r : List Tw} (h : RdR twR w B A (x :: r)) :
    ∃ ad, A = some ad ∧ ad.block < B ∧ w.cell? ad = some (.int .i64 x.due) ∧ w.cell? ⟨ad.block, ad.off + 1, none⟩ = some (.int .i64 x.seq) ∧ w.cell? ⟨ad.block, ad.off + 2, none⟩ = some (.int .i64 x.lefts) := by
  obtain ⟨ad, e, hb, c0, c1, c2⟩ := h.tw (k := 0) (by simp)
  have e0 : ad.add (0 * 3) = ad := rfl
  rw [e0] at c0 c1 c2
  exact ⟨ad, e, hb, c0, c1, c2⟩

set_option maxHeartbeats 400000 in
theorem toTwig_any (d s l : Int) (w : World) :
    Calls Try.prog 90 #[.agg #[.int .i64 d, .int .i64 s, .int .i64 l]] w fun e w' => e = .returned (.agg #[.int .i64 d, .int .i64 s, .int .i64 l]) ∧ Kept 0 0 w w' := by
  go_enter Try.func90, Try.ntmps90
  go_wp2
  exact bodyPost_ret (v := .agg #[.int .i64 d, .int .i64 s, .int .i64 l]) (by simp [results, Try.results90, go_sem]) rfl ⟨rfl, ((Kept.alloc0 _ _).alloc _).alloc _⟩

/-- What a copy in the making holds behind k rounds. -/
def twPart (xs : List Tw) (k : Nat) : List Tw := xs.take k ++ List.replicate (xs.length - k) ⟨0, 0, 0⟩
theorem twPart_zero (xs : List Tw) : twPart xs 0 = List.replicate xs.length ⟨0, 0, 0⟩ := by simp [twPart]
theorem twPart_all (xs : List Tw) (k : Nat) (h : xs.length ≤ k) : twPart xs k = xs := by
  simp [twPart, List.take_of_length_le h, Nat.sub_eq_zero_of_le h]
theorem twPart_len (xs : List Tw) (k : Nat) (h : k ≤ xs.length) : (twPart xs k).length = xs.length := by simp [twPart]; omega
theorem twPart_succ (xs : List Tw) (k : Nat) (h : k < xs.length) : (twPart xs k).set k xs[k] = twPart xs (k + 1) := by
  unfold twPart
  have e : xs.length - k = (xs.length - (k + 1)) + 1 := by omega
  rw [List.set_append_right _ _ (by simp; omega)]
  simp only [List.length_take, Nat.min_eq_left (Nat.le_of_lt h), Nat.sub_self]
  rw [e, List.replicate_succ, List.set_cons_zero, List.take_succ_eq_append_getElem h, List.append_assoc]
  rfl
theorem twPart_at (xs : List Tw) (k : Nat) (h : k < xs.length) : (twPart xs k)[k]'(by rw [twPart_len xs k (Nat.le_of_lt h)]; exact h) = ⟨0, 0, 0⟩ := by
  unfold twPart
  rw [List.getElem_append_right (by simp; omega)]
  simp

/-- The three stores of one element. -/
theorem own_put {w : World} {base e n c g : Nat} {xs : List Tw} (h : w.ownsRow base e 3 (.slice (some ⟨g, 0, none⟩) n c) n (twR.flat xs)) {i : Nat} (hi : i < xs.length) (x : Tw) :
    (((w.setCell ⟨g, i * 3, none⟩ (.int .i64 x.due)).setCell ⟨g, i * 3 + 1, none⟩ (.int .i64 x.seq)).setCell ⟨g, i * 3 + 2, none⟩ (.int .i64 x.lefts)).ownsRow base e 3 (.slice (some ⟨g, 0, none⟩) n c) n (twR.flat (xs.set i x)) := by
  have h1 := ((h.stored (i * 3) (.int .i64 x.due)).1.stored (i * 3 + 1) (.int .i64 x.seq)).1.stored (i * 3 + 2) (.int .i64 x.lefts) |>.1
  have hl : (twR.flat xs).length = xs.length * 3 := twR.flat_len xs
  have e1 : (((twR.flat xs).set (i * 3) (.int .i64 x.due)).set (i * 3 + 1) (.int .i64 x.seq)).set (i * 3 + 2) (.int .i64 x.lefts) = twR.flat (xs.set i x) := by
    rw [← twR.flat_set xs i x hi]
    rw [← putAt_nil ((((twR.flat xs).set (i * 3) (.int .i64 x.due)).set (i * 3 + 1) (.int .i64 x.seq)).set (i * 3 + 2) (.int .i64 x.lefts)) (i * 3 + 2 + 1)]
    rw [putAt_cons _ _ _ _ (by simp; omega), putAt_cons _ _ _ _ (by simp; omega), putAt_cons _ _ _ _ (by omega)]
    rfl
  rw [e1] at h1
  exact h1

set_option maxHeartbeats 800000 in
theorem toTwS_any (xs : List Tw) (A : Option Addr) (c : Nat) (w : World) (h : RdR twR w w.heap.size A xs) (hn : xs.length ≤ 1048576) :
    Calls Try.prog 63 #[.slice A xs.length c] w fun e w' => ∃ (B : Option Addr) (b : Nat), e = .returned (.slice B xs.length b) ∧
      OwnZ w' w.heap.size w'.heap.size 98 3 B xs.length b (twR.flat xs) ∧ Kept 0 0 w w' := by
  obtain ⟨i0, hi, hz0, hz1, hz2⟩ := info_parts Try.infoTw
  have H := Lib.hid h
  clear h
  go_enter Try.func63, Try.ntmps63
  go_wp2_with (refine wpList_make_full _ rfl _ _ 27 rfl w.heap.size 98 i0 (.agg #[.int .i64 0, .int .i64 0, .int .i64 0]) 3 Try.underlying27 hi hz0 hz1 _ _ _ _ xs.length rfl rfl rfl rfl (by rw [hz2]; omega) (by unfold maxLen; omega) (Nat.le_refl _) ?_; intro w1 hown hg)
  have hown1 : w1.ownsRow w.heap.size 98 3 (.slice (some ⟨w.heap.size, 0, none⟩) xs.length xs.length) xs.length (twR.flat (twPart xs 0)) := by
    rw [twPart_zero, ← twR.made]; exact hown
  have HO := Lib.hid hown1
  have HK := Lib.hid (Kept.of_below (Below.of_grown_none hg) 0 0)
  clear hown hg hown1 hi hz0 hz1 hz2
  go_loopw [4] (fun i wr => ∃ k : Nat, k ≤ xs.length ∧ i = .int .i64 k ∧ Hid (wr.ownsRow w.heap.size 98 3 (.slice (some ⟨w.heap.size, 0, none⟩) xs.length xs.length) xs.length (twR.flat (twPart xs k))) ∧ Hid (Kept 0 0 w wr)) (fun i _ => xs.length - (intOf i).toNat)
  case atStart => exact ⟨0, Nat.zero_le _, rfl, HO, HK⟩
  case round =>
    clear HO HK
    obtain ⟨k, hk, rfl, HO, HK⟩ := hrel
    by_cases hlt : k < xs.length
    · obtain ⟨ad, rfl, _, c0, c1, c2⟩ := (H.out.kept (Nat.le_refl _) HK.out (.inl (Nat.le_refl _))).tw hlt
      go_wp2_with fail
      with_reducible refine (toTwig_any _ _ _ _).mono ?_
      rintro e w2 ⟨rfl, hk2⟩
      have HO2 := Lib.hid (row_kept HO.out hk2)
      have HK2 := Lib.hid (HK.out.trans hk2)
      clear hk2 c0 c1 c2 HO HK
      have hpl : k < (twPart xs k).length := by rw [twPart_len xs k hk]; exact hlt
      have c0 : w2.cell? ⟨w.heap.size, k * 3, none⟩ = some (.int .i64 0) := own_at (R := twR) HO2.out hpl 0 (by rw [twPart_at xs k hlt]; rfl)
      have c1 : w2.cell? ⟨w.heap.size, k * 3 + 1, none⟩ = some (.int .i64 0) := own_at (R := twR) HO2.out hpl 1 (by rw [twPart_at xs k hlt]; rfl)
      have c2 : w2.cell? ⟨w.heap.size, k * 3 + 2, none⟩ = some (.int .i64 0) := own_at (R := twR) HO2.out hpl 2 (by rw [twPart_at xs k hlt]; rfl)
      have f0 : w2.frozen? ⟨w.heap.size, k * 3, none⟩ = false := HO2.out.frozenAt _
      have f1 : w2.frozen? ⟨w.heap.size, k * 3 + 1, none⟩ = false := HO2.out.frozenAt _
      have f2 : w2.frozen? ⟨w.heap.size, k * 3 + 2, none⟩ = false := HO2.out.frozenAt _
      have HP := Lib.hid hpl
      clear hpl
      go_wp2
      go_roundw
      case rel => exact ⟨k + 1, by omega, by go_num, Lib.hid (by rw [← twPart_succ _ _ hlt]; exact own_put HO2.out HP.out xs[k]), Lib.hid (((HK2.out.setCell (.inl (by simp)) _).setCell (.inl (by simp)) _).setCell (.inl (by simp)) _)⟩
      case measure => simp [intOf]; omega
    · go_wp2
      go_ret
      refine ⟨_, _, rfl, OwnZ.mk_ (by have := HO.out; rw [twPart_all xs k (by omega)] at this; exact this) (HO.out.lt _ rfl).2, HK.out⟩

theorem Tw.ext_iff' {a b : Tw} : a = b ↔ a.due = b.due ∧ a.seq = b.seq ∧ a.lefts = b.lefts := by cases a; cases b; simp
set_option maxHeartbeats 400000 in
theorem eqTw_any (a b : Tw) (w : World) :
    Calls Try.prog 92 #[.agg #[.int .i64 a.due, .int .i64 a.seq, .int .i64 a.lefts], .agg #[.int .i64 b.due, .int .i64 b.seq, .int .i64 b.lefts]] w fun e w' => e = .returned (.bool (decide (a = b))) ∧ Kept 0 0 w w' := by
  cases g1 : (a.due != b.due)
  · cases g2 : (a.seq != b.seq)
    · cases g3 : (a.lefts != b.lefts)
      · have E : Hid (decide (a = b) = true) := decide_eq_true (Tw.ext_iff'.2 ⟨by simpa using g1, by simpa using g2, by simpa using g3⟩)
        go_enter Try.func92, Try.ntmps92
        go_wp2
        go_ret
        exact ⟨ret_bool E.out.symm, ((Kept.alloc0 _ _).alloc _)⟩
      · have E : Hid (decide (a = b) = false) := decide_eq_false (fun h => by rw [h] at g3; simp at g3)
        go_enter Try.func92, Try.ntmps92
        go_wp2
        go_ret
        exact ⟨ret_bool E.out.symm, ((Kept.alloc0 _ _).alloc _)⟩
    · have E : Hid (decide (a = b) = false) := decide_eq_false (fun h => by rw [h] at g2; simp at g2)
      go_enter Try.func92, Try.ntmps92
      go_wp2
      go_ret
      exact ⟨ret_bool E.out.symm, ((Kept.alloc0 _ _).alloc _)⟩
  · have E : Hid (decide (a = b) = false) := decide_eq_false (fun h => by rw [h] at g1; simp at g1)
    go_enter Try.func92, Try.ntmps92
    go_wp2
    go_ret
    exact ⟨ret_bool E.out.symm, ((Kept.alloc0 _ _).alloc _)⟩

set_option maxHeartbeats 800000 in
theorem eqTwS_any (xs ys : List Tw) (A A' : Option Addr) (c c' B B' : Nat) (w : World) (hB : B ≤ w.heap.size) (hB' : B' ≤ w.heap.size) (h : RdR twR w B A xs) (h' : RdR twR w B' A' ys) :
    Calls Try.prog 65 #[.slice A xs.length c, .slice A' ys.length c'] w fun e w' => e = .returned (.bool (decide (xs = ys))) ∧ Kept 0 0 w w' := by
  have hx := h.1
  have hy := h'.1
  unfold maxLen at hx hy
  have H := Lib.hid h
  have H' := Lib.hid h'
  clear h h'
  by_cases hl : xs.length = ys.length
  · have hb : (((xs.length : Int)) != ((ys.length : Int))) = false := by simp [hl]
    have HL := Lib.hid hl
    clear hl
    go_enter Try.func65, Try.ntmps65
    go_wp2
    go_loopw [5] (fun i wr => ∃ k : Nat, k ≤ xs.length ∧ i = .int .i64 k ∧ Hid (xs.take k = ys.take k) ∧ Hid (Kept 0 0 w wr)) (fun i _ => xs.length - (intOf i).toNat)
    case atStart => exact ⟨0, Nat.zero_le _, rfl, Lib.hid rfl, Lib.hid (Kept.refl _ _ _)⟩
    case round =>
      obtain ⟨k, hk, rfl, HT, HK⟩ := hrel
      by_cases hlt : k < xs.length
      · have hlt' : k < ys.length := by have := HL.out; omega
        obtain ⟨ad, rfl, _, c0, c1, c2⟩ := (H.out.kept hB HK.out (.inl (Nat.le_refl _))).tw hlt
        obtain ⟨ad', rfl, _, d0, d1, d2⟩ := (H'.out.kept hB' HK.out (.inl (Nat.le_refl _))).tw hlt'
        have k0 := cell_regrown c0
        have k1 := cell_regrown c1
        have k2 := cell_regrown c2
        have k3 := cell_regrown d0
        have k4 := cell_regrown d1
        have k5 := cell_regrown d2
        clear c0 c1 c2 d0 d1 d2
        have i1 : (k : Int) < (xs.length : Int) := by omega
        have i2 : (k : Int) < (ys.length : Int) := by omega
        have CO := Lib.hid (fun d os => regrown_call (eqTw_any xs[k] ys[k] (grow (redrawn wr d) os)))
        go_wp2_with fail
        by_cases he : xs[k] = ys[k]
        · rw [decide_eq_true he] at CO
          have HT' := Lib.hid (take_eq_succ HT.out hlt hlt' he)
          clear he HT
          refine wp_region_quiet_below (by kernel_rfl) (by kernel_rfl) ?_
          repeat (first | go_big_quiet_step (exact CO.out _ _) | quiet_step (exact CO.out _ _))
          refine wpQuiet_nil ?_
          intro _ hw'
          obtain ⟨⟨dq, osq⟩, hw''⟩ := hw'
          subst hw''
          clear k0 k1 k2 k3 k4 k5 CO
          go_wp2
          go_roundw
          case rel => exact ⟨k + 1, by omega, by go_num, HT', Lib.hid (HK.out.trans (Kept.regrown _ _ _))⟩
          case measure => simp [intOf]; omega
        · rw [decide_eq_false he] at CO
          have HE := Lib.hid (ne_of_at hlt hlt' he)
          clear he HT
          refine wp_region_quiet_below (by kernel_rfl) (by kernel_rfl) ?_
          repeat (first | go_big_quiet_step (exact CO.out _ _) | quiet_step (exact CO.out _ _))
          refine wpQuiet_nil ?_
          intro _ hw'
          obtain ⟨⟨dq, osq⟩, hw''⟩ := hw'
          subst hw''
          clear k0 k1 k2 k3 k4 k5 CO
          go_wp2
          go_ret
          exact ⟨ret_bool (decide_eq_false HE.out).symm, HK.out.trans (Kept.regrown _ _ _)⟩
      · go_wp2
        go_ret
        exact ⟨ret_bool (decide_eq_true (take_eq_all HT.out (by omega) (by have := HL.out; omega))).symm, HK.out⟩
  · have hb : (((xs.length : Int)) != ((ys.length : Int))) = true := by simp; omega
    have HL := Lib.hid hl
    clear hl
    go_enter Try.func65, Try.ntmps65
    go_wp2
    go_ret
    exact ⟨ret_bool (decide_eq_false (fun he => HL.out (by rw [he]))).symm, Kept.refl _ _ _⟩

/-- What is left of a budget behind n elements; -1 once it is spent. -/
def szF (left : Int) (n : Nat) : Int := if left - n < 0 then -1 else left - n
theorem szF_neg {left : Int} {n : Nat} (h : left - n < 0) : szF left n = -1 := by rw [szF, if_pos h]
theorem szF_pos {left : Int} {n : Nat} (h : ¬ left - n < 0) : szF left n = left - n := by rw [szF, if_neg h]
set_option maxHeartbeats 400000 in
theorem szTwS_any (A : Option Addr) (n c : Nat) (left : Int) (w : World) (h0 : 0 ≤ left) (h1 : left ≤ 1048576) (hn : n ≤ maxLen) :
    Calls Try.prog 58 #[.slice A n c, .int .i64 left] w fun e w' => e = .returned (.int .i64 (szF left n)) ∧ w = w' := by
  unfold maxLen at hn
  by_cases hl : left - n < 0
  · have H := Lib.hid hl
    go_enter Try.func58, Try.ntmps58
    go_wp2
    go_ret
    exact ⟨ret_int (szF_neg (by have := H.out; omega)).symm, rfl⟩
  · have H := Lib.hid hl
    go_enter Try.func58, Try.ntmps58
    go_wp2
    go_ret
    exact ⟨ret_int (szF_pos (by have := H.out; omega)).symm, rfl⟩

/-- What the marks write: k, k+1, .. -/
def twMark (k : Int) (i : Nat) : Tw := ⟨k + 3 * i, k + 3 * i + 1, k + 3 * i + 2⟩
def marksT (k : Int) (n : Nat) : List Tw := (List.range n).map (twMark k)
theorem marksT_len (k : Int) (n : Nat) : (marksT k n).length = n := by simp [marksT]
theorem marksT_at (k : Int) (n i : Nat) (h : i < (marksT k n).length) : (marksT k n)[i] = twMark k i := by simp [marksT]

set_option maxHeartbeats 800000 in
theorem heldTwS_any (k : Int) (n : Nat) (A : Option Addr) (c B : Nat) (w : World) (h : RdR twR w B A (marksT k n)) (hk0 : 0 ≤ k) (hk : k ≤ 4000000) (hn : n ≤ 1048576) :
    Calls Try.prog 70 #[.slice A n c, .int .i64 k] w fun e w' => e = .returned (.int .i64 (k + 3 * (n : Int))) ∧ w = w' := by
  have H := Lib.hid h
  clear h
  go_enter Try.func70, Try.ntmps70
  go_wp2
  go_loop [1, 5] (fun q i => ∃ j : Nat, j ≤ n ∧ i = .int .i64 j ∧ q = .int .i64 (k + 3 * (j : Int))) (fun _ i => n - (intOf i).toNat)
  case atStart => exact ⟨0, Nat.zero_le _, rfl, by go_num⟩
  case round =>
    obtain ⟨j, hj, rfl, rfl⟩ := hrel
    by_cases hlt : j < n
    · have hm : j < (marksT k n).length := by rw [marksT_len]; exact hlt
      obtain ⟨ad, rfl, _, c0, c1, c2⟩ := H.out.tw hm
      rw [marksT_at] at c0 c1 c2
      simp only [twMark] at c0 c1 c2
      go_wp2
      go_round
      case rel => exact ⟨j + 1, by omega, by go_num, by rw [show k + 3 * ((j + 1 : Nat) : Int) = k + 3 * (j : Int) + 1 + 1 + 1 from by omega]⟩
      case measure => simp [intOf]; omega
    · go_wp2
      go_ret
      exact ⟨ret_int (by omega), rfl⟩

/-- The first j elements of a row marked. -/
def twMarked (k : Int) (ys : List Tw) (j : Nat) : List Tw := marksT k j ++ ys.drop j
theorem twMarked_zero (k : Int) (ys : List Tw) : twMarked k ys 0 = ys := by simp [twMarked, marksT]
theorem twMarked_len (k : Int) (ys : List Tw) (j : Nat) (h : j ≤ ys.length) : (twMarked k ys j).length = ys.length := by simp [twMarked, marksT_len]; omega
theorem twMarked_all (k : Int) (ys : List Tw) : twMarked k ys ys.length = marksT k ys.length := by simp [twMarked]
theorem twMarked_at (k : Int) (ys : List Tw) (j : Nat) (h : j < ys.length) : (twMarked k ys j)[j]'(by rw [twMarked_len k ys j (Nat.le_of_lt h)]; exact h) = ys[j] := by
  unfold twMarked
  rw [List.getElem_append_right (by rw [marksT_len]; exact Nat.le_refl _)]
  simp [marksT_len]
theorem twMarked_succ (k : Int) (ys : List Tw) (j : Nat) (h : j < ys.length) : (twMarked k ys j).set j (twMark k j) = twMarked k ys (j + 1) := by
  unfold twMarked
  rw [List.set_append_right _ _ (by rw [marksT_len]; exact Nat.le_refl _), marksT_len, Nat.sub_self, List.drop_eq_getElem_cons h, List.set_cons_zero]
  simp [marksT, List.range_succ]

set_option maxHeartbeats 800000 in
theorem markTwS_any (k : Int) (ys : List Tw) (g cap base : Nat) (w : World) (h : w.ownsRow base 98 3 (.slice (some ⟨g, 0, none⟩) ys.length cap) ys.length (twR.flat ys)) (hk0 : 0 ≤ k) (hk : k ≤ 4000000) (hn : ys.length ≤ 1048576) :
    Calls Try.prog 68 #[.slice (some ⟨g, 0, none⟩) ys.length cap, .int .i64 k] w fun e w' => e = .returned (.int .i64 (k + 3 * (ys.length : Int))) ∧
      w'.ownsRow base 98 3 (.slice (some ⟨g, 0, none⟩) ys.length cap) ys.length (twR.flat (marksT k ys.length)) ∧ Kept g (g + 1) w w' := by
  have HO : Hid (w.ownsRow base 98 3 (.slice (some ⟨g, 0, none⟩) ys.length cap) ys.length (twR.flat (twMarked k ys 0))) := by rw [twMarked_zero]; exact h
  clear h
  go_enter Try.func68, Try.ntmps68
  go_wp2
  go_loopw [1, 5] (fun q i wr => ∃ j : Nat, j ≤ ys.length ∧ i = .int .i64 j ∧ q = .int .i64 (k + 3 * (j : Int)) ∧ Hid (wr.ownsRow base 98 3 (.slice (some ⟨g, 0, none⟩) ys.length cap) ys.length (twR.flat (twMarked k ys j))) ∧ Hid (Kept g (g + 1) w wr)) (fun _ i _ => ys.length - (intOf i).toNat)
  case atStart => exact ⟨0, Nat.zero_le _, rfl, by go_num, HO, Lib.hid (Kept.refl _ _ _)⟩
  case round =>
    clear HO
    obtain ⟨j, hj, rfl, rfl, HO, HK⟩ := hrel
    by_cases hlt : j < ys.length
    · have hpl : j < (twMarked k ys j).length := by rw [twMarked_len k ys j hj]; exact hlt
      have hat := twMarked_at k ys j hlt
      have c0 : wr.cell? ⟨g, j * 3, none⟩ = some (.int .i64 ys[j].due) := own_at (R := twR) HO.out hpl 0 (by rw [hat]; rfl)
      have c1 : wr.cell? ⟨g, j * 3 + 1, none⟩ = some (.int .i64 ys[j].seq) := own_at (R := twR) HO.out hpl 1 (by rw [hat]; rfl)
      have c2 : wr.cell? ⟨g, j * 3 + 2, none⟩ = some (.int .i64 ys[j].lefts) := own_at (R := twR) HO.out hpl 2 (by rw [hat]; rfl)
      have f0 : wr.frozen? ⟨g, j * 3, none⟩ = false := HO.out.frozenAt _
      have f1 : wr.frozen? ⟨g, j * 3 + 1, none⟩ = false := HO.out.frozenAt _
      have f2 : wr.frozen? ⟨g, j * 3 + 2, none⟩ = false := HO.out.frozenAt _
      have HP := Lib.hid hpl
      clear hpl hat
      go_wp2
      go_roundw
      case rel =>
        refine ⟨j + 1, by omega, by go_num, by rw [show k + 3 * ((j + 1 : Nat) : Int) = k + 3 * (j : Int) + 1 + 1 + 1 from by omega], Lib.hid ?_, Lib.hid (((HK.out.setCell (.inr ⟨Nat.le_refl _, Nat.lt_succ_self _⟩) _).setCell (.inr ⟨Nat.le_refl _, Nat.lt_succ_self _⟩) _).setCell (.inr ⟨Nat.le_refl _, Nat.lt_succ_self _⟩) _)⟩
        rw [← twMarked_succ k ys j hlt]
        have := own_put HO.out HP.out (twMark k j)
        simpa [twMark, Int.add_assoc] using this
      case measure => simp [intOf]; omega
    · have e : j = ys.length := by omega
      subst e
      go_wp2
      go_ret
      exact ⟨rfl, by rw [← twMarked_all]; exact HO.out, HK.out⟩
theorem markTwS_own (k : Int) (ys : List Tw) (A : Option Addr) (c lo hi : Nat) (w : World) (h : OwnZ w lo hi 98 3 A ys.length c (twR.flat ys)) (hk0 : 0 ≤ k) (hk : k ≤ 4000000) (hn : ys.length ≤ 1048576) :
    Calls Try.prog 68 #[.slice A ys.length c, .int .i64 k] w fun e w' => e = .returned (.int .i64 (k + 3 * (ys.length : Int))) ∧
      OwnZ w' lo hi 98 3 A ys.length c (twR.flat (marksT k ys.length)) ∧ Kept (aLo A) (aHi A) w w' := by
  rcases h.form with ⟨rfl, h0, rfl⟩ | ⟨g, rfl, h1, h2, _⟩
  · rw [h0]
    go_enter Try.func68, Try.ntmps68
    go_wp2
    go_rounds 1
    go_ret
    exact ⟨ret_int (by simp), ⟨by simp [marksT]; exact World.ownsRow_nil _ _ _ _, by simp⟩, Kept.refl _ _ _⟩
  · exact (markTwS_any k ys g c lo w h.1 hk0 hk hn).mono fun e w' ⟨he, ho, hk⟩ => ⟨he, ⟨ho, h.2⟩, hk⟩

/-- The three stores into a box. -/
theorem Blk.set3 {w : World} {g : Nat} {t : TypeId} {a b c : Value} (h : Blk w g t #[a, b, c]) (x y z : Value) : Blk (((w.setCell ⟨g, 0, none⟩ x).setCell ⟨g, 1, none⟩ y).setCell ⟨g, 2, none⟩ z) g t #[x, y, z] := by
  have := ((h.set_ 0 x).set_ 1 y).set_ 2 z
  simpa using this
theorem Kept.set3 {W w : World} {lo hi g : Nat} (h : Kept lo hi W w) (hg : W.heap.size ≤ g ∨ (lo ≤ g ∧ g < hi)) (x y z : Value) : Kept lo hi W (((w.setCell ⟨g, 0, none⟩ x).setCell ⟨g, 1, none⟩ y).setCell ⟨g, 2, none⟩ z) :=
  ((h.setCell hg _).setCell hg _).setCell hg _
end Go.Proofs.Ytigikhdandmpmaa
