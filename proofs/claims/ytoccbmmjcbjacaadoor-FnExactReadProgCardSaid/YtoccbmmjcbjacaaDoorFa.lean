/- Slices of records of the type Ins: how they lie in memory, and the helper functions of the laws over them (size, copy, compare, mark, check marks); no condition beyond what each theorem states. Written by tools/recgen.py. -/
import Derived.Test.YtoccbmmjcbjacaaDoorRc
import Derived.Test.YtoccbmmjcbjacaaDoorFc
namespace Go.Proofs.YtoccbmmjcbjacaaDoor
open Go.RowKit Go.Sort

/-- How a record lies in memory. -/
def nsR : Rec Ins := ⟨3, fun x => [.int .i64 x.op, .int .i64 x.a, .int .i64 x.b], fun _ => rfl, by decide, fun x u hu => by
  simp only [List.mem_cons, List.not_mem_nil, or_false] at hu
  rcases hu with rfl | rfl | rfl <;> rfl⟩
theorem nsR_k : nsR.k = 3 := rfl
theorem Tryd.infoNs : (Tryd.prog.info? 43).map (fun i => (i.zero, i.size, i.bytes)) = some (some (.agg #[.int .i64 0, .int .i64 0, .int .i64 0]), 3, 24) := by kernel_rfl
theorem nsSlice : SliceOf Tryd.prog 24 43 nsR.k 24 := SliceOf.of Tryd.underlying24 Tryd.infoNs rfl
/-- What the walk wants to know of element k. -/
theorem RdR.ns {w : World} {B : Nat} {A : Option Addr} {xs : List Ins} {k : Nat} (h : RdR nsR w B A xs) (hk : k < xs.length) :
    ∃ ad, A = some ad ∧ ad.block < B ∧ w.cell? (ad.add (k * 3)) = some (.int .i64 xs[k].op) ∧ w.cell? ⟨(ad.add (k * 3)).block, (ad.add (k * 3)).off + 1, none⟩ = some (.int .i64 xs[k].a) ∧ w.cell? ⟨(ad.add (k * 3)).block, (ad.add (k * 3)).off + 2, none⟩ = some (.int .i64 xs[k].b) := by
  obtain ⟨ad, e, hb, hc⟩ := h.at_ hk
  refine ⟨ad, e, hb, hc 0 _ rfl, ?_, ?_⟩
  · rw [← fieldAt_eq _ _ _ (by decide)]; exact hc 1 _ rfl
  · rw [← fieldAt_eq _ _ _ (by decide)]; exact hc 2 _ rfl
set_option maxHeartbeats 400000 in
theorem toNs1_any (x : Ins) (w : World) :
    Calls Tryd.prog 35 #[.agg #[.int .i64 x.op, .int .i64 x.a, .int .i64 x.b]] w fun e w' => e = .returned (.agg #[.int .i64 x.op, .int .i64 x.a, .int .i64 x.b]) ∧ Kept 0 0 w w' := by
  go_enter Tryd.func35, Tryd.ntmps35
  go_wp2
  exact bodyPost_ret (v := .agg #[.int .i64 x.op, .int .i64 x.a, .int .i64 x.b]) (by simp [results, Tryd.results35, go_sem]) rfl ⟨rfl, ((Kept.alloc0 _ _).alloc _).alloc _⟩

/-- What a copy in the making holds behind k rounds. -/
def nsPart (xs : List Ins) (k : Nat) : List Ins := xs.take k ++ List.replicate (xs.length - k) ⟨0, 0, 0⟩
theorem nsPart_zero (xs : List Ins) : nsPart xs 0 = List.replicate xs.length ⟨0, 0, 0⟩ := by simp [nsPart]
theorem nsPart_all (xs : List Ins) (k : Nat) (h : xs.length ≤ k) : nsPart xs k = xs := by
  simp [nsPart, List.take_of_length_le h, Nat.sub_eq_zero_of_le h]
theorem nsPart_len (xs : List Ins) (k : Nat) (h : k ≤ xs.length) : (nsPart xs k).length = xs.length := by simp [nsPart]; omega
theorem nsPart_succ (xs : List Ins) (k : Nat) (h : k < xs.length) : (nsPart xs k).set k xs[k] = nsPart xs (k + 1) := by
  unfold nsPart
  have e : xs.length - k = (xs.length - (k + 1)) + 1 := by omega
  rw [List.set_append_right _ _ (by simp; omega)]
  simp only [List.length_take, Nat.min_eq_left (Nat.le_of_lt h), Nat.sub_self]
  rw [e, List.replicate_succ, List.set_cons_zero, List.take_succ_eq_append_getElem h, List.append_assoc]
  rfl
theorem nsPart_at (xs : List Ins) (k : Nat) (h : k < xs.length) : (nsPart xs k)[k]'(by rw [nsPart_len xs k (Nat.le_of_lt h)]; exact h) = ⟨0, 0, 0⟩ := by
  unfold nsPart
  rw [List.getElem_append_right (by simp; omega)]
  simp

/-- The stores of one record. -/
theorem own_putNs {w : World} {base e n c g : Nat} {xs : List Ins} (h : w.ownsRow base e 3 (.slice (some ⟨g, 0, none⟩) n c) n (nsR.flat xs)) {i : Nat} (hi : i < xs.length) (x : Ins) :
    (((w.setCell ⟨g, i * 3, none⟩ (.int .i64 x.op)).setCell ⟨g, i * 3 + 1, none⟩ (.int .i64 x.a)).setCell ⟨g, i * 3 + 2, none⟩ (.int .i64 x.b)).ownsRow base e 3 (.slice (some ⟨g, 0, none⟩) n c) n (nsR.flat (xs.set i x)) := by
  have h1 := (((h.stored (i * 3) (.int .i64 x.op)).1.stored (i * 3 + 1) (.int .i64 x.a)).1.stored (i * 3 + 2) (.int .i64 x.b)).1
  have hl : (nsR.flat xs).length = xs.length * 3 := nsR.flat_len xs
  have e1 : ((((nsR.flat xs).set (i * 3) (.int .i64 x.op)).set (i * 3 + 1) (.int .i64 x.a)).set (i * 3 + 2) (.int .i64 x.b)) = nsR.flat (xs.set i x) := by
    rw [← nsR.flat_set xs i x hi]
    rw [← putAt_nil ((((nsR.flat xs).set (i * 3) (.int .i64 x.op)).set (i * 3 + 1) (.int .i64 x.a)).set (i * 3 + 2) (.int .i64 x.b)) (i * 3 + 2 + 1)]
    rw [putAt_cons _ _ _ _ (by simp; omega), putAt_cons _ _ _ _ (by simp; omega), putAt_cons _ _ _ _ (by omega)]
    rfl
  rw [e1] at h1
  exact h1

set_option maxHeartbeats 800000 in
theorem toNsS_any (xs : List Ins) (A : Option Addr) (c : Nat) (w : World) (h : RdR nsR w w.heap.size A xs) (hn : xs.length ≤ 1048576) :
    Calls Tryd.prog 16 #[.slice A xs.length c] w fun e w' => ∃ (B : Option Addr) (b : Nat), e = .returned (.slice B xs.length b) ∧
      OwnZ w' w.heap.size w'.heap.size 43 3 B xs.length b (nsR.flat xs) ∧ Kept 0 0 w w' := by
  obtain ⟨i0, hi, hz0, hz1, hz2⟩ := info_parts Tryd.infoNs
  have H := Lib.hid h
  clear h
  go_enter Tryd.func16, Tryd.ntmps16
  go_wp2_with (refine wpList_make_full _ rfl _ _ 24 rfl w.heap.size 43 i0 (.agg #[.int .i64 0, .int .i64 0, .int .i64 0]) 3 Tryd.underlying24 hi hz0 hz1 _ _ _ _ xs.length rfl rfl rfl rfl (by rw [hz2]; omega) (by unfold maxLen; omega) (Nat.le_refl _) ?_; intro w1 hown hg)
  have hown1 : w1.ownsRow w.heap.size 43 3 (.slice (some ⟨w.heap.size, 0, none⟩) xs.length xs.length) xs.length (nsR.flat (nsPart xs 0)) := by
    rw [nsPart_zero, ← nsR.made]; exact hown
  have HO := Lib.hid hown1
  have HK := Lib.hid (Kept.of_below (Below.of_grown_none hg) 0 0)
  clear hown hg hown1 hi hz0 hz1 hz2
  go_loopw [4] (fun i wr => ∃ k : Nat, k ≤ xs.length ∧ i = .int .i64 k ∧ Hid (wr.ownsRow w.heap.size 43 3 (.slice (some ⟨w.heap.size, 0, none⟩) xs.length xs.length) xs.length (nsR.flat (nsPart xs k))) ∧ Hid (Kept 0 0 w wr)) (fun i _ => xs.length - (intOf i).toNat)
  case atStart => exact ⟨0, Nat.zero_le _, rfl, HO, HK⟩
  case round =>
    clear HO HK
    obtain ⟨k, hk, rfl, HO, HK⟩ := hrel
    by_cases hlt : k < xs.length
    · obtain ⟨ad, rfl, _, c0, c1, c2⟩ := (H.out.kept (Nat.le_refl _) HK.out (.inl (Nat.le_refl _))).ns hlt
      have i1 : (k : Int) < (xs.length : Int) := by omega
      go_wp2_with fail
      with_reducible refine (toNs1_any xs[k] _).mono ?_
      rintro e w2 ⟨rfl, hk2⟩
      have HO2 := Lib.hid (row_kept HO.out hk2)
      have HK2 := Lib.hid (HK.out.trans hk2)
      clear hk2 c0 c1 c2 HO HK
      have hpl : k < (nsPart xs k).length := by rw [nsPart_len xs k hk]; exact hlt
      have c0 : w2.cell? ⟨w.heap.size, k * 3, none⟩ = some (.int .i64 0) := own_at (R := nsR) HO2.out hpl 0 (by rw [nsPart_at xs k hlt]; rfl)
      have c1 : w2.cell? ⟨w.heap.size, k * 3 + 1, none⟩ = some (.int .i64 0) := own_at (R := nsR) HO2.out hpl 1 (by rw [nsPart_at xs k hlt]; rfl)
      have c2 : w2.cell? ⟨w.heap.size, k * 3 + 2, none⟩ = some (.int .i64 0) := own_at (R := nsR) HO2.out hpl 2 (by rw [nsPart_at xs k hlt]; rfl)
      have f0 : w2.frozen? ⟨w.heap.size, k * 3, none⟩ = false := HO2.out.frozenAt _
      have f1 : w2.frozen? ⟨w.heap.size, k * 3 + 1, none⟩ = false := HO2.out.frozenAt _
      have f2 : w2.frozen? ⟨w.heap.size, k * 3 + 2, none⟩ = false := HO2.out.frozenAt _
      have HP := Lib.hid hpl
      clear hpl
      go_wp2
      go_roundw
      case rel => exact ⟨k + 1, by omega, by go_num, Lib.hid (by rw [← nsPart_succ _ _ hlt]; exact own_putNs HO2.out HP.out xs[k]), Lib.hid (((HK2.out.setCell (.inl (by simp)) _).setCell (.inl (by simp)) _).setCell (.inl (by simp)) _)⟩
      case measure => simp [intOf]; omega
    · go_wp2
      go_ret
      refine ⟨_, _, rfl, OwnZ.mk_ (by have := HO.out; rw [nsPart_all xs k (by omega)] at this; exact this) (HO.out.lt _ rfl).2, HK.out⟩

theorem Ins.ext_iff' {a b : Ins} : a = b ↔ a.op = b.op ∧ a.a = b.a ∧ a.b = b.b := by cases a; cases b; simp
set_option maxHeartbeats 800000 in
theorem eqNs1_any (a b : Ins) (w : World) :
    Calls Tryd.prog 36 #[.agg #[.int .i64 a.op, .int .i64 a.a, .int .i64 a.b], .agg #[.int .i64 b.op, .int .i64 b.a, .int .i64 b.b]] w fun e w' => e = .returned (.bool (decide (a = b))) ∧ Kept 0 0 w w' := by
  cases g0 : (a.op != b.op)
  · skip
    cases g1 : (a.a != b.a)
    · skip
      cases g2 : (a.b != b.b)
      · skip
        have E : Hid (decide (a = b) = true) := decide_eq_true (Ins.ext_iff'.2 ⟨by simpa using g0, by simpa using g1, by simpa using g2⟩)
        go_enter Tryd.func36, Tryd.ntmps36
        go_wp2
        go_ret
        exact ⟨ret_bool E.out.symm, ((Kept.alloc0 _ _).alloc _)⟩
      · have E : Hid (decide (a = b) = false) := decide_eq_false (fun h => by rw [h] at g2; simp at g2)
        go_enter Tryd.func36, Tryd.ntmps36
        go_wp2
        go_ret
        exact ⟨ret_bool E.out.symm, ((Kept.alloc0 _ _).alloc _)⟩
    · have E : Hid (decide (a = b) = false) := decide_eq_false (fun h => by rw [h] at g1; simp at g1)
      go_enter Tryd.func36, Tryd.ntmps36
      go_wp2
      go_ret
      exact ⟨ret_bool E.out.symm, ((Kept.alloc0 _ _).alloc _)⟩
  · have E : Hid (decide (a = b) = false) := decide_eq_false (fun h => by rw [h] at g0; simp at g0)
    go_enter Tryd.func36, Tryd.ntmps36
    go_wp2
    go_ret
    exact ⟨ret_bool E.out.symm, ((Kept.alloc0 _ _).alloc _)⟩

set_option maxHeartbeats 800000 in
theorem eqNsS_any (xs ys : List Ins) (A A' : Option Addr) (c c' B B' : Nat) (w : World) (hB : B ≤ w.heap.size) (hB' : B' ≤ w.heap.size) (h : RdR nsR w B A xs) (h' : RdR nsR w B' A' ys) :
    Calls Tryd.prog 17 #[.slice A xs.length c, .slice A' ys.length c'] w fun e w' => e = .returned (.bool (decide (xs = ys))) ∧ Kept 0 0 w w' := by
  have hx := h.1
  have hy := h'.1
  unfold maxLen at hx hy
  have H := Lib.hid h
  have H' := Lib.hid h'
  clear h h'
  by_cases hl : xs.length = ys.length
  · have hb : (((xs.length : Int)) != ((ys.length : Int))) = false := by simp [hl]
    have HL := Lib.hid hl
    clear hl
    go_enter Tryd.func17, Tryd.ntmps17
    go_wp2
    go_loopw [5] (fun i wr => ∃ k : Nat, k ≤ xs.length ∧ i = .int .i64 k ∧ Hid (xs.take k = ys.take k) ∧ Hid (Kept 0 0 w wr)) (fun i _ => xs.length - (intOf i).toNat)
    case atStart => exact ⟨0, Nat.zero_le _, rfl, Lib.hid rfl, Lib.hid (Kept.refl _ _ _)⟩
    case round =>
      obtain ⟨k, hk, rfl, HT, HK⟩ := hrel
      by_cases hlt : k < xs.length
      · have hlt' : k < ys.length := by have := HL.out; omega
        obtain ⟨ad, rfl, _, c0, c1, c2⟩ := (H.out.kept hB HK.out (.inl (Nat.le_refl _))).ns hlt
        obtain ⟨ad', rfl, _, d0, d1, d2⟩ := (H'.out.kept hB' HK.out (.inl (Nat.le_refl _))).ns hlt'
        have k0 := cell_regrown c0
        have k1 := cell_regrown c1
        have k2 := cell_regrown c2
        have j0 := cell_regrown d0
        have j1 := cell_regrown d1
        have j2 := cell_regrown d2
        clear c0 c1 c2 d0 d1 d2
        have i1 : (k : Int) < (xs.length : Int) := by omega
        have i2 : (k : Int) < (ys.length : Int) := by omega
        have CO := Lib.hid (fun d os => regrown_call (eqNs1_any xs[k] ys[k] (grow (redrawn wr d) os)))
        go_wp2_with fail
        by_cases he : xs[k] = ys[k]
        · rw [decide_eq_true he] at CO
          have HT' := Lib.hid (take_eq_succ HT.out hlt hlt' he)
          clear he HT
          refine wp_region_quiet_below (by kernel_rfl) (by kernel_rfl) ?_
          repeat (first | go_big_quiet_step (exact CO.out _ _) | quiet_step (exact CO.out _ _))
          refine wpQuiet_nil ?_
          intro _ hw'
          obtain ⟨⟨dq, osq⟩, hw''⟩ := hw'
          subst hw''
          clear k0 k1 k2 j0 j1 j2 CO
          go_wp2
          go_roundw
          case rel => exact ⟨k + 1, by omega, by go_num, HT', Lib.hid (HK.out.trans (Kept.regrown _ _ _))⟩
          case measure => simp [intOf]; omega
        · rw [decide_eq_false he] at CO
          have HE := Lib.hid (ne_of_at hlt hlt' he)
          clear he HT
          refine wp_region_quiet_below (by kernel_rfl) (by kernel_rfl) ?_
          repeat (first | go_big_quiet_step (exact CO.out _ _) | quiet_step (exact CO.out _ _))
          refine wpQuiet_nil ?_
          intro _ hw'
          obtain ⟨⟨dq, osq⟩, hw''⟩ := hw'
          subst hw''
          clear k0 k1 k2 j0 j1 j2 CO
          go_wp2
          go_ret
          exact ⟨ret_bool (decide_eq_false HE.out).symm, HK.out.trans (Kept.regrown _ _ _)⟩
      · go_wp2
        go_ret
        exact ⟨ret_bool (decide_eq_true (take_eq_all HT.out (by omega) (by have := HL.out; omega))).symm, HK.out⟩
  · have hb : (((xs.length : Int)) != ((ys.length : Int))) = true := by simp; omega
    have HL := Lib.hid hl
    clear hl
    go_enter Tryd.func17, Tryd.ntmps17
    go_wp2
    go_ret
    exact ⟨ret_bool (decide_eq_false (fun he => HL.out (by rw [he]))).symm, Kept.refl _ _ _⟩

set_option maxHeartbeats 400000 in
theorem szNsS_any (A : Option Addr) (n c : Nat) (left : Int) (w : World) (h0 : 0 ≤ left) (h1 : left ≤ 1048576) (hn : n ≤ maxLen) :
    Calls Tryd.prog 14 #[.slice A n c, .int .i64 left] w fun e w' => e = .returned (.int .i64 (szF left n)) ∧ w = w' := by
  unfold maxLen at hn
  by_cases hl : left - n < 0
  · have H := Lib.hid hl
    go_enter Tryd.func14, Tryd.ntmps14
    go_wp2
    go_ret
    exact ⟨ret_int (szF_neg (by have := H.out; omega)).symm, rfl⟩
  · have H := Lib.hid hl
    go_enter Tryd.func14, Tryd.ntmps14
    go_wp2
    go_ret
    exact ⟨ret_int (szF_pos (by have := H.out; omega)).symm, rfl⟩

/-- What the marks write: k, k+1, .. -/
def nsMark (k : Int) (i : Nat) : Ins := ⟨k + 3 * i, k + 3 * i + 1, k + 3 * i + 1 + 1⟩
def marksNs (k : Int) (n : Nat) : List Ins := (List.range n).map (nsMark k)
theorem marksNs_len (k : Int) (n : Nat) : (marksNs k n).length = n := by simp [marksNs]
theorem marksNs_at (k : Int) (n i : Nat) (h : i < (marksNs k n).length) : (marksNs k n)[i] = nsMark k i := by simp [marksNs]

set_option maxHeartbeats 800000 in
theorem heldNsS_any (k : Int) (n : Nat) (A : Option Addr) (c B : Nat) (w : World) (h : RdR nsR w B A (marksNs k n)) (hk0 : 0 ≤ k) (hk : k ≤ 10000000) (hn : n ≤ 1048576) :
    Calls Tryd.prog 20 #[.slice A n c, .int .i64 k] w fun e w' => e = .returned (.int .i64 (k + 3 * (n : Int))) ∧ w = w' := by
  have H := Lib.hid h
  clear h
  go_enter Tryd.func20, Tryd.ntmps20
  go_wp2
  go_loop [1, 5] (fun q i => ∃ j : Nat, j ≤ n ∧ i = .int .i64 j ∧ q = .int .i64 (k + 3 * (j : Int))) (fun _ i => n - (intOf i).toNat)
  case atStart => exact ⟨0, Nat.zero_le _, rfl, by go_num⟩
  case round =>
    obtain ⟨j, hj, rfl, rfl⟩ := hrel
    by_cases hlt : j < n
    · have hm : j < (marksNs k n).length := by rw [marksNs_len]; exact hlt
      obtain ⟨ad, rfl, _, c0, c1, c2⟩ := H.out.ns hm
      rw [marksNs_at] at c0 c1 c2
      simp only [nsMark] at c0 c1 c2
      have i1 : (j : Int) < (n : Int) := by omega
      go_wp2
      go_round
      case rel => exact ⟨j + 1, by omega, by go_num, by rw [show k + 3 * ((j + 1 : Nat) : Int) = k + 3 * (j : Int) + 1 + 1 + 1 from by omega]⟩
      case measure => simp [intOf]; omega
    · go_wp2
      go_ret
      exact ⟨ret_int (by omega), rfl⟩

/-- The first j records of a row marked. -/
def nsMarked (k : Int) (ys : List Ins) (j : Nat) : List Ins := marksNs k j ++ ys.drop j
theorem nsMarked_zero (k : Int) (ys : List Ins) : nsMarked k ys 0 = ys := by simp [nsMarked, marksNs]
theorem nsMarked_len (k : Int) (ys : List Ins) (j : Nat) (h : j ≤ ys.length) : (nsMarked k ys j).length = ys.length := by simp [nsMarked, marksNs_len]; omega
theorem nsMarked_all (k : Int) (ys : List Ins) : nsMarked k ys ys.length = marksNs k ys.length := by simp [nsMarked]
theorem nsMarked_at (k : Int) (ys : List Ins) (j : Nat) (h : j < ys.length) : (nsMarked k ys j)[j]'(by rw [nsMarked_len k ys j (Nat.le_of_lt h)]; exact h) = ys[j] := by
  unfold nsMarked
  rw [List.getElem_append_right (by rw [marksNs_len]; exact Nat.le_refl _)]
  simp [marksNs_len]
theorem nsMarked_succ (k : Int) (ys : List Ins) (j : Nat) (h : j < ys.length) : (nsMarked k ys j).set j (nsMark k j) = nsMarked k ys (j + 1) := by
  unfold nsMarked
  rw [List.set_append_right _ _ (by rw [marksNs_len]; exact Nat.le_refl _), marksNs_len, Nat.sub_self, List.drop_eq_getElem_cons h, List.set_cons_zero]
  simp [marksNs, List.range_succ]

set_option maxHeartbeats 1600000 in
theorem markNsS_any (k : Int) (ys : List Ins) (g cap base : Nat) (w : World) (h : w.ownsRow base 43 3 (.slice (some ⟨g, 0, none⟩) ys.length cap) ys.length (nsR.flat (ys))) (hk0 : 0 ≤ k) (hk : k ≤ 10000000) (hn : ys.length ≤ 1048576) :
    Calls Tryd.prog 19 #[.slice (some ⟨g, 0, none⟩) ys.length cap, .int .i64 k] w fun e w' => e = .returned (.int .i64 (k + 3 * (ys.length : Int))) ∧
      w'.ownsRow base 43 3 (.slice (some ⟨g, 0, none⟩) ys.length cap) ys.length (nsR.flat (marksNs k ys.length)) ∧ Kept g (g + 1) w w' := by
  have HO : Hid (w.ownsRow base 43 3 (.slice (some ⟨g, 0, none⟩) ys.length cap) ys.length (nsR.flat (nsMarked k ys 0))) := by rw [nsMarked_zero]; exact h
  clear h
  go_enter Tryd.func19, Tryd.ntmps19
  go_wp2
  go_loopw [1, 5] (fun q i wr => ∃ j : Nat, j ≤ ys.length ∧ i = .int .i64 j ∧ q = .int .i64 (k + 3 * (j : Int)) ∧ Hid (wr.ownsRow base 43 3 (.slice (some ⟨g, 0, none⟩) ys.length cap) ys.length (nsR.flat (nsMarked k ys j))) ∧ Hid (Kept g (g + 1) w wr)) (fun _ i _ => ys.length - (intOf i).toNat)
  case atStart => exact ⟨0, Nat.zero_le _, rfl, by go_num, HO, Lib.hid (Kept.refl _ _ _)⟩
  case round =>
    clear HO
    obtain ⟨j, hj, rfl, rfl, HO, HK⟩ := hrel
    by_cases hlt : j < ys.length
    · have hpl : j < (nsMarked k ys j).length := by rw [nsMarked_len k ys j hj]; exact hlt
      have hat := nsMarked_at k ys j hlt
      have c0 : wr.cell? ⟨g, j * 3, none⟩ = some (.int .i64 ys[j].op) := own_at (R := nsR) HO.out hpl 0 (by rw [hat]; rfl)
      have c1 : wr.cell? ⟨g, j * 3 + 1, none⟩ = some (.int .i64 ys[j].a) := own_at (R := nsR) HO.out hpl 1 (by rw [hat]; rfl)
      have c2 : wr.cell? ⟨g, j * 3 + 2, none⟩ = some (.int .i64 ys[j].b) := own_at (R := nsR) HO.out hpl 2 (by rw [hat]; rfl)
      have f0 : wr.frozen? ⟨g, j * 3, none⟩ = false := HO.out.frozenAt _
      have f1 : wr.frozen? ⟨g, j * 3 + 1, none⟩ = false := HO.out.frozenAt _
      have f2 : wr.frozen? ⟨g, j * 3 + 2, none⟩ = false := HO.out.frozenAt _
      have HP := Lib.hid hpl
      have i1 : (j : Int) < (ys.length : Int) := by omega
      clear hpl hat
      go_wp2
      go_roundw
      case rel =>
        refine ⟨j + 1, by omega, by go_num, by rw [show k + 3 * ((j + 1 : Nat) : Int) = k + 3 * (j : Int) + 1 + 1 + 1 from by omega], Lib.hid ?_, Lib.hid (((HK.out.setCell (.inr ⟨Nat.le_refl _, Nat.lt_succ_self _⟩) _).setCell (.inr ⟨Nat.le_refl _, Nat.lt_succ_self _⟩) _).setCell (.inr ⟨Nat.le_refl _, Nat.lt_succ_self _⟩) _)⟩
        rw [← nsMarked_succ k ys j hlt]
        have := own_putNs HO.out HP.out (nsMark k j)
        simpa only [nsMark] using this
      case measure => simp [intOf]; omega
    · have e : j = ys.length := by omega
      subst e
      go_wp2
      go_ret
      exact ⟨rfl, by rw [← nsMarked_all]; exact HO.out, HK.out⟩
theorem markNsS_own (k : Int) (ys : List Ins) (A : Option Addr) (c lo hi : Nat) (w : World) (h : OwnZ w lo hi 43 3 A ys.length c (nsR.flat ys)) (hk0 : 0 ≤ k) (hk : k ≤ 10000000) (hn : ys.length ≤ 1048576) :
    Calls Tryd.prog 19 #[.slice A ys.length c, .int .i64 k] w fun e w' => e = .returned (.int .i64 (k + 3 * (ys.length : Int))) ∧
      OwnZ w' lo hi 43 3 A ys.length c (nsR.flat (marksNs k ys.length)) ∧ Kept (aLo A) (aHi A) w w' := by
  rcases h.form with ⟨rfl, h0, rfl⟩ | ⟨g, rfl, h1, h2, _⟩
  · rw [h0]
    go_enter Tryd.func19, Tryd.ntmps19
    go_wp2
    go_rounds 1
    go_ret
    exact ⟨ret_int (by simp), ⟨by simp [marksNs]; exact World.ownsRow_nil _ _ _ _, by simp⟩, Kept.refl _ _ _⟩
  · exact (markNsS_any k ys g c lo w h.1 hk0 hk hn).mono fun e w' ⟨he, ho, hk⟩ => ⟨he, ⟨ho, h.2⟩, hk⟩

/-- A slice value that reads as xs. -/
def RdNs (w : World) (B : Nat) (v : Value) (xs : List Ins) : Prop := ∃ A c, v = .slice A xs.length c ∧ SL nsR w B A c xs
/-- A slice value of the call's own. -/
def OwnNs (w : World) (lo hi : Nat) (v : Value) (xs : List Ins) : Prop := ∃ D d, v = .slice D xs.length d ∧ OwnZ w lo hi 43 3 D xs.length d (nsR.flat xs)
section
variable {w w' : World} {B B' lo hi lo' hi' : Nat} {v : Value} {xs : List Ins}
theorem RdNs.kept (h : RdNs w B v xs) (hB : B ≤ w.heap.size) (hk : Kept lo hi w w') (hr : hi ≤ lo ∨ B ≤ lo) : RdNs w' B v xs := by
  obtain ⟨A, c, e, h⟩ := h; exact ⟨A, c, e, h.kept hB hk hr⟩
theorem RdNs.wide (h : RdNs w B v xs) (hB : B ≤ B') : RdNs w B' v xs := by
  obtain ⟨A, c, e, h⟩ := h; exact ⟨A, c, e, h.wide hB⟩
theorem RdNs.up (h : RdNs w w.heap.size v xs) (hk : Kept 0 0 w w') : RdNs w' w'.heap.size v xs := (h.kept (Nat.le_refl _) hk (.inl (Nat.le_refl _))).wide hk.size
theorem RdNs.len (h : RdNs w B v xs) : xs.length ≤ maxLen := by obtain ⟨A, c, e, h⟩ := h; exact h.rd.1
theorem OwnNs.kept (h : OwnNs w lo hi v xs) (hk : Kept lo' hi' w w') (hr : hi' ≤ lo' ∨ hi ≤ lo' ∨ hi' ≤ lo) : OwnNs w' lo hi v xs := by
  obtain ⟨A, c, e, h⟩ := h; exact ⟨A, c, e, h.kept hk hr⟩
theorem OwnNs.wide (h : OwnNs w lo hi v xs) (hl : lo' ≤ lo) (hh : hi ≤ hi') : OwnNs w lo' hi' v xs := by
  obtain ⟨A, c, e, h⟩ := h; exact ⟨A, c, e, h.wide hl hh⟩
theorem OwnNs.rd (h : OwnNs w lo hi v xs) : RdNs w hi v xs := by
  obtain ⟨D, d, e, h⟩ := h; exact ⟨D, d, e, (OwnZ.sl (R := nsR) h).2⟩
theorem OwnNs.rdW (h : OwnNs w lo hi v xs) (hh : hi ≤ w.heap.size) : RdNs w w.heap.size v xs := h.rd.wide hh
theorem OwnNs.nil (w : World) (lo hi : Nat) : OwnNs w lo hi (.slice none 0 0) [] := ⟨none, 0, rfl, ⟨⟨rfl, .inl ⟨rfl, rfl⟩⟩, by intro ad h; cases h⟩⟩
end
theorem toNs (xs : List Ins) (v : Value) (w : World) (h : RdNs w w.heap.size v xs) (hn : xs.length ≤ 1048576) :
    Calls Tryd.prog 16 #[v] w fun e w' => ∃ u, e = .returned u ∧ OwnNs w' w.heap.size w'.heap.size u xs ∧ Kept 0 0 w w' := by
  obtain ⟨A, c, rfl, h⟩ := h
  exact (toNsS_any xs A c w h.rd hn).mono fun e w' ⟨D, d, he, ho, hk⟩ => ⟨_, he, ⟨D, d, rfl, ho⟩, hk⟩
theorem eqNs (xs : List Ins) (v v' : Value) (w : World) (h : RdNs w w.heap.size v xs) (h' : RdNs w w.heap.size v' xs) :
    Calls Tryd.prog 17 #[v, v'] w fun e w' => e = .returned (.bool true) ∧ Kept 0 0 w w' := by
  obtain ⟨A, c, rfl, h⟩ := h
  obtain ⟨A', c', rfl, h'⟩ := h'
  exact (eqNsS_any xs xs A A' c c' _ _ w (Nat.le_refl _) (Nat.le_refl _) h.rd h'.rd).mono fun e w' ⟨he, hk⟩ => ⟨by rw [he, decide_eq_true rfl], hk⟩
theorem szNs (xs : List Ins) (v : Value) (left : Int) (w : World) (B : Nat) (h : RdNs w B v xs) (h0 : 0 ≤ left) (h1 : left ≤ 1048576) :
    Calls Tryd.prog 14 #[v, .int .i64 left] w fun e w' => e = .returned (.int .i64 (szF left xs.length)) ∧ w = w' := by
  have hm := h.len
  obtain ⟨A, c, rfl, h⟩ := h
  exact szNsS_any A xs.length c left w h0 h1 hm
theorem markNs (k : Int) (xs : List Ins) (v : Value) (lo hi : Nat) (w : World) (h : OwnNs w lo hi v xs) (hk0 : 0 ≤ k) (hk : k ≤ 10000000) (hn : xs.length ≤ 1048576) :
    Calls Tryd.prog 19 #[v, .int .i64 k] w fun e w' => e = .returned (.int .i64 (k + 3 * (xs.length : Int))) ∧ OwnNs w' lo hi v (marksNs k xs.length) ∧ Kept lo hi w w' := by
  obtain ⟨D, d, rfl, h⟩ := h
  refine (markNsS_own k xs D d lo hi w h hk0 hk hn).mono fun e w' ⟨he, ho, hk'⟩ => ⟨he, ⟨D, d, by rw [marksNs_len], by rw [marksNs_len]; exact ho⟩, hk'.wide ?_⟩
  have := h.range
  omega
theorem heldNs (k : Int) (n : Nat) (v : Value) (w : World) (B : Nat) (h : RdNs w B v (marksNs k n)) (hk0 : 0 ≤ k) (hk : k ≤ 10000000) (hn : n ≤ 1048576) :
    Calls Tryd.prog 20 #[v, .int .i64 k] w fun e w' => e = .returned (.int .i64 (k + 3 * (n : Int))) ∧ w = w' := by
  obtain ⟨A, c, rfl, h⟩ := h
  rw [marksNs_len]
  exact heldNsS_any k n A c B w h.rd hk0 hk hn
end Go.Proofs.YtoccbmmjcbjacaaDoor
