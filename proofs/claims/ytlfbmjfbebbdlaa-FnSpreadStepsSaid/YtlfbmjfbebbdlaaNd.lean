/- Slices of records of the type Node: how they lie in memory, and the helper functions of the laws over them (size, copy, compare, mark, check marks); no condition beyond what each theorem states. Written by tools/recgen.py. -/
import Derived.Test.YtlfbmjfbebbdlaaRc
namespace Go.Proofs.Ytlfbmjfbebbdlaa
open Go.RowKit Go.Sort

structure Nd where
  kind : Int
  up : Int
  due : Int
  key : Int
  value : Int
deriving DecidableEq
/-- How a record lies in memory. -/
def ndR : Rec Nd := ⟨5, fun x => [.int .i64 x.kind, .int .i64 x.up, .int .i64 x.due, .int .i64 x.key, .int .i64 x.value], fun _ => rfl, by decide, fun x u hu => by
  simp only [List.mem_cons, List.not_mem_nil, or_false] at hu
  rcases hu with rfl | rfl | rfl | rfl | rfl <;> rfl⟩
theorem ndR_k : ndR.k = 5 := rfl
theorem Try.infoNd : (Try.prog.info? 59).map (fun i => (i.zero, i.size, i.bytes)) = some (some (.agg #[.int .i64 0, .int .i64 0, .int .i64 0, .int .i64 0, .int .i64 0]), 5, 40) := by kernel_rfl
theorem ndSlice : SliceOf Try.prog 24 59 ndR.k 40 := SliceOf.of Try.underlying24 Try.infoNd rfl
/-- What the walk wants to know of element k. -/
theorem RdR.nd {w : World} {B : Nat} {A : Option Addr} {xs : List Nd} {k : Nat} (h : RdR ndR w B A xs) (hk : k < xs.length) :
    ∃ ad, A = some ad ∧ ad.block < B ∧ w.cell? (ad.add (k * 5)) = some (.int .i64 xs[k].kind) ∧ w.cell? ⟨(ad.add (k * 5)).block, (ad.add (k * 5)).off + 1, none⟩ = some (.int .i64 xs[k].up) ∧ w.cell? ⟨(ad.add (k * 5)).block, (ad.add (k * 5)).off + 2, none⟩ = some (.int .i64 xs[k].due) ∧ w.cell? ⟨(ad.add (k * 5)).block, (ad.add (k * 5)).off + 3, none⟩ = some (.int .i64 xs[k].key) ∧ w.cell? ⟨(ad.add (k * 5)).block, (ad.add (k * 5)).off + 4, none⟩ = some (.int .i64 xs[k].value) := by
  obtain ⟨ad, e, hb, hc⟩ := h.at_ hk
  refine ⟨ad, e, hb, hc 0 _ rfl, ?_, ?_, ?_, ?_⟩
  · rw [← fieldAt_eq _ _ _ (by decide)]; exact hc 1 _ rfl
  · rw [← fieldAt_eq _ _ _ (by decide)]; exact hc 2 _ rfl
  · rw [← fieldAt_eq _ _ _ (by decide)]; exact hc 3 _ rfl
  · rw [← fieldAt_eq _ _ _ (by decide)]; exact hc 4 _ rfl
set_option maxHeartbeats 400000 in
theorem toNd1_any (x : Nd) (w : World) :
    Calls Try.prog 48 #[.agg #[.int .i64 x.kind, .int .i64 x.up, .int .i64 x.due, .int .i64 x.key, .int .i64 x.value]] w fun e w' => e = .returned (.agg #[.int .i64 x.kind, .int .i64 x.up, .int .i64 x.due, .int .i64 x.key, .int .i64 x.value]) ∧ Kept 0 0 w w' := by
  go_enter Try.func48, Try.ntmps48
  go_wp2
  exact bodyPost_ret (v := .agg #[.int .i64 x.kind, .int .i64 x.up, .int .i64 x.due, .int .i64 x.key, .int .i64 x.value]) (by simp [results, Try.results48, go_sem]) rfl ⟨rfl, ((Kept.alloc0 _ _).alloc _).alloc _⟩

/-- What a copy in the making holds behind k rounds. -/
def ndPart (xs : List Nd) (k : Nat) : List Nd := xs.take k ++ List.replicate (xs.length - k) ⟨0, 0, 0, 0, 0⟩
theorem ndPart_zero (xs : List Nd) : ndPart xs 0 = List.replicate xs.length ⟨0, 0, 0, 0, 0⟩ := by simp [ndPart]
theorem ndPart_all (xs : List Nd) (k : Nat) (h : xs.length ≤ k) : ndPart xs k = xs := by
  simp [ndPart, List.take_of_length_le h, Nat.sub_eq_zero_of_le h]
theorem ndPart_len (xs : List Nd) (k : Nat) (h : k ≤ xs.length) : (ndPart xs k).length = xs.length := by simp [ndPart]; omega
theorem ndPart_succ (xs : List Nd) (k : Nat) (h : k < xs.length) : (ndPart xs k).set k xs[k] = ndPart xs (k + 1) := by
  unfold ndPart
  have e : xs.length - k = (xs.length - (k + 1)) + 1 := by omega
  rw [List.set_append_right _ _ (by simp; omega)]
  simp only [List.length_take, Nat.min_eq_left (Nat.le_of_lt h), Nat.sub_self]
  rw [e, List.replicate_succ, List.set_cons_zero, List.take_succ_eq_append_getElem h, List.append_assoc]
  rfl
theorem ndPart_at (xs : List Nd) (k : Nat) (h : k < xs.length) : (ndPart xs k)[k]'(by rw [ndPart_len xs k (Nat.le_of_lt h)]; exact h) = ⟨0, 0, 0, 0, 0⟩ := by
  unfold ndPart
  rw [List.getElem_append_right (by simp; omega)]
  simp

/-- The stores of one record. -/
theorem own_putNd {w : World} {base e n c g : Nat} {xs : List Nd} (h : w.ownsRow base e 5 (.slice (some ⟨g, 0, none⟩) n c) n (ndR.flat xs)) {i : Nat} (hi : i < xs.length) (x : Nd) :
    (((((w.setCell ⟨g, i * 5, none⟩ (.int .i64 x.kind)).setCell ⟨g, i * 5 + 1, none⟩ (.int .i64 x.up)).setCell ⟨g, i * 5 + 2, none⟩ (.int .i64 x.due)).setCell ⟨g, i * 5 + 3, none⟩ (.int .i64 x.key)).setCell ⟨g, i * 5 + 4, none⟩ (.int .i64 x.value)).ownsRow base e 5 (.slice (some ⟨g, 0, none⟩) n c) n (ndR.flat (xs.set i x)) := by
  have h1 := (((((h.stored (i * 5) (.int .i64 x.kind)).1.stored (i * 5 + 1) (.int .i64 x.up)).1.stored (i * 5 + 2) (.int .i64 x.due)).1.stored (i * 5 + 3) (.int .i64 x.key)).1.stored (i * 5 + 4) (.int .i64 x.value)).1
  have hl : (ndR.flat xs).length = xs.length * 5 := ndR.flat_len xs
  have e1 : ((((((ndR.flat xs).set (i * 5) (.int .i64 x.kind)).set (i * 5 + 1) (.int .i64 x.up)).set (i * 5 + 2) (.int .i64 x.due)).set (i * 5 + 3) (.int .i64 x.key)).set (i * 5 + 4) (.int .i64 x.value)) = ndR.flat (xs.set i x) := by
    rw [← ndR.flat_set xs i x hi]
    rw [← putAt_nil ((((((ndR.flat xs).set (i * 5) (.int .i64 x.kind)).set (i * 5 + 1) (.int .i64 x.up)).set (i * 5 + 2) (.int .i64 x.due)).set (i * 5 + 3) (.int .i64 x.key)).set (i * 5 + 4) (.int .i64 x.value)) (i * 5 + 4 + 1)]
    rw [putAt_cons _ _ _ _ (by simp; omega), putAt_cons _ _ _ _ (by simp; omega), putAt_cons _ _ _ _ (by simp; omega), putAt_cons _ _ _ _ (by simp; omega), putAt_cons _ _ _ _ (by omega)]
    rfl
  rw [e1] at h1
  exact h1

set_option maxHeartbeats 800000 in
theorem toNdS_any (xs : List Nd) (A : Option Addr) (c : Nat) (w : World) (h : RdR ndR w w.heap.size A xs) (hn : xs.length ≤ 1048576) :
    Calls Try.prog 22 #[.slice A xs.length c] w fun e w' => ∃ (B : Option Addr) (b : Nat), e = .returned (.slice B xs.length b) ∧
      OwnZ w' w.heap.size w'.heap.size 59 5 B xs.length b (ndR.flat xs) ∧ Kept 0 0 w w' := by
  obtain ⟨i0, hi, hz0, hz1, hz2⟩ := info_parts Try.infoNd
  have H := Lib.hid h
  clear h
  go_enter Try.func22, Try.ntmps22
  go_wp2_with (refine wpList_make_full _ rfl _ _ 24 rfl w.heap.size 59 i0 (.agg #[.int .i64 0, .int .i64 0, .int .i64 0, .int .i64 0, .int .i64 0]) 5 Try.underlying24 hi hz0 hz1 _ _ _ _ xs.length rfl rfl rfl rfl (by rw [hz2]; omega) (by unfold maxLen; omega) (Nat.le_refl _) ?_; intro w1 hown hg)
  have hown1 : w1.ownsRow w.heap.size 59 5 (.slice (some ⟨w.heap.size, 0, none⟩) xs.length xs.length) xs.length (ndR.flat (ndPart xs 0)) := by
    rw [ndPart_zero, ← ndR.made]; exact hown
  have HO := Lib.hid hown1
  have HK := Lib.hid (Kept.of_below (Below.of_grown_none hg) 0 0)
  clear hown hg hown1 hi hz0 hz1 hz2
  go_loopw [4] (fun i wr => ∃ k : Nat, k ≤ xs.length ∧ i = .int .i64 k ∧ Hid (wr.ownsRow w.heap.size 59 5 (.slice (some ⟨w.heap.size, 0, none⟩) xs.length xs.length) xs.length (ndR.flat (ndPart xs k))) ∧ Hid (Kept 0 0 w wr)) (fun i _ => xs.length - (intOf i).toNat)
  case atStart => exact ⟨0, Nat.zero_le _, rfl, HO, HK⟩
  case round =>
    clear HO HK
    obtain ⟨k, hk, rfl, HO, HK⟩ := hrel
    by_cases hlt : k < xs.length
    · obtain ⟨ad, rfl, _, c0, c1, c2, c3, c4⟩ := (H.out.kept (Nat.le_refl _) HK.out (.inl (Nat.le_refl _))).nd hlt
      have i1 : (k : Int) < (xs.length : Int) := by omega
      go_wp2_with fail
      with_reducible refine (toNd1_any xs[k] _).mono ?_
      rintro e w2 ⟨rfl, hk2⟩
      have HO2 := Lib.hid (row_kept HO.out hk2)
      have HK2 := Lib.hid (HK.out.trans hk2)
      clear hk2 c0 c1 c2 c3 c4 HO HK
      have hpl : k < (ndPart xs k).length := by rw [ndPart_len xs k hk]; exact hlt
      have c0 : w2.cell? ⟨w.heap.size, k * 5, none⟩ = some (.int .i64 0) := own_at (R := ndR) HO2.out hpl 0 (by rw [ndPart_at xs k hlt]; rfl)
      have c1 : w2.cell? ⟨w.heap.size, k * 5 + 1, none⟩ = some (.int .i64 0) := own_at (R := ndR) HO2.out hpl 1 (by rw [ndPart_at xs k hlt]; rfl)
      have c2 : w2.cell? ⟨w.heap.size, k * 5 + 2, none⟩ = some (.int .i64 0) := own_at (R := ndR) HO2.out hpl 2 (by rw [ndPart_at xs k hlt]; rfl)
      have c3 : w2.cell? ⟨w.heap.size, k * 5 + 3, none⟩ = some (.int .i64 0) := own_at (R := ndR) HO2.out hpl 3 (by rw [ndPart_at xs k hlt]; rfl)
      have c4 : w2.cell? ⟨w.heap.size, k * 5 + 4, none⟩ = some (.int .i64 0) := own_at (R := ndR) HO2.out hpl 4 (by rw [ndPart_at xs k hlt]; rfl)
      have f0 : w2.frozen? ⟨w.heap.size, k * 5, none⟩ = false := HO2.out.frozenAt _
      have f1 : w2.frozen? ⟨w.heap.size, k * 5 + 1, none⟩ = false := HO2.out.frozenAt _
      have f2 : w2.frozen? ⟨w.heap.size, k * 5 + 2, none⟩ = false := HO2.out.frozenAt _
      have f3 : w2.frozen? ⟨w.heap.size, k * 5 + 3, none⟩ = false := HO2.out.frozenAt _
      have f4 : w2.frozen? ⟨w.heap.size, k * 5 + 4, none⟩ = false := HO2.out.frozenAt _
      have HP := Lib.hid hpl
      clear hpl
      go_wp2
      go_roundw
      case rel => exact ⟨k + 1, by omega, by go_num, Lib.hid (by rw [← ndPart_succ _ _ hlt]; exact own_putNd HO2.out HP.out xs[k]), Lib.hid (((((HK2.out.setCell (.inl (by simp)) _).setCell (.inl (by simp)) _).setCell (.inl (by simp)) _).setCell (.inl (by simp)) _).setCell (.inl (by simp)) _)⟩
      case measure => simp [intOf]; omega
    · go_wp2
      go_ret
      refine ⟨_, _, rfl, OwnZ.mk_ (by have := HO.out; rw [ndPart_all xs k (by omega)] at this; exact this) (HO.out.lt _ rfl).2, HK.out⟩

theorem Nd.ext_iff' {a b : Nd} : a = b ↔ a.kind = b.kind ∧ a.up = b.up ∧ a.due = b.due ∧ a.key = b.key ∧ a.value = b.value := by cases a; cases b; simp
set_option maxHeartbeats 800000 in
theorem eqNd1_any (a b : Nd) (w : World) :
    Calls Try.prog 52 #[.agg #[.int .i64 a.kind, .int .i64 a.up, .int .i64 a.due, .int .i64 a.key, .int .i64 a.value], .agg #[.int .i64 b.kind, .int .i64 b.up, .int .i64 b.due, .int .i64 b.key, .int .i64 b.value]] w fun e w' => e = .returned (.bool (decide (a = b))) ∧ Kept 0 0 w w' := by
  cases g0 : (a.kind != b.kind)
  · skip
    cases g1 : (a.up != b.up)
    · skip
      cases g2 : (a.due != b.due)
      · skip
        cases g3 : (a.key != b.key)
        · skip
          cases g4 : (a.value != b.value)
          · skip
            have E : Hid (decide (a = b) = true) := decide_eq_true (Nd.ext_iff'.2 ⟨by simpa using g0, by simpa using g1, by simpa using g2, by simpa using g3, by simpa using g4⟩)
            go_enter Try.func52, Try.ntmps52
            go_wp2
            go_ret
            exact ⟨ret_bool E.out.symm, ((Kept.alloc0 _ _).alloc _)⟩
          · have E : Hid (decide (a = b) = false) := decide_eq_false (fun h => by rw [h] at g4; simp at g4)
            go_enter Try.func52, Try.ntmps52
            go_wp2
            go_ret
            exact ⟨ret_bool E.out.symm, ((Kept.alloc0 _ _).alloc _)⟩
        · have E : Hid (decide (a = b) = false) := decide_eq_false (fun h => by rw [h] at g3; simp at g3)
          go_enter Try.func52, Try.ntmps52
          go_wp2
          go_ret
          exact ⟨ret_bool E.out.symm, ((Kept.alloc0 _ _).alloc _)⟩
      · have E : Hid (decide (a = b) = false) := decide_eq_false (fun h => by rw [h] at g2; simp at g2)
        go_enter Try.func52, Try.ntmps52
        go_wp2
        go_ret
        exact ⟨ret_bool E.out.symm, ((Kept.alloc0 _ _).alloc _)⟩
    · have E : Hid (decide (a = b) = false) := decide_eq_false (fun h => by rw [h] at g1; simp at g1)
      go_enter Try.func52, Try.ntmps52
      go_wp2
      go_ret
      exact ⟨ret_bool E.out.symm, ((Kept.alloc0 _ _).alloc _)⟩
  · have E : Hid (decide (a = b) = false) := decide_eq_false (fun h => by rw [h] at g0; simp at g0)
    go_enter Try.func52, Try.ntmps52
    go_wp2
    go_ret
    exact ⟨ret_bool E.out.symm, ((Kept.alloc0 _ _).alloc _)⟩

set_option maxHeartbeats 800000 in
theorem eqNdS_any (xs ys : List Nd) (A A' : Option Addr) (c c' B B' : Nat) (w : World) (hB : B ≤ w.heap.size) (hB' : B' ≤ w.heap.size) (h : RdR ndR w B A xs) (h' : RdR ndR w B' A' ys) :
    Calls Try.prog 25 #[.slice A xs.length c, .slice A' ys.length c'] w fun e w' => e = .returned (.bool (decide (xs = ys))) ∧ Kept 0 0 w w' := by
  have hx := h.1
  have hy := h'.1
  unfold maxLen at hx hy
  have H := Lib.hid h
  have H' := Lib.hid h'
  clear h h'
  by_cases hl : xs.length = ys.length
  · have hb : (((xs.length : Int)) != ((ys.length : Int))) = false := by simp [hl]
    have HL := Lib.hid hl
    clear hl
    go_enter Try.func25, Try.ntmps25
    go_wp2
    go_loopw [5] (fun i wr => ∃ k : Nat, k ≤ xs.length ∧ i = .int .i64 k ∧ Hid (xs.take k = ys.take k) ∧ Hid (Kept 0 0 w wr)) (fun i _ => xs.length - (intOf i).toNat)
    case atStart => exact ⟨0, Nat.zero_le _, rfl, Lib.hid rfl, Lib.hid (Kept.refl _ _ _)⟩
    case round =>
      obtain ⟨k, hk, rfl, HT, HK⟩ := hrel
      by_cases hlt : k < xs.length
      · have hlt' : k < ys.length := by have := HL.out; omega
        obtain ⟨ad, rfl, _, c0, c1, c2, c3, c4⟩ := (H.out.kept hB HK.out (.inl (Nat.le_refl _))).nd hlt
        obtain ⟨ad', rfl, _, d0, d1, d2, d3, d4⟩ := (H'.out.kept hB' HK.out (.inl (Nat.le_refl _))).nd hlt'
        have k0 := cell_regrown c0
        have k1 := cell_regrown c1
        have k2 := cell_regrown c2
        have k3 := cell_regrown c3
        have k4 := cell_regrown c4
        have j0 := cell_regrown d0
        have j1 := cell_regrown d1
        have j2 := cell_regrown d2
        have j3 := cell_regrown d3
        have j4 := cell_regrown d4
        clear c0 c1 c2 c3 c4 d0 d1 d2 d3 d4
        have i1 : (k : Int) < (xs.length : Int) := by omega
        have i2 : (k : Int) < (ys.length : Int) := by omega
        have CO := Lib.hid (fun d os => regrown_call (eqNd1_any xs[k] ys[k] (grow (redrawn wr d) os)))
        go_wp2_with fail
        by_cases he : xs[k] = ys[k]
        · rw [decide_eq_true he] at CO
          have HT' := Lib.hid (take_eq_succ HT.out hlt hlt' he)
          clear he HT
          refine wp_region_quiet_below (by kernel_rfl) (by kernel_rfl) ?_
          repeat (first | go_big_quiet_step (exact CO.out _ _) | quiet_step (exact CO.out _ _))
          refine wpQuiet_nil ?_
          intro _ hw'
          obtain ⟨⟨dq, osq⟩, hw''⟩ := hw'
          subst hw''
          clear k0 k1 k2 k3 k4 j0 j1 j2 j3 j4 CO
          go_wp2
          go_roundw
          case rel => exact ⟨k + 1, by omega, by go_num, HT', Lib.hid (HK.out.trans (Kept.regrown _ _ _))⟩
          case measure => simp [intOf]; omega
        · rw [decide_eq_false he] at CO
          have HE := Lib.hid (ne_of_at hlt hlt' he)
          clear he HT
          refine wp_region_quiet_below (by kernel_rfl) (by kernel_rfl) ?_
          repeat (first | go_big_quiet_step (exact CO.out _ _) | quiet_step (exact CO.out _ _))
          refine wpQuiet_nil ?_
          intro _ hw'
          obtain ⟨⟨dq, osq⟩, hw''⟩ := hw'
          subst hw''
          clear k0 k1 k2 k3 k4 j0 j1 j2 j3 j4 CO
          go_wp2
          go_ret
          exact ⟨ret_bool (decide_eq_false HE.out).symm, HK.out.trans (Kept.regrown _ _ _)⟩
      · go_wp2
        go_ret
        exact ⟨ret_bool (decide_eq_true (take_eq_all HT.out (by omega) (by have := HL.out; omega))).symm, HK.out⟩
  · have hb : (((xs.length : Int)) != ((ys.length : Int))) = true := by simp; omega
    have HL := Lib.hid hl
    clear hl
    go_enter Try.func25, Try.ntmps25
    go_wp2
    go_ret
    exact ⟨ret_bool (decide_eq_false (fun he => HL.out (by rw [he]))).symm, Kept.refl _ _ _⟩

set_option maxHeartbeats 400000 in
theorem szNdS_any (A : Option Addr) (n c : Nat) (left : Int) (w : World) (h0 : 0 ≤ left) (h1 : left ≤ 1048576) (hn : n ≤ maxLen) :
    Calls Try.prog 20 #[.slice A n c, .int .i64 left] w fun e w' => e = .returned (.int .i64 (szF left n)) ∧ w = w' := by
  unfold maxLen at hn
  by_cases hl : left - n < 0
  · have H := Lib.hid hl
    go_enter Try.func20, Try.ntmps20
    go_wp2
    go_ret
    exact ⟨ret_int (szF_neg (by have := H.out; omega)).symm, rfl⟩
  · have H := Lib.hid hl
    go_enter Try.func20, Try.ntmps20
    go_wp2
    go_ret
    exact ⟨ret_int (szF_pos (by have := H.out; omega)).symm, rfl⟩

/-- What the marks write: k, k+1, .. -/
def ndMark (k : Int) (i : Nat) : Nd := ⟨k + 5 * i, k + 5 * i + 1, k + 5 * i + 1 + 1, k + 5 * i + 1 + 1 + 1, k + 5 * i + 1 + 1 + 1 + 1⟩
def marksNd (k : Int) (n : Nat) : List Nd := (List.range n).map (ndMark k)
theorem marksNd_len (k : Int) (n : Nat) : (marksNd k n).length = n := by simp [marksNd]
theorem marksNd_at (k : Int) (n i : Nat) (h : i < (marksNd k n).length) : (marksNd k n)[i] = ndMark k i := by simp [marksNd]

/-- The first j records of a row marked. -/
def ndMarked (k : Int) (ys : List Nd) (j : Nat) : List Nd := marksNd k j ++ ys.drop j
theorem ndMarked_zero (k : Int) (ys : List Nd) : ndMarked k ys 0 = ys := by simp [ndMarked, marksNd]
theorem ndMarked_len (k : Int) (ys : List Nd) (j : Nat) (h : j ≤ ys.length) : (ndMarked k ys j).length = ys.length := by simp [ndMarked, marksNd_len]; omega
theorem ndMarked_all (k : Int) (ys : List Nd) : ndMarked k ys ys.length = marksNd k ys.length := by simp [ndMarked]
theorem ndMarked_at (k : Int) (ys : List Nd) (j : Nat) (h : j < ys.length) : (ndMarked k ys j)[j]'(by rw [ndMarked_len k ys j (Nat.le_of_lt h)]; exact h) = ys[j] := by
  unfold ndMarked
  rw [List.getElem_append_right (by rw [marksNd_len]; exact Nat.le_refl _)]
  simp [marksNd_len]
theorem ndMarked_succ (k : Int) (ys : List Nd) (j : Nat) (h : j < ys.length) : (ndMarked k ys j).set j (ndMark k j) = ndMarked k ys (j + 1) := by
  unfold ndMarked
  rw [List.set_append_right _ _ (by rw [marksNd_len]; exact Nat.le_refl _), marksNd_len, Nat.sub_self, List.drop_eq_getElem_cons h, List.set_cons_zero]
  simp [marksNd, List.range_succ]

set_option maxHeartbeats 1600000 in
theorem markNdS_any (k : Int) (ys : List Nd) (g cap base : Nat) (w : World) (h : w.ownsRow base 59 5 (.slice (some ⟨g, 0, none⟩) ys.length cap) ys.length (ndR.flat (ys))) (hk0 : 0 ≤ k) (hk : k ≤ 10000000) (hn : ys.length ≤ 1048576) :
    Calls Try.prog 28 #[.slice (some ⟨g, 0, none⟩) ys.length cap, .int .i64 k] w fun e w' => e = .returned (.int .i64 (k + 5 * (ys.length : Int))) ∧
      w'.ownsRow base 59 5 (.slice (some ⟨g, 0, none⟩) ys.length cap) ys.length (ndR.flat (marksNd k ys.length)) ∧ Kept g (g + 1) w w' := by
  have HO : Hid (w.ownsRow base 59 5 (.slice (some ⟨g, 0, none⟩) ys.length cap) ys.length (ndR.flat (ndMarked k ys 0))) := by rw [ndMarked_zero]; exact h
  clear h
  go_enter Try.func28, Try.ntmps28
  go_wp2
  go_loopw [1, 5] (fun q i wr => ∃ j : Nat, j ≤ ys.length ∧ i = .int .i64 j ∧ q = .int .i64 (k + 5 * (j : Int)) ∧ Hid (wr.ownsRow base 59 5 (.slice (some ⟨g, 0, none⟩) ys.length cap) ys.length (ndR.flat (ndMarked k ys j))) ∧ Hid (Kept g (g + 1) w wr)) (fun _ i _ => ys.length - (intOf i).toNat)
  case atStart => exact ⟨0, Nat.zero_le _, rfl, by go_num, HO, Lib.hid (Kept.refl _ _ _)⟩
  case round =>
    clear HO
    obtain ⟨j, hj, rfl, rfl, HO, HK⟩ := hrel
    by_cases hlt : j < ys.length
    · have hpl : j < (ndMarked k ys j).length := by rw [ndMarked_len k ys j hj]; exact hlt
      have hat := ndMarked_at k ys j hlt
      have c0 : wr.cell? ⟨g, j * 5, none⟩ = some (.int .i64 ys[j].kind) := own_at (R := ndR) HO.out hpl 0 (by rw [hat]; rfl)
      have c1 : wr.cell? ⟨g, j * 5 + 1, none⟩ = some (.int .i64 ys[j].up) := own_at (R := ndR) HO.out hpl 1 (by rw [hat]; rfl)
      have c2 : wr.cell? ⟨g, j * 5 + 2, none⟩ = some (.int .i64 ys[j].due) := own_at (R := ndR) HO.out hpl 2 (by rw [hat]; rfl)
      have c3 : wr.cell? ⟨g, j * 5 + 3, none⟩ = some (.int .i64 ys[j].key) := own_at (R := ndR) HO.out hpl 3 (by rw [hat]; rfl)
      have c4 : wr.cell? ⟨g, j * 5 + 4, none⟩ = some (.int .i64 ys[j].value) := own_at (R := ndR) HO.out hpl 4 (by rw [hat]; rfl)
      have f0 : wr.frozen? ⟨g, j * 5, none⟩ = false := HO.out.frozenAt _
      have f1 : wr.frozen? ⟨g, j * 5 + 1, none⟩ = false := HO.out.frozenAt _
      have f2 : wr.frozen? ⟨g, j * 5 + 2, none⟩ = false := HO.out.frozenAt _
      have f3 : wr.frozen? ⟨g, j * 5 + 3, none⟩ = false := HO.out.frozenAt _
      have f4 : wr.frozen? ⟨g, j * 5 + 4, none⟩ = false := HO.out.frozenAt _
      have HP := Lib.hid hpl
      have i1 : (j : Int) < (ys.length : Int) := by omega
      clear hpl hat
      go_wp2
      go_roundw
      case rel =>
        refine ⟨j + 1, by omega, by go_num, by rw [show k + 5 * ((j + 1 : Nat) : Int) = k + 5 * (j : Int) + 1 + 1 + 1 + 1 + 1 from by omega], Lib.hid ?_, Lib.hid (((((HK.out.setCell (.inr ⟨Nat.le_refl _, Nat.lt_succ_self _⟩) _).setCell (.inr ⟨Nat.le_refl _, Nat.lt_succ_self _⟩) _).setCell (.inr ⟨Nat.le_refl _, Nat.lt_succ_self _⟩) _).setCell (.inr ⟨Nat.le_refl _, Nat.lt_succ_self _⟩) _).setCell (.inr ⟨Nat.le_refl _, Nat.lt_succ_self _⟩) _)⟩
        rw [← ndMarked_succ k ys j hlt]
        have := own_putNd HO.out HP.out (ndMark k j)
        simpa only [ndMark] using this
      case measure => simp [intOf]; omega
    · have e : j = ys.length := by omega
      subst e
      go_wp2
      go_ret
      exact ⟨rfl, by rw [← ndMarked_all]; exact HO.out, HK.out⟩
theorem markNdS_own (k : Int) (ys : List Nd) (A : Option Addr) (c lo hi : Nat) (w : World) (h : OwnZ w lo hi 59 5 A ys.length c (ndR.flat ys)) (hk0 : 0 ≤ k) (hk : k ≤ 10000000) (hn : ys.length ≤ 1048576) :
    Calls Try.prog 28 #[.slice A ys.length c, .int .i64 k] w fun e w' => e = .returned (.int .i64 (k + 5 * (ys.length : Int))) ∧
      OwnZ w' lo hi 59 5 A ys.length c (ndR.flat (marksNd k ys.length)) ∧ Kept (aLo A) (aHi A) w w' := by
  rcases h.form with ⟨rfl, h0, rfl⟩ | ⟨g, rfl, h1, h2, _⟩
  · rw [h0]
    go_enter Try.func28, Try.ntmps28
    go_wp2
    go_rounds 1
    go_ret
    exact ⟨ret_int (by simp), ⟨by simp [marksNd]; exact World.ownsRow_nil _ _ _ _, by simp⟩, Kept.refl _ _ _⟩
  · exact (markNdS_any k ys g c lo w h.1 hk0 hk hn).mono fun e w' ⟨he, ho, hk⟩ => ⟨he, ⟨ho, h.2⟩, hk⟩

/-- A slice value that reads as xs. -/
def RdNd (w : World) (B : Nat) (v : Value) (xs : List Nd) : Prop := ∃ A c, v = .slice A xs.length c ∧ SL ndR w B A c xs
/-- A slice value of the call's own. -/
def OwnNd (w : World) (lo hi : Nat) (v : Value) (xs : List Nd) : Prop := ∃ D d, v = .slice D xs.length d ∧ OwnZ w lo hi 59 5 D xs.length d (ndR.flat xs)
section
variable {w w' : World} {B B' lo hi lo' hi' : Nat} {v : Value} {xs : List Nd}
theorem RdNd.kept (h : RdNd w B v xs) (hB : B ≤ w.heap.size) (hk : Kept lo hi w w') (hr : hi ≤ lo ∨ B ≤ lo) : RdNd w' B v xs := by
  obtain ⟨A, c, e, h⟩ := h; exact ⟨A, c, e, h.kept hB hk hr⟩
theorem RdNd.wide (h : RdNd w B v xs) (hB : B ≤ B') : RdNd w B' v xs := by
  obtain ⟨A, c, e, h⟩ := h; exact ⟨A, c, e, h.wide hB⟩
theorem RdNd.up (h : RdNd w w.heap.size v xs) (hk : Kept 0 0 w w') : RdNd w' w'.heap.size v xs := (h.kept (Nat.le_refl _) hk (.inl (Nat.le_refl _))).wide hk.size
theorem RdNd.len (h : RdNd w B v xs) : xs.length ≤ maxLen := by obtain ⟨A, c, e, h⟩ := h; exact h.rd.1
theorem OwnNd.kept (h : OwnNd w lo hi v xs) (hk : Kept lo' hi' w w') (hr : hi' ≤ lo' ∨ hi ≤ lo' ∨ hi' ≤ lo) : OwnNd w' lo hi v xs := by
  obtain ⟨A, c, e, h⟩ := h; exact ⟨A, c, e, h.kept hk hr⟩
theorem OwnNd.wide (h : OwnNd w lo hi v xs) (hl : lo' ≤ lo) (hh : hi ≤ hi') : OwnNd w lo' hi' v xs := by
  obtain ⟨A, c, e, h⟩ := h; exact ⟨A, c, e, h.wide hl hh⟩
theorem OwnNd.rd (h : OwnNd w lo hi v xs) : RdNd w hi v xs := by
  obtain ⟨D, d, e, h⟩ := h; exact ⟨D, d, e, (OwnZ.sl (R := ndR) h).2⟩
theorem OwnNd.rdW (h : OwnNd w lo hi v xs) (hh : hi ≤ w.heap.size) : RdNd w w.heap.size v xs := h.rd.wide hh
theorem OwnNd.nil (w : World) (lo hi : Nat) : OwnNd w lo hi (.slice none 0 0) [] := ⟨none, 0, rfl, ⟨⟨rfl, .inl ⟨rfl, rfl⟩⟩, by intro ad h; cases h⟩⟩
end
theorem toNd (xs : List Nd) (v : Value) (w : World) (h : RdNd w w.heap.size v xs) (hn : xs.length ≤ 1048576) :
    Calls Try.prog 22 #[v] w fun e w' => ∃ u, e = .returned u ∧ OwnNd w' w.heap.size w'.heap.size u xs ∧ Kept 0 0 w w' := by
  obtain ⟨A, c, rfl, h⟩ := h
  exact (toNdS_any xs A c w h.rd hn).mono fun e w' ⟨D, d, he, ho, hk⟩ => ⟨_, he, ⟨D, d, rfl, ho⟩, hk⟩
theorem eqNd (xs : List Nd) (v v' : Value) (w : World) (h : RdNd w w.heap.size v xs) (h' : RdNd w w.heap.size v' xs) :
    Calls Try.prog 25 #[v, v'] w fun e w' => e = .returned (.bool true) ∧ Kept 0 0 w w' := by
  obtain ⟨A, c, rfl, h⟩ := h
  obtain ⟨A', c', rfl, h'⟩ := h'
  exact (eqNdS_any xs xs A A' c c' _ _ w (Nat.le_refl _) (Nat.le_refl _) h.rd h'.rd).mono fun e w' ⟨he, hk⟩ => ⟨by rw [he, decide_eq_true rfl], hk⟩
theorem szNd (xs : List Nd) (v : Value) (left : Int) (w : World) (B : Nat) (h : RdNd w B v xs) (h0 : 0 ≤ left) (h1 : left ≤ 1048576) :
    Calls Try.prog 20 #[v, .int .i64 left] w fun e w' => e = .returned (.int .i64 (szF left xs.length)) ∧ w = w' := by
  have hm := h.len
  obtain ⟨A, c, rfl, h⟩ := h
  exact szNdS_any A xs.length c left w h0 h1 hm
theorem markNd (k : Int) (xs : List Nd) (v : Value) (lo hi : Nat) (w : World) (h : OwnNd w lo hi v xs) (hk0 : 0 ≤ k) (hk : k ≤ 10000000) (hn : xs.length ≤ 1048576) :
    Calls Try.prog 28 #[v, .int .i64 k] w fun e w' => e = .returned (.int .i64 (k + 5 * (xs.length : Int))) ∧ OwnNd w' lo hi v (marksNd k xs.length) ∧ Kept lo hi w w' := by
  obtain ⟨D, d, rfl, h⟩ := h
  refine (markNdS_own k xs D d lo hi w h hk0 hk hn).mono fun e w' ⟨he, ho, hk'⟩ => ⟨he, ⟨D, d, by rw [marksNd_len], by rw [marksNd_len]; exact ho⟩, hk'.wide ?_⟩
  have := h.range
  omega
end Go.Proofs.Ytlfbmjfbebbdlaa
