/- Slices of records of the type Event: how they lie in memory, and the helper functions of the laws over them (size, copy, compare, mark, check marks); no condition beyond what each theorem states. Written by tools/recgen.py. -/
import Derived.Test.YtgahjachkeoflaaDoorNd
namespace Go.Proofs.YtgahjachkeoflaaDoor
open Go.RowKit Go.Sort

structure Ev where
  node : Int
  err : Int
  cause : Int
  time : Int
deriving DecidableEq
/-- How a record lies in memory. -/
def evR : Rec Ev := ⟨4, fun x => [.int .i64 x.node, .int .i64 x.err, .int .i64 x.cause, .int .i64 x.time], fun _ => rfl, by decide, fun x u hu => by
  simp only [List.mem_cons, List.not_mem_nil, or_false] at hu
  rcases hu with rfl | rfl | rfl | rfl <;> rfl⟩
theorem evR_k : evR.k = 4 := rfl
theorem Tryd.infoEv : (Tryd.prog.info? 27).map (fun i => (i.zero, i.size, i.bytes)) = some (some (.agg #[.int .i64 0, .int .i64 0, .int .i64 0, .int .i64 0]), 4, 32) := by kernel_rfl
theorem evSlice : SliceOf Tryd.prog 25 27 evR.k 32 := SliceOf.of Tryd.underlying25 Tryd.infoEv rfl
/-- What the walk wants to know of element k. -/
theorem RdR.ev {w : World} {B : Nat} {A : Option Addr} {xs : List Ev} {k : Nat} (h : RdR evR w B A xs) (hk : k < xs.length) :
    ∃ ad, A = some ad ∧ ad.block < B ∧ w.cell? (ad.add (k * 4)) = some (.int .i64 xs[k].node) ∧ w.cell? ⟨(ad.add (k * 4)).block, (ad.add (k * 4)).off + 1, none⟩ = some (.int .i64 xs[k].err) ∧ w.cell? ⟨(ad.add (k * 4)).block, (ad.add (k * 4)).off + 2, none⟩ = some (.int .i64 xs[k].cause) ∧ w.cell? ⟨(ad.add (k * 4)).block, (ad.add (k * 4)).off + 3, none⟩ = some (.int .i64 xs[k].time) := by
  obtain ⟨ad, e, hb, hc⟩ := h.at_ hk
  refine ⟨ad, e, hb, hc 0 _ rfl, ?_, ?_, ?_⟩
  · rw [← fieldAt_eq _ _ _ (by decide)]; exact hc 1 _ rfl
  · rw [← fieldAt_eq _ _ _ (by decide)]; exact hc 2 _ rfl
  · rw [← fieldAt_eq _ _ _ (by decide)]; exact hc 3 _ rfl
set_option maxHeartbeats 400000 in
theorem toEv1_any (x : Ev) (w : World) :
    Calls Tryd.prog 33 #[.agg #[.int .i64 x.node, .int .i64 x.err, .int .i64 x.cause, .int .i64 x.time]] w fun e w' => e = .returned (.agg #[.int .i64 x.node, .int .i64 x.err, .int .i64 x.cause, .int .i64 x.time]) ∧ Kept 0 0 w w' := by
  go_enter Tryd.func33, Tryd.ntmps33
  go_wp2
  exact bodyPost_ret (v := .agg #[.int .i64 x.node, .int .i64 x.err, .int .i64 x.cause, .int .i64 x.time]) (by simp [results, Tryd.results33, go_sem]) rfl ⟨rfl, ((Kept.alloc0 _ _).alloc _).alloc _⟩

/-- What a copy in the making holds behind k rounds. -/
def evPart (xs : List Ev) (k : Nat) : List Ev := xs.take k ++ List.replicate (xs.length - k) ⟨0, 0, 0, 0⟩
theorem evPart_zero (xs : List Ev) : evPart xs 0 = List.replicate xs.length ⟨0, 0, 0, 0⟩ := by simp [evPart]
theorem evPart_all (xs : List Ev) (k : Nat) (h : xs.length ≤ k) : evPart xs k = xs := by
  simp [evPart, List.take_of_length_le h, Nat.sub_eq_zero_of_le h]
theorem evPart_len (xs : List Ev) (k : Nat) (h : k ≤ xs.length) : (evPart xs k).length = xs.length := by simp [evPart]; omega
theorem evPart_succ (xs : List Ev) (k : Nat) (h : k < xs.length) : (evPart xs k).set k xs[k] = evPart xs (k + 1) := by
  unfold evPart
  have e : xs.length - k = (xs.length - (k + 1)) + 1 := by omega
  rw [List.set_append_right _ _ (by simp; omega)]
  simp only [List.length_take, Nat.min_eq_left (Nat.le_of_lt h), Nat.sub_self]
  rw [e, List.replicate_succ, List.set_cons_zero, List.take_succ_eq_append_getElem h, List.append_assoc]
  rfl
theorem evPart_at (xs : List Ev) (k : Nat) (h : k < xs.length) : (evPart xs k)[k]'(by rw [evPart_len xs k (Nat.le_of_lt h)]; exact h) = ⟨0, 0, 0, 0⟩ := by
  unfold evPart
  rw [List.getElem_append_right (by simp; omega)]
  simp

/-- The stores of one record. -/
theorem own_putEv {w : World} {base e n c g : Nat} {xs : List Ev} (h : w.ownsRow base e 4 (.slice (some ⟨g, 0, none⟩) n c) n (evR.flat xs)) {i : Nat} (hi : i < xs.length) (x : Ev) :
    ((((w.setCell ⟨g, i * 4, none⟩ (.int .i64 x.node)).setCell ⟨g, i * 4 + 1, none⟩ (.int .i64 x.err)).setCell ⟨g, i * 4 + 2, none⟩ (.int .i64 x.cause)).setCell ⟨g, i * 4 + 3, none⟩ (.int .i64 x.time)).ownsRow base e 4 (.slice (some ⟨g, 0, none⟩) n c) n (evR.flat (xs.set i x)) := by
  have h1 := ((((h.stored (i * 4) (.int .i64 x.node)).1.stored (i * 4 + 1) (.int .i64 x.err)).1.stored (i * 4 + 2) (.int .i64 x.cause)).1.stored (i * 4 + 3) (.int .i64 x.time)).1
  have hl : (evR.flat xs).length = xs.length * 4 := evR.flat_len xs
  have e1 : (((((evR.flat xs).set (i * 4) (.int .i64 x.node)).set (i * 4 + 1) (.int .i64 x.err)).set (i * 4 + 2) (.int .i64 x.cause)).set (i * 4 + 3) (.int .i64 x.time)) = evR.flat (xs.set i x) := by
    rw [← evR.flat_set xs i x hi]
    rw [← putAt_nil (((((evR.flat xs).set (i * 4) (.int .i64 x.node)).set (i * 4 + 1) (.int .i64 x.err)).set (i * 4 + 2) (.int .i64 x.cause)).set (i * 4 + 3) (.int .i64 x.time)) (i * 4 + 3 + 1)]
    rw [putAt_cons _ _ _ _ (by simp; omega), putAt_cons _ _ _ _ (by simp; omega), putAt_cons _ _ _ _ (by simp; omega), putAt_cons _ _ _ _ (by omega)]
    rfl
  rw [e1] at h1
  exact h1

set_option maxHeartbeats 800000 in
theorem toEvS_any (xs : List Ev) (A : Option Addr) (c : Nat) (w : World) (h : RdR evR w w.heap.size A xs) (hn : xs.length ≤ 1048576) :
    Calls Tryd.prog 26 #[.slice A xs.length c] w fun e w' => ∃ (B : Option Addr) (b : Nat), e = .returned (.slice B xs.length b) ∧
      OwnZ w' w.heap.size w'.heap.size 27 4 B xs.length b (evR.flat xs) ∧ Kept 0 0 w w' := by
  obtain ⟨i0, hi, hz0, hz1, hz2⟩ := info_parts Tryd.infoEv
  have H := Lib.hid h
  clear h
  go_enter Tryd.func26, Tryd.ntmps26
  go_wp2_with (refine wpList_make_full _ rfl _ _ 25 rfl w.heap.size 27 i0 (.agg #[.int .i64 0, .int .i64 0, .int .i64 0, .int .i64 0]) 4 Tryd.underlying25 hi hz0 hz1 _ _ _ _ xs.length rfl rfl rfl rfl (by rw [hz2]; omega) (by unfold maxLen; omega) (Nat.le_refl _) ?_; intro w1 hown hg)
  have hown1 : w1.ownsRow w.heap.size 27 4 (.slice (some ⟨w.heap.size, 0, none⟩) xs.length xs.length) xs.length (evR.flat (evPart xs 0)) := by
    rw [evPart_zero, ← evR.made]; exact hown
  have HO := Lib.hid hown1
  have HK := Lib.hid (Kept.of_below (Below.of_grown_none hg) 0 0)
  clear hown hg hown1 hi hz0 hz1 hz2
  go_loopw [4] (fun i wr => ∃ k : Nat, k ≤ xs.length ∧ i = .int .i64 k ∧ Hid (wr.ownsRow w.heap.size 27 4 (.slice (some ⟨w.heap.size, 0, none⟩) xs.length xs.length) xs.length (evR.flat (evPart xs k))) ∧ Hid (Kept 0 0 w wr)) (fun i _ => xs.length - (intOf i).toNat)
  case atStart => exact ⟨0, Nat.zero_le _, rfl, HO, HK⟩
  case round =>
    clear HO HK
    obtain ⟨k, hk, rfl, HO, HK⟩ := hrel
    by_cases hlt : k < xs.length
    · obtain ⟨ad, rfl, _, c0, c1, c2, c3⟩ := (H.out.kept (Nat.le_refl _) HK.out (.inl (Nat.le_refl _))).ev hlt
      have i1 : (k : Int) < (xs.length : Int) := by omega
      go_wp2_with fail
      with_reducible refine (toEv1_any xs[k] _).mono ?_
      rintro e w2 ⟨rfl, hk2⟩
      have HO2 := Lib.hid (row_kept HO.out hk2)
      have HK2 := Lib.hid (HK.out.trans hk2)
      clear hk2 c0 c1 c2 c3 HO HK
      have hpl : k < (evPart xs k).length := by rw [evPart_len xs k hk]; exact hlt
      have c0 : w2.cell? ⟨w.heap.size, k * 4, none⟩ = some (.int .i64 0) := own_at (R := evR) HO2.out hpl 0 (by rw [evPart_at xs k hlt]; rfl)
      have c1 : w2.cell? ⟨w.heap.size, k * 4 + 1, none⟩ = some (.int .i64 0) := own_at (R := evR) HO2.out hpl 1 (by rw [evPart_at xs k hlt]; rfl)
      have c2 : w2.cell? ⟨w.heap.size, k * 4 + 2, none⟩ = some (.int .i64 0) := own_at (R := evR) HO2.out hpl 2 (by rw [evPart_at xs k hlt]; rfl)
      have c3 : w2.cell? ⟨w.heap.size, k * 4 + 3, none⟩ = some (.int .i64 0) := own_at (R := evR) HO2.out hpl 3 (by rw [evPart_at xs k hlt]; rfl)
      have f0 : w2.frozen? ⟨w.heap.size, k * 4, none⟩ = false := HO2.out.frozenAt _
      have f1 : w2.frozen? ⟨w.heap.size, k * 4 + 1, none⟩ = false := HO2.out.frozenAt _
      have f2 : w2.frozen? ⟨w.heap.size, k * 4 + 2, none⟩ = false := HO2.out.frozenAt _
      have f3 : w2.frozen? ⟨w.heap.size, k * 4 + 3, none⟩ = false := HO2.out.frozenAt _
      have HP := Lib.hid hpl
      clear hpl
      go_wp2
      go_roundw
      case rel => exact ⟨k + 1, by omega, by go_num, Lib.hid (by rw [← evPart_succ _ _ hlt]; exact own_putEv HO2.out HP.out xs[k]), Lib.hid ((((HK2.out.setCell (.inl (by simp)) _).setCell (.inl (by simp)) _).setCell (.inl (by simp)) _).setCell (.inl (by simp)) _)⟩
      case measure => simp [intOf]; omega
    · go_wp2
      go_ret
      refine ⟨_, _, rfl, OwnZ.mk_ (by have := HO.out; rw [evPart_all xs k (by omega)] at this; exact this) (HO.out.lt _ rfl).2, HK.out⟩

theorem Ev.ext_iff' {a b : Ev} : a = b ↔ a.node = b.node ∧ a.err = b.err ∧ a.cause = b.cause ∧ a.time = b.time := by cases a; cases b; simp
set_option maxHeartbeats 800000 in
theorem eqEv1_any (a b : Ev) (w : World) :
    Calls Tryd.prog 30 #[.agg #[.int .i64 a.node, .int .i64 a.err, .int .i64 a.cause, .int .i64 a.time], .agg #[.int .i64 b.node, .int .i64 b.err, .int .i64 b.cause, .int .i64 b.time]] w fun e w' => e = .returned (.bool (decide (a = b))) ∧ Kept 0 0 w w' := by
  cases g0 : (a.node != b.node)
  · skip
    cases g1 : (a.err != b.err)
    · skip
      cases g2 : (a.cause != b.cause)
      · skip
        cases g3 : (a.time != b.time)
        · skip
          have E : Hid (decide (a = b) = true) := decide_eq_true (Ev.ext_iff'.2 ⟨by simpa using g0, by simpa using g1, by simpa using g2, by simpa using g3⟩)
          go_enter Tryd.func30, Tryd.ntmps30
          go_wp2
          go_ret
          exact ⟨ret_bool E.out.symm, ((Kept.alloc0 _ _).alloc _)⟩
        · have E : Hid (decide (a = b) = false) := decide_eq_false (fun h => by rw [h] at g3; simp at g3)
          go_enter Tryd.func30, Tryd.ntmps30
          go_wp2
          go_ret
          exact ⟨ret_bool E.out.symm, ((Kept.alloc0 _ _).alloc _)⟩
      · have E : Hid (decide (a = b) = false) := decide_eq_false (fun h => by rw [h] at g2; simp at g2)
        go_enter Tryd.func30, Tryd.ntmps30
        go_wp2
        go_ret
        exact ⟨ret_bool E.out.symm, ((Kept.alloc0 _ _).alloc _)⟩
    · have E : Hid (decide (a = b) = false) := decide_eq_false (fun h => by rw [h] at g1; simp at g1)
      go_enter Tryd.func30, Tryd.ntmps30
      go_wp2
      go_ret
      exact ⟨ret_bool E.out.symm, ((Kept.alloc0 _ _).alloc _)⟩
  · have E : Hid (decide (a = b) = false) := decide_eq_false (fun h => by rw [h] at g0; simp at g0)
    go_enter Tryd.func30, Tryd.ntmps30
    go_wp2
    go_ret
    exact ⟨ret_bool E.out.symm, ((Kept.alloc0 _ _).alloc _)⟩

set_option maxHeartbeats 800000 in
theorem eqEvS_any (xs ys : List Ev) (A A' : Option Addr) (c c' B B' : Nat) (w : World) (hB : B ≤ w.heap.size) (hB' : B' ≤ w.heap.size) (h : RdR evR w B A xs) (h' : RdR evR w B' A' ys) :
    Calls Tryd.prog 28 #[.slice A xs.length c, .slice A' ys.length c'] w fun e w' => e = .returned (.bool (decide (xs = ys))) ∧ Kept 0 0 w w' := by
  have hx := h.1
  have hy := h'.1
  unfold maxLen at hx hy
  have H := Lib.hid h
  have H' := Lib.hid h'
  clear h h'
  by_cases hl : xs.length = ys.length
  · have hb : (((xs.length : Int)) != ((ys.length : Int))) = false := by simp [hl]
    have HL := Lib.hid hl
    clear hl
    go_enter Tryd.func28, Tryd.ntmps28
    go_wp2
    go_loopw [5] (fun i wr => ∃ k : Nat, k ≤ xs.length ∧ i = .int .i64 k ∧ Hid (xs.take k = ys.take k) ∧ Hid (Kept 0 0 w wr)) (fun i _ => xs.length - (intOf i).toNat)
    case atStart => exact ⟨0, Nat.zero_le _, rfl, Lib.hid rfl, Lib.hid (Kept.refl _ _ _)⟩
    case round =>
      obtain ⟨k, hk, rfl, HT, HK⟩ := hrel
      by_cases hlt : k < xs.length
      · have hlt' : k < ys.length := by have := HL.out; omega
        obtain ⟨ad, rfl, _, c0, c1, c2, c3⟩ := (H.out.kept hB HK.out (.inl (Nat.le_refl _))).ev hlt
        obtain ⟨ad', rfl, _, d0, d1, d2, d3⟩ := (H'.out.kept hB' HK.out (.inl (Nat.le_refl _))).ev hlt'
        have k0 := cell_regrown c0
        have k1 := cell_regrown c1
        have k2 := cell_regrown c2
        have k3 := cell_regrown c3
        have j0 := cell_regrown d0
        have j1 := cell_regrown d1
        have j2 := cell_regrown d2
        have j3 := cell_regrown d3
        clear c0 c1 c2 c3 d0 d1 d2 d3
        have i1 : (k : Int) < (xs.length : Int) := by omega
        have i2 : (k : Int) < (ys.length : Int) := by omega
        have CO := Lib.hid (fun d os => regrown_call (eqEv1_any xs[k] ys[k] (grow (redrawn wr d) os)))
        go_wp2_with fail
        by_cases he : xs[k] = ys[k]
        · rw [decide_eq_true he] at CO
          have HT' := Lib.hid (take_eq_succ HT.out hlt hlt' he)
          clear he HT
          refine wp_region_quiet_below (by kernel_rfl) (by kernel_rfl) ?_
          repeat (first | go_big_quiet_step (exact CO.out _ _) | quiet_step (exact CO.out _ _))
          refine wpQuiet_nil ?_
          intro _ hw'
          obtain ⟨⟨dq, osq⟩, hw''⟩ := hw'
          subst hw''
          clear k0 k1 k2 k3 j0 j1 j2 j3 CO
          go_wp2
          go_roundw
          case rel => exact ⟨k + 1, by omega, by go_num, HT', Lib.hid (HK.out.trans (Kept.regrown _ _ _))⟩
          case measure => simp [intOf]; omega
        · rw [decide_eq_false he] at CO
          have HE := Lib.hid (ne_of_at hlt hlt' he)
          clear he HT
          refine wp_region_quiet_below (by kernel_rfl) (by kernel_rfl) ?_
          repeat (first | go_big_quiet_step (exact CO.out _ _) | quiet_step (exact CO.out _ _))
          refine wpQuiet_nil ?_
          intro _ hw'
          obtain ⟨⟨dq, osq⟩, hw''⟩ := hw'
          subst hw''
          clear k0 k1 k2 k3 j0 j1 j2 j3 CO
          go_wp2
          go_ret
          exact ⟨ret_bool (decide_eq_false HE.out).symm, HK.out.trans (Kept.regrown _ _ _)⟩
      · go_wp2
        go_ret
        exact ⟨ret_bool (decide_eq_true (take_eq_all HT.out (by omega) (by have := HL.out; omega))).symm, HK.out⟩
  · have hb : (((xs.length : Int)) != ((ys.length : Int))) = true := by simp; omega
    have HL := Lib.hid hl
    clear hl
    go_enter Tryd.func28, Tryd.ntmps28
    go_wp2
    go_ret
    exact ⟨ret_bool (decide_eq_false (fun he => HL.out (by rw [he]))).symm, Kept.refl _ _ _⟩

set_option maxHeartbeats 400000 in
theorem szEvS_any (A : Option Addr) (n c : Nat) (left : Int) (w : World) (h0 : 0 ≤ left) (h1 : left ≤ 1048576) (hn : n ≤ maxLen) :
    Calls Tryd.prog 24 #[.slice A n c, .int .i64 left] w fun e w' => e = .returned (.int .i64 (szF left n)) ∧ w = w' := by
  unfold maxLen at hn
  by_cases hl : left - n < 0
  · have H := Lib.hid hl
    go_enter Tryd.func24, Tryd.ntmps24
    go_wp2
    go_ret
    exact ⟨ret_int (szF_neg (by have := H.out; omega)).symm, rfl⟩
  · have H := Lib.hid hl
    go_enter Tryd.func24, Tryd.ntmps24
    go_wp2
    go_ret
    exact ⟨ret_int (szF_pos (by have := H.out; omega)).symm, rfl⟩

/-- What the marks write: k, k+1, .. -/
def evMark (k : Int) (i : Nat) : Ev := ⟨k + 4 * i, k + 4 * i + 1, k + 4 * i + 1 + 1, k + 4 * i + 1 + 1 + 1⟩
def marksEv (k : Int) (n : Nat) : List Ev := (List.range n).map (evMark k)
theorem marksEv_len (k : Int) (n : Nat) : (marksEv k n).length = n := by simp [marksEv]
theorem marksEv_at (k : Int) (n i : Nat) (h : i < (marksEv k n).length) : (marksEv k n)[i] = evMark k i := by simp [marksEv]

set_option maxHeartbeats 800000 in
theorem heldEvS_any (k : Int) (n : Nat) (A : Option Addr) (c B : Nat) (w : World) (h : RdR evR w B A (marksEv k n)) (hk0 : 0 ≤ k) (hk : k ≤ 10000000) (hn : n ≤ 1048576) :
    Calls Tryd.prog 36 #[.slice A n c, .int .i64 k] w fun e w' => e = .returned (.int .i64 (k + 4 * (n : Int))) ∧ w = w' := by
  have H := Lib.hid h
  clear h
  go_enter Tryd.func36, Tryd.ntmps36
  go_wp2
  go_loop [1, 5] (fun q i => ∃ j : Nat, j ≤ n ∧ i = .int .i64 j ∧ q = .int .i64 (k + 4 * (j : Int))) (fun _ i => n - (intOf i).toNat)
  case atStart => exact ⟨0, Nat.zero_le _, rfl, by go_num⟩
  case round =>
    obtain ⟨j, hj, rfl, rfl⟩ := hrel
    by_cases hlt : j < n
    · have hm : j < (marksEv k n).length := by rw [marksEv_len]; exact hlt
      obtain ⟨ad, rfl, _, c0, c1, c2, c3⟩ := H.out.ev hm
      rw [marksEv_at] at c0 c1 c2 c3
      simp only [evMark] at c0 c1 c2 c3
      have i1 : (j : Int) < (n : Int) := by omega
      go_wp2
      go_round
      case rel => exact ⟨j + 1, by omega, by go_num, by rw [show k + 4 * ((j + 1 : Nat) : Int) = k + 4 * (j : Int) + 1 + 1 + 1 + 1 from by omega]⟩
      case measure => simp [intOf]; omega
    · go_wp2
      go_ret
      exact ⟨ret_int (by omega), rfl⟩

/-- The first j records of a row marked. -/
def evMarked (k : Int) (ys : List Ev) (j : Nat) : List Ev := marksEv k j ++ ys.drop j
theorem evMarked_zero (k : Int) (ys : List Ev) : evMarked k ys 0 = ys := by simp [evMarked, marksEv]
theorem evMarked_len (k : Int) (ys : List Ev) (j : Nat) (h : j ≤ ys.length) : (evMarked k ys j).length = ys.length := by simp [evMarked, marksEv_len]; omega
theorem evMarked_all (k : Int) (ys : List Ev) : evMarked k ys ys.length = marksEv k ys.length := by simp [evMarked]
theorem evMarked_at (k : Int) (ys : List Ev) (j : Nat) (h : j < ys.length) : (evMarked k ys j)[j]'(by rw [evMarked_len k ys j (Nat.le_of_lt h)]; exact h) = ys[j] := by
  unfold evMarked
  rw [List.getElem_append_right (by rw [marksEv_len]; exact Nat.le_refl _)]
  simp [marksEv_len]
theorem evMarked_succ (k : Int) (ys : List Ev) (j : Nat) (h : j < ys.length) : (evMarked k ys j).set j (evMark k j) = evMarked k ys (j + 1) := by
  unfold evMarked
  rw [List.set_append_right _ _ (by rw [marksEv_len]; exact Nat.le_refl _), marksEv_len, Nat.sub_self, List.drop_eq_getElem_cons h, List.set_cons_zero]
  simp [marksEv, List.range_succ]

set_option maxHeartbeats 1600000 in
theorem markEvS_any (k : Int) (ys : List Ev) (g cap base : Nat) (w : World) (h : w.ownsRow base 27 4 (.slice (some ⟨g, 0, none⟩) ys.length cap) ys.length (evR.flat (ys))) (hk0 : 0 ≤ k) (hk : k ≤ 10000000) (hn : ys.length ≤ 1048576) :
    Calls Tryd.prog 35 #[.slice (some ⟨g, 0, none⟩) ys.length cap, .int .i64 k] w fun e w' => e = .returned (.int .i64 (k + 4 * (ys.length : Int))) ∧
      w'.ownsRow base 27 4 (.slice (some ⟨g, 0, none⟩) ys.length cap) ys.length (evR.flat (marksEv k ys.length)) ∧ Kept g (g + 1) w w' := by
  have HO : Hid (w.ownsRow base 27 4 (.slice (some ⟨g, 0, none⟩) ys.length cap) ys.length (evR.flat (evMarked k ys 0))) := by rw [evMarked_zero]; exact h
  clear h
  go_enter Tryd.func35, Tryd.ntmps35
  go_wp2
  go_loopw [1, 5] (fun q i wr => ∃ j : Nat, j ≤ ys.length ∧ i = .int .i64 j ∧ q = .int .i64 (k + 4 * (j : Int)) ∧ Hid (wr.ownsRow base 27 4 (.slice (some ⟨g, 0, none⟩) ys.length cap) ys.length (evR.flat (evMarked k ys j))) ∧ Hid (Kept g (g + 1) w wr)) (fun _ i _ => ys.length - (intOf i).toNat)
  case atStart => exact ⟨0, Nat.zero_le _, rfl, by go_num, HO, Lib.hid (Kept.refl _ _ _)⟩
  case round =>
    clear HO
    obtain ⟨j, hj, rfl, rfl, HO, HK⟩ := hrel
    by_cases hlt : j < ys.length
    · have hpl : j < (evMarked k ys j).length := by rw [evMarked_len k ys j hj]; exact hlt
      have hat := evMarked_at k ys j hlt
      have c0 : wr.cell? ⟨g, j * 4, none⟩ = some (.int .i64 ys[j].node) := own_at (R := evR) HO.out hpl 0 (by rw [hat]; rfl)
      have c1 : wr.cell? ⟨g, j * 4 + 1, none⟩ = some (.int .i64 ys[j].err) := own_at (R := evR) HO.out hpl 1 (by rw [hat]; rfl)
      have c2 : wr.cell? ⟨g, j * 4 + 2, none⟩ = some (.int .i64 ys[j].cause) := own_at (R := evR) HO.out hpl 2 (by rw [hat]; rfl)
      have c3 : wr.cell? ⟨g, j * 4 + 3, none⟩ = some (.int .i64 ys[j].time) := own_at (R := evR) HO.out hpl 3 (by rw [hat]; rfl)
      have f0 : wr.frozen? ⟨g, j * 4, none⟩ = false := HO.out.frozenAt _
      have f1 : wr.frozen? ⟨g, j * 4 + 1, none⟩ = false := HO.out.frozenAt _
      have f2 : wr.frozen? ⟨g, j * 4 + 2, none⟩ = false := HO.out.frozenAt _
      have f3 : wr.frozen? ⟨g, j * 4 + 3, none⟩ = false := HO.out.frozenAt _
      have HP := Lib.hid hpl
      have i1 : (j : Int) < (ys.length : Int) := by omega
      clear hpl hat
      go_wp2
      go_roundw
      case rel =>
        refine ⟨j + 1, by omega, by go_num, by rw [show k + 4 * ((j + 1 : Nat) : Int) = k + 4 * (j : Int) + 1 + 1 + 1 + 1 from by omega], Lib.hid ?_, Lib.hid ((((HK.out.setCell (.inr ⟨Nat.le_refl _, Nat.lt_succ_self _⟩) _).setCell (.inr ⟨Nat.le_refl _, Nat.lt_succ_self _⟩) _).setCell (.inr ⟨Nat.le_refl _, Nat.lt_succ_self _⟩) _).setCell (.inr ⟨Nat.le_refl _, Nat.lt_succ_self _⟩) _)⟩
        rw [← evMarked_succ k ys j hlt]
        have := own_putEv HO.out HP.out (evMark k j)
        simpa only [evMark] using this
      case measure => simp [intOf]; omega
    · have e : j = ys.length := by omega
      subst e
      go_wp2
      go_ret
      exact ⟨rfl, by rw [← evMarked_all]; exact HO.out, HK.out⟩
theorem markEvS_own (k : Int) (ys : List Ev) (A : Option Addr) (c lo hi : Nat) (w : World) (h : OwnZ w lo hi 27 4 A ys.length c (evR.flat ys)) (hk0 : 0 ≤ k) (hk : k ≤ 10000000) (hn : ys.length ≤ 1048576) :
    Calls Tryd.prog 35 #[.slice A ys.length c, .int .i64 k] w fun e w' => e = .returned (.int .i64 (k + 4 * (ys.length : Int))) ∧
      OwnZ w' lo hi 27 4 A ys.length c (evR.flat (marksEv k ys.length)) ∧ Kept (aLo A) (aHi A) w w' := by
  rcases h.form with ⟨rfl, h0, rfl⟩ | ⟨g, rfl, h1, h2, _⟩
  · rw [h0]
    go_enter Tryd.func35, Tryd.ntmps35
    go_wp2
    go_rounds 1
    go_ret
    exact ⟨ret_int (by simp), ⟨by simp [marksEv]; exact World.ownsRow_nil _ _ _ _, by simp⟩, Kept.refl _ _ _⟩
  · exact (markEvS_any k ys g c lo w h.1 hk0 hk hn).mono fun e w' ⟨he, ho, hk⟩ => ⟨he, ⟨ho, h.2⟩, hk⟩

/-- A slice value that reads as xs. -/
def RdEv (w : World) (B : Nat) (v : Value) (xs : List Ev) : Prop := ∃ A c, v = .slice A xs.length c ∧ SL evR w B A c xs
/-- A slice value of the call's own. -/
def OwnEv (w : World) (lo hi : Nat) (v : Value) (xs : List Ev) : Prop := ∃ D d, v = .slice D xs.length d ∧ OwnZ w lo hi 27 4 D xs.length d (evR.flat xs)
section
variable {w w' : World} {B B' lo hi lo' hi' : Nat} {v : Value} {xs : List Ev}
theorem RdEv.kept (h : RdEv w B v xs) (hB : B ≤ w.heap.size) (hk : Kept lo hi w w') (hr : hi ≤ lo ∨ B ≤ lo) : RdEv w' B v xs := by
  obtain ⟨A, c, e, h⟩ := h; exact ⟨A, c, e, h.kept hB hk hr⟩
theorem RdEv.wide (h : RdEv w B v xs) (hB : B ≤ B') : RdEv w B' v xs := by
  obtain ⟨A, c, e, h⟩ := h; exact ⟨A, c, e, h.wide hB⟩
theorem RdEv.up (h : RdEv w w.heap.size v xs) (hk : Kept 0 0 w w') : RdEv w' w'.heap.size v xs := (h.kept (Nat.le_refl _) hk (.inl (Nat.le_refl _))).wide hk.size
theorem RdEv.len (h : RdEv w B v xs) : xs.length ≤ maxLen := by obtain ⟨A, c, e, h⟩ := h; exact h.rd.1
theorem OwnEv.kept (h : OwnEv w lo hi v xs) (hk : Kept lo' hi' w w') (hr : hi' ≤ lo' ∨ hi ≤ lo' ∨ hi' ≤ lo) : OwnEv w' lo hi v xs := by
  obtain ⟨A, c, e, h⟩ := h; exact ⟨A, c, e, h.kept hk hr⟩
theorem OwnEv.wide (h : OwnEv w lo hi v xs) (hl : lo' ≤ lo) (hh : hi ≤ hi') : OwnEv w lo' hi' v xs := by
  obtain ⟨A, c, e, h⟩ := h; exact ⟨A, c, e, h.wide hl hh⟩
theorem OwnEv.rd (h : OwnEv w lo hi v xs) : RdEv w hi v xs := by
  obtain ⟨D, d, e, h⟩ := h; exact ⟨D, d, e, (OwnZ.sl (R := evR) h).2⟩
theorem OwnEv.rdW (h : OwnEv w lo hi v xs) (hh : hi ≤ w.heap.size) : RdEv w w.heap.size v xs := h.rd.wide hh
theorem OwnEv.nil (w : World) (lo hi : Nat) : OwnEv w lo hi (.slice none 0 0) [] := ⟨none, 0, rfl, ⟨⟨rfl, .inl ⟨rfl, rfl⟩⟩, by intro ad h; cases h⟩⟩
end
theorem toEv (xs : List Ev) (v : Value) (w : World) (h : RdEv w w.heap.size v xs) (hn : xs.length ≤ 1048576) :
    Calls Tryd.prog 26 #[v] w fun e w' => ∃ u, e = .returned u ∧ OwnEv w' w.heap.size w'.heap.size u xs ∧ Kept 0 0 w w' := by
  obtain ⟨A, c, rfl, h⟩ := h
  exact (toEvS_any xs A c w h.rd hn).mono fun e w' ⟨D, d, he, ho, hk⟩ => ⟨_, he, ⟨D, d, rfl, ho⟩, hk⟩
theorem eqEv (xs : List Ev) (v v' : Value) (w : World) (h : RdEv w w.heap.size v xs) (h' : RdEv w w.heap.size v' xs) :
    Calls Tryd.prog 28 #[v, v'] w fun e w' => e = .returned (.bool true) ∧ Kept 0 0 w w' := by
  obtain ⟨A, c, rfl, h⟩ := h
  obtain ⟨A', c', rfl, h'⟩ := h'
  exact (eqEvS_any xs xs A A' c c' _ _ w (Nat.le_refl _) (Nat.le_refl _) h.rd h'.rd).mono fun e w' ⟨he, hk⟩ => ⟨by rw [he, decide_eq_true rfl], hk⟩
theorem szEv (xs : List Ev) (v : Value) (left : Int) (w : World) (B : Nat) (h : RdEv w B v xs) (h0 : 0 ≤ left) (h1 : left ≤ 1048576) :
    Calls Tryd.prog 24 #[v, .int .i64 left] w fun e w' => e = .returned (.int .i64 (szF left xs.length)) ∧ w = w' := by
  have hm := h.len
  obtain ⟨A, c, rfl, h⟩ := h
  exact szEvS_any A xs.length c left w h0 h1 hm
theorem markEv (k : Int) (xs : List Ev) (v : Value) (lo hi : Nat) (w : World) (h : OwnEv w lo hi v xs) (hk0 : 0 ≤ k) (hk : k ≤ 10000000) (hn : xs.length ≤ 1048576) :
    Calls Tryd.prog 35 #[v, .int .i64 k] w fun e w' => e = .returned (.int .i64 (k + 4 * (xs.length : Int))) ∧ OwnEv w' lo hi v (marksEv k xs.length) ∧ Kept lo hi w w' := by
  obtain ⟨D, d, rfl, h⟩ := h
  refine (markEvS_own k xs D d lo hi w h hk0 hk hn).mono fun e w' ⟨he, ho, hk'⟩ => ⟨he, ⟨D, d, by rw [marksEv_len], by rw [marksEv_len]; exact ho⟩, hk'.wide ?_⟩
  have := h.range
  omega
theorem heldEv (k : Int) (n : Nat) (v : Value) (w : World) (B : Nat) (h : RdEv w B v (marksEv k n)) (hk0 : 0 ≤ k) (hk : k ≤ 10000000) (hn : n ≤ 1048576) :
    Calls Tryd.prog 36 #[v, .int .i64 k] w fun e w' => e = .returned (.int .i64 (k + 4 * (n : Int))) ∧ w = w' := by
  obtain ⟨A, c, rfl, h⟩ := h
  rw [marksEv_len]
  exact heldEvS_any k n A c B w h.rd hk0 hk hn
end Go.Proofs.YtgahjachkeoflaaDoor
