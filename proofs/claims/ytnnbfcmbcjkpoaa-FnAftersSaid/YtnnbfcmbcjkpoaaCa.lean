/- Slices of records of the type After: how they lie in memory, and the helper functions of the laws over them (size, copy, compare, mark, check marks); no condition beyond what each theorem states. Written by tools/recgen.py. -/
import Derived.Test.YtnnbfcmbcjkpoaaBc
import Derived.Test.YtnnbfcmbcjkpoaaBa
namespace Go.Proofs.Ytnnbfcmbcjkpoaa
open Go.RowKit Go.Sort

structure Aft where
  slot : Int
  age : Int
  node : Int
  func : Int
  queued : Bool
deriving DecidableEq
/-- How a record lies in memory. -/
def afR : Rec Aft := ⟨5, fun x => [.int .i64 x.slot, .int .i64 x.age, .int .i64 x.node, .int .i64 x.func, .bool x.queued], fun _ => rfl, by decide, fun x u hu => by
  simp only [List.mem_cons, List.not_mem_nil, or_false] at hu
  rcases hu with rfl | rfl | rfl | rfl | rfl <;> rfl⟩
theorem afR_k : afR.k = 5 := rfl
theorem Try.infoAf : (Try.prog.info? 42).map (fun i => (i.zero, i.size, i.bytes)) = some (some (.agg #[.int .i64 0, .int .i64 0, .int .i64 0, .int .i64 0, .bool false]), 5, 40) := by kernel_rfl
theorem afSlice : SliceOf Try.prog 32 42 afR.k 40 := SliceOf.of Try.underlying32 Try.infoAf rfl
/-- What the walk wants to know of element k. -/
theorem RdR.af {w : World} {B : Nat} {A : Option Addr} {xs : List Aft} {k : Nat} (h : RdR afR w B A xs) (hk : k < xs.length) :
    ∃ ad, A = some ad ∧ ad.block < B ∧ w.cell? (ad.add (k * 5)) = some (.int .i64 xs[k].slot) ∧ w.cell? ⟨(ad.add (k * 5)).block, (ad.add (k * 5)).off + 1, none⟩ = some (.int .i64 xs[k].age) ∧ w.cell? ⟨(ad.add (k * 5)).block, (ad.add (k * 5)).off + 2, none⟩ = some (.int .i64 xs[k].node) ∧ w.cell? ⟨(ad.add (k * 5)).block, (ad.add (k * 5)).off + 3, none⟩ = some (.int .i64 xs[k].func) ∧ w.cell? ⟨(ad.add (k * 5)).block, (ad.add (k * 5)).off + 4, none⟩ = some (.bool xs[k].queued) := by
  obtain ⟨ad, e, hb, hc⟩ := h.at_ hk
  refine ⟨ad, e, hb, hc 0 _ rfl, ?_, ?_, ?_, ?_⟩
  · rw [← fieldAt_eq _ _ _ (by decide)]; exact hc 1 _ rfl
  · rw [← fieldAt_eq _ _ _ (by decide)]; exact hc 2 _ rfl
  · rw [← fieldAt_eq _ _ _ (by decide)]; exact hc 3 _ rfl
  · rw [← fieldAt_eq _ _ _ (by decide)]; exact hc 4 _ rfl
set_option maxHeartbeats 1600000 in
theorem toAf1_any (x : Aft) (w : World) :
    Calls Try.prog 74 #[.agg #[.int .i64 x.slot, .int .i64 x.age, .int .i64 x.node, .int .i64 x.func, .bool x.queued]] w fun e w' => e = .returned (.agg #[.int .i64 x.slot, .int .i64 x.age, .int .i64 x.node, .int .i64 x.func, .bool x.queued]) ∧ Kept 0 0 w w' := by
  obtain ⟨W, hW⟩ : ∃ W, W = ((w.alloc (.cells #[.int .i64 x.slot, .int .i64 x.age, .int .i64 x.node, .int .i64 x.func, .bool x.queued] 114)).alloc (.cells #[.int .i64 0, .int .i64 0, .int .i64 0, .int .i64 0, .bool false] 42)).alloc (.cells #[.int .i64 0, .int .i64 0, .int .i64 0, .int .i64 0, .bool false] 42) := ⟨_, rfl⟩
  have KW : Hid (Kept 0 0 w W) := by show Kept _ _ _ _; rw [hW]; exact ((Kept.alloc0 _ _).alloc _).alloc _
  have B0 : Hid (Blk W w.heap.size 114 #[.int .i64 x.slot, .int .i64 x.age, .int .i64 x.node, .int .i64 x.func, .bool x.queued]) := by show Blk _ _ _ _; rw [hW]; exact ((Blk.new _ _ _).alloc _).alloc _
  have B1 : Hid (Blk W (w.heap.size + 1) 42 #[.int .i64 0, .int .i64 0, .int .i64 0, .int .i64 0, .bool false]) := by
    show Blk _ _ _ _
    rw [hW]
    have := Blk.new (w.alloc (.cells #[.int .i64 x.slot, .int .i64 x.age, .int .i64 x.node, .int .i64 x.func, .bool x.queued] 114)) 42 #[.int .i64 0, .int .i64 0, .int .i64 0, .int .i64 0, .bool false]
    simp only [World.size_alloc] at this
    exact this.alloc _
  have B2 : Hid (Blk W (w.heap.size + 1 + 1) 42 #[.int .i64 0, .int .i64 0, .int .i64 0, .int .i64 0, .bool false]) := by
    show Blk _ _ _ _
    rw [hW]
    have := Blk.new ((w.alloc (.cells #[.int .i64 x.slot, .int .i64 x.age, .int .i64 x.node, .int .i64 x.func, .bool x.queued] 114)).alloc (.cells #[.int .i64 0, .int .i64 0, .int .i64 0, .int .i64 0, .bool false] 42)) 42 #[.int .i64 0, .int .i64 0, .int .i64 0, .int .i64 0, .bool false]
    simpa using this
  have HW := Lib.hid hW
  clear hW
  go_enter Try.func74, Try.ntmps74
  go_upto_region 2 with fail
  rw [← HW.out]
  have a0 : W.cell? ⟨w.heap.size, 0, none⟩ = some (.int .i64 x.slot) := B0.out.cell 0
  have a1 : W.cell? ⟨w.heap.size, 1, none⟩ = some (.int .i64 x.age) := B0.out.cell 1
  go_wp2_with fail
  with_reducible refine (toHandle_any x.slot x.age _).mono ?_
  rintro e w1 ⟨rfl, hk⟩
  have K1 := Lib.hid (KW.out.trans hk)
  have C0 := Lib.hid (B0.out.kept hk (.inl (Nat.le_refl _)))
  have C1 := Lib.hid (B1.out.kept hk (.inl (Nat.le_refl _)))
  have C2 := Lib.hid (B2.out.kept hk (.inl (Nat.le_refl _)))
  clear a0 a1 hk HW B0 B1 B2 KW
  have b0 : w1.cell? ⟨w.heap.size + 1 + 1, 0, none⟩ = some (.int .i64 0) := C2.out.cell 0
  have b1 : w1.cell? ⟨w.heap.size + 1 + 1, 1, none⟩ = some (.int .i64 0) := C2.out.cell 1
  have f0 := C2.out.frozen 0
  have f1 := C2.out.frozen 1
  obtain ⟨V, hV⟩ : ∃ V, V = (w1.setCell ⟨w.heap.size + 1 + 1, 0, none⟩ (.int .i64 x.slot)).setCell ⟨w.heap.size + 1 + 1, 1, none⟩ (.int .i64 x.age) := ⟨_, rfl⟩
  have D1 : Hid (Blk V (w.heap.size + 1 + 1) 42 #[.int .i64 x.slot, .int .i64 x.age, .int .i64 0, .int .i64 0, .bool false]) := by show Blk _ _ _ _; rw [hV]; exact (C2.out.set_ 0 _).set_ 1 _
  have D0 : Hid (Blk V w.heap.size 114 #[.int .i64 x.slot, .int .i64 x.age, .int .i64 x.node, .int .i64 x.func, .bool x.queued]) := by show Blk _ _ _ _; rw [hV]; exact (C0.out.far (by simp only; omega) _).far (by simp only; omega) _
  have D2 : Hid (Blk V (w.heap.size + 1) 42 #[.int .i64 0, .int .i64 0, .int .i64 0, .int .i64 0, .bool false]) := by show Blk _ _ _ _; rw [hV]; exact (C1.out.far (by simp only; omega) _).far (by simp only; omega) _
  have K2 : Hid (Kept 0 0 w V) := by show Kept _ _ _ _; rw [hV]; exact (K1.out.setCell (.inl (by simp only; omega)) _).setCell (.inl (by simp only; omega)) _
  have HV := Lib.hid hV
  clear hV
  go_upto_region 3 with fail
  rw [← HV.out]
  clear b0 b1 f0 f1 HV C0 C1 C2 K1
  have a2 : V.cell? ⟨w.heap.size, 2, none⟩ = some (.int .i64 x.node) := D0.out.cell 2
  have a3 : V.cell? ⟨w.heap.size, 3, none⟩ = some (.int .i64 x.func) := D0.out.cell 3
  have a4 : V.cell? ⟨w.heap.size, 4, none⟩ = some (.bool x.queued) := D0.out.cell 4
  have b2 : V.cell? ⟨w.heap.size + 1 + 1, 2, none⟩ = some (.int .i64 0) := D1.out.cell 2
  have b3 : V.cell? ⟨w.heap.size + 1 + 1, 3, none⟩ = some (.int .i64 0) := D1.out.cell 3
  have b4 : V.cell? ⟨w.heap.size + 1 + 1, 4, none⟩ = some (.bool false) := D1.out.cell 4
  have f2 := D1.out.frozen 2
  have f3 := D1.out.frozen 3
  have f4 := D1.out.frozen 4
  obtain ⟨U, hU⟩ : ∃ U, U = ((V.setCell ⟨w.heap.size + 1 + 1, 2, none⟩ (.int .i64 x.node)).setCell ⟨w.heap.size + 1 + 1, 3, none⟩ (.int .i64 x.func)).setCell ⟨w.heap.size + 1 + 1, 4, none⟩ (.bool x.queued) := ⟨_, rfl⟩
  have U1 : Hid (Blk U (w.heap.size + 1 + 1) 42 #[.int .i64 x.slot, .int .i64 x.age, .int .i64 x.node, .int .i64 x.func, .bool x.queued]) := by show Blk _ _ _ _; rw [hU]; exact ((D1.out.set_ 2 _).set_ 3 _).set_ 4 _
  have U2 : Hid (Blk U (w.heap.size + 1) 42 #[.int .i64 0, .int .i64 0, .int .i64 0, .int .i64 0, .bool false]) := by show Blk _ _ _ _; rw [hU]; exact ((D2.out.far (by simp only; omega) _).far (by simp only; omega) _).far (by simp only; omega) _
  have K3 : Hid (Kept 0 0 w U) := by show Kept _ _ _ _; rw [hU]; exact ((K2.out.setCell (.inl (by simp only; omega)) _).setCell (.inl (by simp only; omega)) _).setCell (.inl (by simp only; omega)) _
  have HU := Lib.hid hU
  clear hU
  go_upto_region 6 with fail
  rw [← HU.out]
  clear a2 a3 a4 b2 b3 b4 f2 f3 f4 HU D0 D1 D2 K2
  have b0 : U.cell? ⟨w.heap.size + 1 + 1, 0, none⟩ = some (.int .i64 x.slot) := U1.out.cell 0
  have c0 : U.cell? ⟨w.heap.size + 1, 0, none⟩ = some (.int .i64 0) := U2.out.cell 0
  have g0 := U2.out.frozen 0
  have b1 : U.cell? ⟨w.heap.size + 1 + 1, 1, none⟩ = some (.int .i64 x.age) := U1.out.cell 1
  have c1 : U.cell? ⟨w.heap.size + 1, 1, none⟩ = some (.int .i64 0) := U2.out.cell 1
  have g1 := U2.out.frozen 1
  have b2 : U.cell? ⟨w.heap.size + 1 + 1, 2, none⟩ = some (.int .i64 x.node) := U1.out.cell 2
  have c2 : U.cell? ⟨w.heap.size + 1, 2, none⟩ = some (.int .i64 0) := U2.out.cell 2
  have g2 := U2.out.frozen 2
  have b3 : U.cell? ⟨w.heap.size + 1 + 1, 3, none⟩ = some (.int .i64 x.func) := U1.out.cell 3
  have c3 : U.cell? ⟨w.heap.size + 1, 3, none⟩ = some (.int .i64 0) := U2.out.cell 3
  have g3 := U2.out.frozen 3
  have b4 : U.cell? ⟨w.heap.size + 1 + 1, 4, none⟩ = some (.bool x.queued) := U1.out.cell 4
  have c4 : U.cell? ⟨w.heap.size + 1, 4, none⟩ = some (.bool false) := U2.out.cell 4
  have g4 := U2.out.frozen 4
  obtain ⟨X, hX⟩ : ∃ X, X = ((((U.setCell ⟨w.heap.size + 1, 0, none⟩ (.int .i64 x.slot)).setCell ⟨w.heap.size + 1, 1, none⟩ (.int .i64 x.age)).setCell ⟨w.heap.size + 1, 2, none⟩ (.int .i64 x.node)).setCell ⟨w.heap.size + 1, 3, none⟩ (.int .i64 x.func)).setCell ⟨w.heap.size + 1, 4, none⟩ (.bool x.queued) := ⟨_, rfl⟩
  have BX : Blk X (w.heap.size + 1) 42 #[.int .i64 x.slot, .int .i64 x.age, .int .i64 x.node, .int .i64 x.func, .bool x.queued] := by rw [hX]; exact ((((U2.out.set_ 0 _).set_ 1 _).set_ 2 _).set_ 3 _).set_ 4 _
  have KX : Hid (Kept 0 0 w X) := by
    show Kept _ _ _ _
    rw [hX]
    exact ((((K3.out.setCell (.inl (by simp only; omega)) _).setCell (.inl (by simp only; omega)) _).setCell (.inl (by simp only; omega)) _).setCell (.inl (by simp only; omega)) _).setCell (.inl (by simp only; omega)) _
  have HX := Lib.hid hX
  have x0 : X.cell? ⟨w.heap.size + 1, 0, none⟩ = some (.int .i64 x.slot) := BX.cell 0
  have x1 : X.cell? ⟨w.heap.size + 1, 1, none⟩ = some (.int .i64 x.age) := BX.cell 1
  have x2 : X.cell? ⟨w.heap.size + 1, 2, none⟩ = some (.int .i64 x.node) := BX.cell 2
  have x3 : X.cell? ⟨w.heap.size + 1, 3, none⟩ = some (.int .i64 x.func) := BX.cell 3
  have x4 : X.cell? ⟨w.heap.size + 1, 4, none⟩ = some (.bool x.queued) := BX.cell 4
  have HXX := Lib.hid (And.intro x0 (And.intro x1 (And.intro x2 (And.intro x3 x4))))
  clear hX BX x0 x1 x2 x3 x4
  go_wp2_with fail
  rw [← HX.out]
  obtain ⟨x0, x1, x2, x3, x4⟩ := HXX.out
  exact bodyPost_ret (v := .agg #[.int .i64 x.slot, .int .i64 x.age, .int .i64 x.node, .int .i64 x.func, .bool x.queued]) (by simp [results, Try.results74, go_sem, x0, x1, x2, x3, x4]) rfl ⟨rfl, KX.out⟩

/-- What a copy in the making holds behind k rounds. -/
def afPart (xs : List Aft) (k : Nat) : List Aft := xs.take k ++ List.replicate (xs.length - k) ⟨0, 0, 0, 0, false⟩
theorem afPart_zero (xs : List Aft) : afPart xs 0 = List.replicate xs.length ⟨0, 0, 0, 0, false⟩ := by simp [afPart]
theorem afPart_all (xs : List Aft) (k : Nat) (h : xs.length ≤ k) : afPart xs k = xs := by
  simp [afPart, List.take_of_length_le h, Nat.sub_eq_zero_of_le h]
theorem afPart_len (xs : List Aft) (k : Nat) (h : k ≤ xs.length) : (afPart xs k).length = xs.length := by simp [afPart]; omega
theorem afPart_succ (xs : List Aft) (k : Nat) (h : k < xs.length) : (afPart xs k).set k xs[k] = afPart xs (k + 1) := by
  unfold afPart
  have e : xs.length - k = (xs.length - (k + 1)) + 1 := by omega
  rw [List.set_append_right _ _ (by simp; omega)]
  simp only [List.length_take, Nat.min_eq_left (Nat.le_of_lt h), Nat.sub_self]
  rw [e, List.replicate_succ, List.set_cons_zero, List.take_succ_eq_append_getElem h, List.append_assoc]
  rfl
theorem afPart_at (xs : List Aft) (k : Nat) (h : k < xs.length) : (afPart xs k)[k]'(by rw [afPart_len xs k (Nat.le_of_lt h)]; exact h) = ⟨0, 0, 0, 0, false⟩ := by
  unfold afPart
  rw [List.getElem_append_right (by simp; omega)]
  simp

/-- The stores of one record. -/
theorem own_putAf {w : World} {base e n c g : Nat} {xs : List Aft} (h : w.ownsRow base e 5 (.slice (some ⟨g, 0, none⟩) n c) n (afR.flat xs)) {i : Nat} (hi : i < xs.length) (x : Aft) :
    (((((w.setCell ⟨g, i * 5, none⟩ (.int .i64 x.slot)).setCell ⟨g, i * 5 + 1, none⟩ (.int .i64 x.age)).setCell ⟨g, i * 5 + 2, none⟩ (.int .i64 x.node)).setCell ⟨g, i * 5 + 3, none⟩ (.int .i64 x.func)).setCell ⟨g, i * 5 + 4, none⟩ (.bool x.queued)).ownsRow base e 5 (.slice (some ⟨g, 0, none⟩) n c) n (afR.flat (xs.set i x)) := by
  have h1 := (((((h.stored (i * 5) (.int .i64 x.slot)).1.stored (i * 5 + 1) (.int .i64 x.age)).1.stored (i * 5 + 2) (.int .i64 x.node)).1.stored (i * 5 + 3) (.int .i64 x.func)).1.stored (i * 5 + 4) (.bool x.queued)).1
  have hl : (afR.flat xs).length = xs.length * 5 := afR.flat_len xs
  have e1 : ((((((afR.flat xs).set (i * 5) (.int .i64 x.slot)).set (i * 5 + 1) (.int .i64 x.age)).set (i * 5 + 2) (.int .i64 x.node)).set (i * 5 + 3) (.int .i64 x.func)).set (i * 5 + 4) (.bool x.queued)) = afR.flat (xs.set i x) := by
    rw [← afR.flat_set xs i x hi]
    rw [← putAt_nil ((((((afR.flat xs).set (i * 5) (.int .i64 x.slot)).set (i * 5 + 1) (.int .i64 x.age)).set (i * 5 + 2) (.int .i64 x.node)).set (i * 5 + 3) (.int .i64 x.func)).set (i * 5 + 4) (.bool x.queued)) (i * 5 + 4 + 1)]
    rw [putAt_cons _ _ _ _ (by simp; omega), putAt_cons _ _ _ _ (by simp; omega), putAt_cons _ _ _ _ (by simp; omega), putAt_cons _ _ _ _ (by simp; omega), putAt_cons _ _ _ _ (by omega)]
    rfl
  rw [e1] at h1
  exact h1

set_option maxHeartbeats 800000 in
theorem toAfS_any (xs : List Aft) (A : Option Addr) (c : Nat) (w : World) (h : RdR afR w w.heap.size A xs) (hn : xs.length ≤ 1048576) :
    Calls Try.prog 51 #[.slice A xs.length c] w fun e w' => ∃ (B : Option Addr) (b : Nat), e = .returned (.slice B xs.length b) ∧
      OwnZ w' w.heap.size w'.heap.size 42 5 B xs.length b (afR.flat xs) ∧ Kept 0 0 w w' := by
  obtain ⟨i0, hi, hz0, hz1, hz2⟩ := info_parts Try.infoAf
  have H := Lib.hid h
  clear h
  go_enter Try.func51, Try.ntmps51
  go_wp2_with (refine wpList_make_full _ rfl _ _ 32 rfl w.heap.size 42 i0 (.agg #[.int .i64 0, .int .i64 0, .int .i64 0, .int .i64 0, .bool false]) 5 Try.underlying32 hi hz0 hz1 _ _ _ _ xs.length rfl rfl rfl rfl (by rw [hz2]; omega) (by unfold maxLen; omega) (Nat.le_refl _) ?_; intro w1 hown hg)
  have hown1 : w1.ownsRow w.heap.size 42 5 (.slice (some ⟨w.heap.size, 0, none⟩) xs.length xs.length) xs.length (afR.flat (afPart xs 0)) := by
    rw [afPart_zero, ← afR.made]; exact hown
  have HO := Lib.hid hown1
  have HK := Lib.hid (Kept.of_below (Below.of_grown_none hg) 0 0)
  clear hown hg hown1 hi hz0 hz1 hz2
  go_loopw [4] (fun i wr => ∃ k : Nat, k ≤ xs.length ∧ i = .int .i64 k ∧ Hid (wr.ownsRow w.heap.size 42 5 (.slice (some ⟨w.heap.size, 0, none⟩) xs.length xs.length) xs.length (afR.flat (afPart xs k))) ∧ Hid (Kept 0 0 w wr)) (fun i _ => xs.length - (intOf i).toNat)
  case atStart => exact ⟨0, Nat.zero_le _, rfl, HO, HK⟩
  case round =>
    clear HO HK
    obtain ⟨k, hk, rfl, HO, HK⟩ := hrel
    by_cases hlt : k < xs.length
    · obtain ⟨ad, rfl, _, c0, c1, c2, c3, c4⟩ := (H.out.kept (Nat.le_refl _) HK.out (.inl (Nat.le_refl _))).af hlt
      have i1 : (k : Int) < (xs.length : Int) := by omega
      go_wp2_with fail
      with_reducible refine (toAf1_any xs[k] _).mono ?_
      rintro e w2 ⟨rfl, hk2⟩
      have HO2 := Lib.hid (row_kept HO.out hk2)
      have HK2 := Lib.hid (HK.out.trans hk2)
      clear hk2 c0 c1 c2 c3 c4 HO HK
      have hpl : k < (afPart xs k).length := by rw [afPart_len xs k hk]; exact hlt
      have c0 : w2.cell? ⟨w.heap.size, k * 5, none⟩ = some (.int .i64 0) := own_at (R := afR) HO2.out hpl 0 (by rw [afPart_at xs k hlt]; rfl)
      have c1 : w2.cell? ⟨w.heap.size, k * 5 + 1, none⟩ = some (.int .i64 0) := own_at (R := afR) HO2.out hpl 1 (by rw [afPart_at xs k hlt]; rfl)
      have c2 : w2.cell? ⟨w.heap.size, k * 5 + 2, none⟩ = some (.int .i64 0) := own_at (R := afR) HO2.out hpl 2 (by rw [afPart_at xs k hlt]; rfl)
      have c3 : w2.cell? ⟨w.heap.size, k * 5 + 3, none⟩ = some (.int .i64 0) := own_at (R := afR) HO2.out hpl 3 (by rw [afPart_at xs k hlt]; rfl)
      have c4 : w2.cell? ⟨w.heap.size, k * 5 + 4, none⟩ = some (.bool false) := own_at (R := afR) HO2.out hpl 4 (by rw [afPart_at xs k hlt]; rfl)
      have f0 : w2.frozen? ⟨w.heap.size, k * 5, none⟩ = false := HO2.out.frozenAt _
      have f1 : w2.frozen? ⟨w.heap.size, k * 5 + 1, none⟩ = false := HO2.out.frozenAt _
      have f2 : w2.frozen? ⟨w.heap.size, k * 5 + 2, none⟩ = false := HO2.out.frozenAt _
      have f3 : w2.frozen? ⟨w.heap.size, k * 5 + 3, none⟩ = false := HO2.out.frozenAt _
      have f4 : w2.frozen? ⟨w.heap.size, k * 5 + 4, none⟩ = false := HO2.out.frozenAt _
      have HP := Lib.hid hpl
      clear hpl
      go_wp2
      go_roundw
      case rel => exact ⟨k + 1, by omega, by go_num, Lib.hid (by rw [← afPart_succ _ _ hlt]; exact own_putAf HO2.out HP.out xs[k]), Lib.hid (((((HK2.out.setCell (.inl (by simp)) _).setCell (.inl (by simp)) _).setCell (.inl (by simp)) _).setCell (.inl (by simp)) _).setCell (.inl (by simp)) _)⟩
      case measure => simp [intOf]; omega
    · go_wp2
      go_ret
      refine ⟨_, _, rfl, OwnZ.mk_ (by have := HO.out; rw [afPart_all xs k (by omega)] at this; exact this) (HO.out.lt _ rfl).2, HK.out⟩

theorem Aft.ext_iff' {a b : Aft} : a = b ↔ a.slot = b.slot ∧ a.age = b.age ∧ a.node = b.node ∧ a.func = b.func ∧ a.queued = b.queued := by cases a; cases b; simp
set_option maxHeartbeats 1600000 in
theorem eqAf1_any (a b : Aft) (w : World) :
    Calls Try.prog 33 #[.agg #[.int .i64 a.slot, .int .i64 a.age, .int .i64 a.node, .int .i64 a.func, .bool a.queued], .agg #[.int .i64 b.slot, .int .i64 b.age, .int .i64 b.node, .int .i64 b.func, .bool b.queued]] w fun e w' => e = .returned (.bool (decide (a = b))) ∧ Kept 0 0 w w' := by
  obtain ⟨W, hW⟩ : ∃ W, W = (w.alloc (.cells #[.int .i64 a.slot, .int .i64 a.age, .int .i64 a.node, .int .i64 a.func, .bool a.queued] 42)).alloc (.cells #[.int .i64 b.slot, .int .i64 b.age, .int .i64 b.node, .int .i64 b.func, .bool b.queued] 42) := ⟨_, rfl⟩
  have KW : Hid (Kept 0 0 w W) := by show Kept _ _ _ _; rw [hW]; exact (Kept.alloc0 _ _).alloc _
  have B0 : Hid (Blk W w.heap.size 42 #[.int .i64 a.slot, .int .i64 a.age, .int .i64 a.node, .int .i64 a.func, .bool a.queued]) := by show Blk _ _ _ _; rw [hW]; exact (Blk.new _ _ _).alloc _
  have B1 : Hid (Blk W (w.heap.size + 1) 42 #[.int .i64 b.slot, .int .i64 b.age, .int .i64 b.node, .int .i64 b.func, .bool b.queued]) := by
    show Blk _ _ _ _
    rw [hW]
    have := Blk.new (w.alloc (.cells #[.int .i64 a.slot, .int .i64 a.age, .int .i64 a.node, .int .i64 a.func, .bool a.queued] 42)) 42 #[.int .i64 b.slot, .int .i64 b.age, .int .i64 b.node, .int .i64 b.func, .bool b.queued]
    simpa using this
  have HW := Lib.hid hW
  clear hW
  go_enter Try.func33, Try.ntmps33
  go_upto_region 1 with fail
  rw [← HW.out]
  have a0 : W.cell? ⟨w.heap.size, 0, none⟩ = some (.int .i64 a.slot) := B0.out.cell 0
  have a1 : W.cell? ⟨w.heap.size, 1, none⟩ = some (.int .i64 a.age) := B0.out.cell 1
  have b0 : W.cell? ⟨w.heap.size + 1, 0, none⟩ = some (.int .i64 b.slot) := B1.out.cell 0
  have b1 : W.cell? ⟨w.heap.size + 1, 1, none⟩ = some (.int .i64 b.age) := B1.out.cell 1
  go_wp2_with fail
  with_reducible refine (eqHandle_any a.slot a.age b.slot b.age _).mono ?_
  rintro e w1 ⟨rfl, hk⟩
  have K1 := Lib.hid (KW.out.trans hk)
  have C0 := B0.out.kept hk (.inl (Nat.le_refl _))
  have C1 := B1.out.kept hk (.inl (Nat.le_refl _))
  clear a0 a1 b0 b1 hk
  have c2 : w1.cell? ⟨w.heap.size, 2, none⟩ = some (.int .i64 a.node) := C0.cell 2
  have d2 : w1.cell? ⟨w.heap.size + 1, 2, none⟩ = some (.int .i64 b.node) := C1.cell 2
  have c3 : w1.cell? ⟨w.heap.size, 3, none⟩ = some (.int .i64 a.func) := C0.cell 3
  have d3 : w1.cell? ⟨w.heap.size + 1, 3, none⟩ = some (.int .i64 b.func) := C1.cell 3
  have c4 : w1.cell? ⟨w.heap.size, 4, none⟩ = some (.bool a.queued) := C0.cell 4
  have d4 : w1.cell? ⟨w.heap.size + 1, 4, none⟩ = some (.bool b.queued) := C1.cell 4
  clear C0 C1
  by_cases h0 : a.slot = b.slot ∧ a.age = b.age
  case neg =>
    have E : Hid (decide (a = b) = false) := decide_eq_false (fun h => h0 (by rw [h]; exact ⟨rfl, rfl⟩))
    rw [decide_eq_false h0]
    clear h0
    go_wp2
    go_ret
    exact ⟨ret_bool E.out.symm, K1.out⟩
  have hh := Lib.hid h0
  rw [decide_eq_true h0]
  clear h0
  cases g2 : (a.node != b.node)
  · skip
    cases g3 : (a.func != b.func)
    · skip
      cases g4 : (!(a.queued == b.queued))
      · skip
        have E : Hid (decide (a = b) = true) := decide_eq_true (Aft.ext_iff'.2 ⟨hh.out.1, hh.out.2, by simpa using g2, by simpa using g3, by simpa using g4⟩)
        go_wp2
        go_ret
        exact ⟨ret_bool E.out.symm, K1.out⟩
      · have E : Hid (decide (a = b) = false) := decide_eq_false (fun h => by rw [h] at g4; simp at g4)
        go_wp2
        go_ret
        exact ⟨ret_bool E.out.symm, K1.out⟩
    · have E : Hid (decide (a = b) = false) := decide_eq_false (fun h => by rw [h] at g3; simp at g3)
      go_wp2
      go_ret
      exact ⟨ret_bool E.out.symm, K1.out⟩
  · have E : Hid (decide (a = b) = false) := decide_eq_false (fun h => by rw [h] at g2; simp at g2)
    go_wp2
    go_ret
    exact ⟨ret_bool E.out.symm, K1.out⟩

set_option maxHeartbeats 800000 in
theorem eqAfS_any (xs ys : List Aft) (A A' : Option Addr) (c c' B B' : Nat) (w : World) (hB : B ≤ w.heap.size) (hB' : B' ≤ w.heap.size) (h : RdR afR w B A xs) (h' : RdR afR w B' A' ys) :
    Calls Try.prog 53 #[.slice A xs.length c, .slice A' ys.length c'] w fun e w' => e = .returned (.bool (decide (xs = ys))) ∧ Kept 0 0 w w' := by
  have hx := h.1
  have hy := h'.1
  unfold maxLen at hx hy
  have H := Lib.hid h
  have H' := Lib.hid h'
  clear h h'
  by_cases hl : xs.length = ys.length
  · have hb : (((xs.length : Int)) != ((ys.length : Int))) = false := by simp [hl]
    have HL := Lib.hid hl
    clear hl
    go_enter Try.func53, Try.ntmps53
    go_wp2
    go_loopw [5] (fun i wr => ∃ k : Nat, k ≤ xs.length ∧ i = .int .i64 k ∧ Hid (xs.take k = ys.take k) ∧ Hid (Kept 0 0 w wr)) (fun i _ => xs.length - (intOf i).toNat)
    case atStart => exact ⟨0, Nat.zero_le _, rfl, Lib.hid rfl, Lib.hid (Kept.refl _ _ _)⟩
    case round =>
      obtain ⟨k, hk, rfl, HT, HK⟩ := hrel
      by_cases hlt : k < xs.length
      · have hlt' : k < ys.length := by have := HL.out; omega
        obtain ⟨ad, rfl, _, c0, c1, c2, c3, c4⟩ := (H.out.kept hB HK.out (.inl (Nat.le_refl _))).af hlt
        obtain ⟨ad', rfl, _, d0, d1, d2, d3, d4⟩ := (H'.out.kept hB' HK.out (.inl (Nat.le_refl _))).af hlt'
        have k0 := cell_regrown c0
        have k1 := cell_regrown c1
        have k2 := cell_regrown c2
        have k3 := cell_regrown c3
        have k4 := cell_regrown c4
        have j0 := cell_regrown d0
        have j1 := cell_regrown d1
        have j2 := cell_regrown d2
        have j3 := cell_regrown d3
        have j4 := cell_regrown d4
        clear c0 c1 c2 c3 c4 d0 d1 d2 d3 d4
        have i1 : (k : Int) < (xs.length : Int) := by omega
        have i2 : (k : Int) < (ys.length : Int) := by omega
        have CO := Lib.hid (fun d os => regrown_call (eqAf1_any xs[k] ys[k] (grow (redrawn wr d) os)))
        go_wp2_with fail
        by_cases he : xs[k] = ys[k]
        · rw [decide_eq_true he] at CO
          have HT' := Lib.hid (take_eq_succ HT.out hlt hlt' he)
          clear he HT
          refine wp_region_quiet_below (by kernel_rfl) (by kernel_rfl) ?_
          repeat (first | go_big_quiet_step (exact CO.out _ _) | quiet_step (exact CO.out _ _))
          refine wpQuiet_nil ?_
          intro _ hw'
          obtain ⟨⟨dq, osq⟩, hw''⟩ := hw'
          subst hw''
          clear k0 k1 k2 k3 k4 j0 j1 j2 j3 j4 CO
          go_wp2
          go_roundw
          case rel => exact ⟨k + 1, by omega, by go_num, HT', Lib.hid (HK.out.trans (Kept.regrown _ _ _))⟩
          case measure => simp [intOf]; omega
        · rw [decide_eq_false he] at CO
          have HE := Lib.hid (ne_of_at hlt hlt' he)
          clear he HT
          refine wp_region_quiet_below (by kernel_rfl) (by kernel_rfl) ?_
          repeat (first | go_big_quiet_step (exact CO.out _ _) | quiet_step (exact CO.out _ _))
          refine wpQuiet_nil ?_
          intro _ hw'
          obtain ⟨⟨dq, osq⟩, hw''⟩ := hw'
          subst hw''
          clear k0 k1 k2 k3 k4 j0 j1 j2 j3 j4 CO
          go_wp2
          go_ret
          exact ⟨ret_bool (decide_eq_false HE.out).symm, HK.out.trans (Kept.regrown _ _ _)⟩
      · go_wp2
        go_ret
        exact ⟨ret_bool (decide_eq_true (take_eq_all HT.out (by omega) (by have := HL.out; omega))).symm, HK.out⟩
  · have hb : (((xs.length : Int)) != ((ys.length : Int))) = true := by simp; omega
    have HL := Lib.hid hl
    clear hl
    go_enter Try.func53, Try.ntmps53
    go_wp2
    go_ret
    exact ⟨ret_bool (decide_eq_false (fun he => HL.out (by rw [he]))).symm, Kept.refl _ _ _⟩

set_option maxHeartbeats 400000 in
theorem szAfS_any (A : Option Addr) (n c : Nat) (left : Int) (w : World) (h0 : 0 ≤ left) (h1 : left ≤ 1048576) (hn : n ≤ maxLen) :
    Calls Try.prog 45 #[.slice A n c, .int .i64 left] w fun e w' => e = .returned (.int .i64 (szF left n)) ∧ w = w' := by
  unfold maxLen at hn
  by_cases hl : left - n < 0
  · have H := Lib.hid hl
    go_enter Try.func45, Try.ntmps45
    go_wp2
    go_ret
    exact ⟨ret_int (szF_neg (by have := H.out; omega)).symm, rfl⟩
  · have H := Lib.hid hl
    go_enter Try.func45, Try.ntmps45
    go_wp2
    go_ret
    exact ⟨ret_int (szF_pos (by have := H.out; omega)).symm, rfl⟩

/-- What the marks write: k, k+1, .. -/
def afMark (k : Int) (i : Nat) : Aft := ⟨k + 5 * i, k + 5 * i + 1, k + 5 * i + 1 + 1, k + 5 * i + 1 + 1 + 1, ((k + 5 * i + 1 + 1 + 1 + 1) % 3 == 0)⟩
def marksAf (k : Int) (n : Nat) : List Aft := (List.range n).map (afMark k)
theorem marksAf_len (k : Int) (n : Nat) : (marksAf k n).length = n := by simp [marksAf]
theorem marksAf_at (k : Int) (n i : Nat) (h : i < (marksAf k n).length) : (marksAf k n)[i] = afMark k i := by simp [marksAf]

set_option maxHeartbeats 800000 in
theorem heldAfS_any (k : Int) (n : Nat) (A : Option Addr) (c B : Nat) (w : World) (h : RdR afR w B A (marksAf k n)) (hk0 : 0 ≤ k) (hk : k ≤ 10000000) (hn : n ≤ 1048576) :
    Calls Try.prog 58 #[.slice A n c, .int .i64 k] w fun e w' => e = .returned (.int .i64 (k + 5 * (n : Int))) ∧ w = w' := by
  have H := Lib.hid h
  clear h
  go_enter Try.func58, Try.ntmps58
  go_wp2
  go_loop [1, 5] (fun q i => ∃ j : Nat, j ≤ n ∧ i = .int .i64 j ∧ q = .int .i64 (k + 5 * (j : Int))) (fun _ i => n - (intOf i).toNat)
  case atStart => exact ⟨0, Nat.zero_le _, rfl, by go_num⟩
  case round =>
    obtain ⟨j, hj, rfl, rfl⟩ := hrel
    by_cases hlt : j < n
    · have hm : j < (marksAf k n).length := by rw [marksAf_len]; exact hlt
      obtain ⟨ad, rfl, _, c0, c1, c2, c3, c4⟩ := H.out.af hm
      rw [marksAf_at] at c0 c1 c2 c3 c4
      simp only [afMark] at c0 c1 c2 c3 c4
      have i1 : (j : Int) < (n : Int) := by omega
      go_wp2
      go_round
      case rel => exact ⟨j + 1, by omega, by go_num, by rw [show k + 5 * ((j + 1 : Nat) : Int) = k + 5 * (j : Int) + 1 + 1 + 1 + 1 + 1 from by omega]⟩
      case measure => simp [intOf]; omega
    · go_wp2
      go_ret
      exact ⟨ret_int (by omega), rfl⟩

/-- The first j records of a row marked. -/
def afMarked (k : Int) (ys : List Aft) (j : Nat) : List Aft := marksAf k j ++ ys.drop j
theorem afMarked_zero (k : Int) (ys : List Aft) : afMarked k ys 0 = ys := by simp [afMarked, marksAf]
theorem afMarked_len (k : Int) (ys : List Aft) (j : Nat) (h : j ≤ ys.length) : (afMarked k ys j).length = ys.length := by simp [afMarked, marksAf_len]; omega
theorem afMarked_all (k : Int) (ys : List Aft) : afMarked k ys ys.length = marksAf k ys.length := by simp [afMarked]
theorem afMarked_at (k : Int) (ys : List Aft) (j : Nat) (h : j < ys.length) : (afMarked k ys j)[j]'(by rw [afMarked_len k ys j (Nat.le_of_lt h)]; exact h) = ys[j] := by
  unfold afMarked
  rw [List.getElem_append_right (by rw [marksAf_len]; exact Nat.le_refl _)]
  simp [marksAf_len]
theorem afMarked_succ (k : Int) (ys : List Aft) (j : Nat) (h : j < ys.length) : (afMarked k ys j).set j (afMark k j) = afMarked k ys (j + 1) := by
  unfold afMarked
  rw [List.set_append_right _ _ (by rw [marksAf_len]; exact Nat.le_refl _), marksAf_len, Nat.sub_self, List.drop_eq_getElem_cons h, List.set_cons_zero]
  simp [marksAf, List.range_succ]

set_option maxHeartbeats 1600000 in
theorem markAfS_any (k : Int) (ys : List Aft) (g cap base : Nat) (w : World) (h : w.ownsRow base 42 5 (.slice (some ⟨g, 0, none⟩) ys.length cap) ys.length (afR.flat (ys))) (hk0 : 0 ≤ k) (hk : k ≤ 10000000) (hn : ys.length ≤ 1048576) :
    Calls Try.prog 56 #[.slice (some ⟨g, 0, none⟩) ys.length cap, .int .i64 k] w fun e w' => e = .returned (.int .i64 (k + 5 * (ys.length : Int))) ∧
      w'.ownsRow base 42 5 (.slice (some ⟨g, 0, none⟩) ys.length cap) ys.length (afR.flat (marksAf k ys.length)) ∧ Kept g (g + 1) w w' := by
  have HO : Hid (w.ownsRow base 42 5 (.slice (some ⟨g, 0, none⟩) ys.length cap) ys.length (afR.flat (afMarked k ys 0))) := by rw [afMarked_zero]; exact h
  clear h
  go_enter Try.func56, Try.ntmps56
  go_wp2
  go_loopw [1, 5] (fun q i wr => ∃ j : Nat, j ≤ ys.length ∧ i = .int .i64 j ∧ q = .int .i64 (k + 5 * (j : Int)) ∧ Hid (wr.ownsRow base 42 5 (.slice (some ⟨g, 0, none⟩) ys.length cap) ys.length (afR.flat (afMarked k ys j))) ∧ Hid (Kept g (g + 1) w wr)) (fun _ i _ => ys.length - (intOf i).toNat)
  case atStart => exact ⟨0, Nat.zero_le _, rfl, by go_num, HO, Lib.hid (Kept.refl _ _ _)⟩
  case round =>
    clear HO
    obtain ⟨j, hj, rfl, rfl, HO, HK⟩ := hrel
    by_cases hlt : j < ys.length
    · have hpl : j < (afMarked k ys j).length := by rw [afMarked_len k ys j hj]; exact hlt
      have hat := afMarked_at k ys j hlt
      have c0 : wr.cell? ⟨g, j * 5, none⟩ = some (.int .i64 ys[j].slot) := own_at (R := afR) HO.out hpl 0 (by rw [hat]; rfl)
      have c1 : wr.cell? ⟨g, j * 5 + 1, none⟩ = some (.int .i64 ys[j].age) := own_at (R := afR) HO.out hpl 1 (by rw [hat]; rfl)
      have c2 : wr.cell? ⟨g, j * 5 + 2, none⟩ = some (.int .i64 ys[j].node) := own_at (R := afR) HO.out hpl 2 (by rw [hat]; rfl)
      have c3 : wr.cell? ⟨g, j * 5 + 3, none⟩ = some (.int .i64 ys[j].func) := own_at (R := afR) HO.out hpl 3 (by rw [hat]; rfl)
      have c4 : wr.cell? ⟨g, j * 5 + 4, none⟩ = some (.bool ys[j].queued) := own_at (R := afR) HO.out hpl 4 (by rw [hat]; rfl)
      have f0 : wr.frozen? ⟨g, j * 5, none⟩ = false := HO.out.frozenAt _
      have f1 : wr.frozen? ⟨g, j * 5 + 1, none⟩ = false := HO.out.frozenAt _
      have f2 : wr.frozen? ⟨g, j * 5 + 2, none⟩ = false := HO.out.frozenAt _
      have f3 : wr.frozen? ⟨g, j * 5 + 3, none⟩ = false := HO.out.frozenAt _
      have f4 : wr.frozen? ⟨g, j * 5 + 4, none⟩ = false := HO.out.frozenAt _
      have HP := Lib.hid hpl
      have i1 : (j : Int) < (ys.length : Int) := by omega
      clear hpl hat
      go_wp2
      go_roundw
      case rel =>
        refine ⟨j + 1, by omega, by go_num, by rw [show k + 5 * ((j + 1 : Nat) : Int) = k + 5 * (j : Int) + 1 + 1 + 1 + 1 + 1 from by omega], Lib.hid ?_, Lib.hid (((((HK.out.setCell (.inr ⟨Nat.le_refl _, Nat.lt_succ_self _⟩) _).setCell (.inr ⟨Nat.le_refl _, Nat.lt_succ_self _⟩) _).setCell (.inr ⟨Nat.le_refl _, Nat.lt_succ_self _⟩) _).setCell (.inr ⟨Nat.le_refl _, Nat.lt_succ_self _⟩) _).setCell (.inr ⟨Nat.le_refl _, Nat.lt_succ_self _⟩) _)⟩
        rw [← afMarked_succ k ys j hlt]
        have := own_putAf HO.out HP.out (afMark k j)
        simpa only [afMark] using this
      case measure => simp [intOf]; omega
    · have e : j = ys.length := by omega
      subst e
      go_wp2
      go_ret
      exact ⟨rfl, by rw [← afMarked_all]; exact HO.out, HK.out⟩
theorem markAfS_own (k : Int) (ys : List Aft) (A : Option Addr) (c lo hi : Nat) (w : World) (h : OwnZ w lo hi 42 5 A ys.length c (afR.flat ys)) (hk0 : 0 ≤ k) (hk : k ≤ 10000000) (hn : ys.length ≤ 1048576) :
    Calls Try.prog 56 #[.slice A ys.length c, .int .i64 k] w fun e w' => e = .returned (.int .i64 (k + 5 * (ys.length : Int))) ∧
      OwnZ w' lo hi 42 5 A ys.length c (afR.flat (marksAf k ys.length)) ∧ Kept (aLo A) (aHi A) w w' := by
  rcases h.form with ⟨rfl, h0, rfl⟩ | ⟨g, rfl, h1, h2, _⟩
  · rw [h0]
    go_enter Try.func56, Try.ntmps56
    go_wp2
    go_rounds 1
    go_ret
    exact ⟨ret_int (by simp), ⟨by simp [marksAf]; exact World.ownsRow_nil _ _ _ _, by simp⟩, Kept.refl _ _ _⟩
  · exact (markAfS_any k ys g c lo w h.1 hk0 hk hn).mono fun e w' ⟨he, ho, hk⟩ => ⟨he, ⟨ho, h.2⟩, hk⟩

/-- A slice value that reads as xs. -/
def RdAf (w : World) (B : Nat) (v : Value) (xs : List Aft) : Prop := ∃ A c, v = .slice A xs.length c ∧ SL afR w B A c xs
/-- A slice value of the call's own. -/
def OwnAf (w : World) (lo hi : Nat) (v : Value) (xs : List Aft) : Prop := ∃ D d, v = .slice D xs.length d ∧ OwnZ w lo hi 42 5 D xs.length d (afR.flat xs)
section
variable {w w' : World} {B B' lo hi lo' hi' : Nat} {v : Value} {xs : List Aft}
theorem RdAf.kept (h : RdAf w B v xs) (hB : B ≤ w.heap.size) (hk : Kept lo hi w w') (hr : hi ≤ lo ∨ B ≤ lo) : RdAf w' B v xs := by
  obtain ⟨A, c, e, h⟩ := h; exact ⟨A, c, e, h.kept hB hk hr⟩
theorem RdAf.wide (h : RdAf w B v xs) (hB : B ≤ B') : RdAf w B' v xs := by
  obtain ⟨A, c, e, h⟩ := h; exact ⟨A, c, e, h.wide hB⟩
theorem RdAf.up (h : RdAf w w.heap.size v xs) (hk : Kept 0 0 w w') : RdAf w' w'.heap.size v xs := (h.kept (Nat.le_refl _) hk (.inl (Nat.le_refl _))).wide hk.size
theorem RdAf.len (h : RdAf w B v xs) : xs.length ≤ maxLen := by obtain ⟨A, c, e, h⟩ := h; exact h.rd.1
theorem OwnAf.kept (h : OwnAf w lo hi v xs) (hk : Kept lo' hi' w w') (hr : hi' ≤ lo' ∨ hi ≤ lo' ∨ hi' ≤ lo) : OwnAf w' lo hi v xs := by
  obtain ⟨A, c, e, h⟩ := h; exact ⟨A, c, e, h.kept hk hr⟩
theorem OwnAf.wide (h : OwnAf w lo hi v xs) (hl : lo' ≤ lo) (hh : hi ≤ hi') : OwnAf w lo' hi' v xs := by
  obtain ⟨A, c, e, h⟩ := h; exact ⟨A, c, e, h.wide hl hh⟩
theorem OwnAf.rd (h : OwnAf w lo hi v xs) : RdAf w hi v xs := by
  obtain ⟨D, d, e, h⟩ := h; exact ⟨D, d, e, (OwnZ.sl (R := afR) h).2⟩
theorem OwnAf.rdW (h : OwnAf w lo hi v xs) (hh : hi ≤ w.heap.size) : RdAf w w.heap.size v xs := h.rd.wide hh
theorem OwnAf.nil (w : World) (lo hi : Nat) : OwnAf w lo hi (.slice none 0 0) [] := ⟨none, 0, rfl, ⟨⟨rfl, .inl ⟨rfl, rfl⟩⟩, by intro ad h; cases h⟩⟩
end
theorem toAf (xs : List Aft) (v : Value) (w : World) (h : RdAf w w.heap.size v xs) (hn : xs.length ≤ 1048576) :
    Calls Try.prog 51 #[v] w fun e w' => ∃ u, e = .returned u ∧ OwnAf w' w.heap.size w'.heap.size u xs ∧ Kept 0 0 w w' := by
  obtain ⟨A, c, rfl, h⟩ := h
  exact (toAfS_any xs A c w h.rd hn).mono fun e w' ⟨D, d, he, ho, hk⟩ => ⟨_, he, ⟨D, d, rfl, ho⟩, hk⟩
theorem eqAf (xs : List Aft) (v v' : Value) (w : World) (h : RdAf w w.heap.size v xs) (h' : RdAf w w.heap.size v' xs) :
    Calls Try.prog 53 #[v, v'] w fun e w' => e = .returned (.bool true) ∧ Kept 0 0 w w' := by
  obtain ⟨A, c, rfl, h⟩ := h
  obtain ⟨A', c', rfl, h'⟩ := h'
  exact (eqAfS_any xs xs A A' c c' _ _ w (Nat.le_refl _) (Nat.le_refl _) h.rd h'.rd).mono fun e w' ⟨he, hk⟩ => ⟨by rw [he, decide_eq_true rfl], hk⟩
theorem szAf (xs : List Aft) (v : Value) (left : Int) (w : World) (B : Nat) (h : RdAf w B v xs) (h0 : 0 ≤ left) (h1 : left ≤ 1048576) :
    Calls Try.prog 45 #[v, .int .i64 left] w fun e w' => e = .returned (.int .i64 (szF left xs.length)) ∧ w = w' := by
  have hm := h.len
  obtain ⟨A, c, rfl, h⟩ := h
  exact szAfS_any A xs.length c left w h0 h1 hm
theorem markAf (k : Int) (xs : List Aft) (v : Value) (lo hi : Nat) (w : World) (h : OwnAf w lo hi v xs) (hk0 : 0 ≤ k) (hk : k ≤ 10000000) (hn : xs.length ≤ 1048576) :
    Calls Try.prog 56 #[v, .int .i64 k] w fun e w' => e = .returned (.int .i64 (k + 5 * (xs.length : Int))) ∧ OwnAf w' lo hi v (marksAf k xs.length) ∧ Kept lo hi w w' := by
  obtain ⟨D, d, rfl, h⟩ := h
  refine (markAfS_own k xs D d lo hi w h hk0 hk hn).mono fun e w' ⟨he, ho, hk'⟩ => ⟨he, ⟨D, d, by rw [marksAf_len], by rw [marksAf_len]; exact ho⟩, hk'.wide ?_⟩
  have := h.range
  omega
theorem heldAf (k : Int) (n : Nat) (v : Value) (w : World) (B : Nat) (h : RdAf w B v (marksAf k n)) (hk0 : 0 ≤ k) (hk : k ≤ 10000000) (hn : n ≤ 1048576) :
    Calls Try.prog 58 #[v, .int .i64 k] w fun e w' => e = .returned (.int .i64 (k + 5 * (n : Int))) ∧ w = w' := by
  obtain ⟨A, c, rfl, h⟩ := h
  rw [marksAf_len]
  exact heldAfS_any k n A c B w h.rd hk0 hk hn
end Go.Proofs.Ytnnbfcmbcjkpoaa
