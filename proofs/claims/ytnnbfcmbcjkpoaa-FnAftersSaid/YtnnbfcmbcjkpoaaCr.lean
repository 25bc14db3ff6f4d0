/- The library's IndexFunc and DeleteFunc at handles, for the program's test on a handle: what the test says no to stays; condition: the row is the call's own. -/
import Derived.Test.YtnnbfcmbcjkpoaaCq
import Derived.Lib.SliceRun
namespace Go.Proofs.Ytnnbfcmbcjkpoaa
open Go.RowKit Go.Sort

theorem zeroHd : ∀ w, (zeroValue 40).run Try.prog w = .ok (.agg #[.int .i64 0, .int .i64 0]) w := by
  intro w
  obtain ⟨i, h1, h2, h3, h4⟩ := info_parts Try.infoHd
  simp [zeroValue, typeInfo, h1, h2]
theorem zeros_two (n : Nat) : (Builtin.zeroCells #[Value.int .i64 0, Value.int .i64 0] n).toList = List.replicate (n * 2) (.int .i64 0) := by
  apply List.ext_getElem
  · simp [Builtin.zeroCells]
  · intro i h1 h2
    have : i % 2 = 0 ∨ i % 2 = 1 := by omega
    rcases this with h | h <;> simp [Builtin.zeroCells, h]
theorem run_clear_hd (w : World) (ty : TypeId) (b o n c : Nat) (hn : 0 < n)
    (hc : ∀ j, j < n * 2 → (w.cell? ⟨b, o + j, none⟩).isSome = true) (hf : ∀ j, j < n * 2 → w.frozen? ⟨b, o + j, none⟩ = false) :
    (Builtin.clear_ #[37] ty #[.slice (some ⟨b, o, none⟩) n c]).run Try.prog w = .ok (.tuple #[]) (w.setCells b o (List.replicate (n * 2) (.int .i64 0))) := by
  have hst := run_storeCells_cells (P := Try.prog) b o (List.replicate (n * 2) (.int .i64 0)) 0 w (by simpa using hc) (by simpa using hf) (by intro v hv'; rw [List.eq_of_mem_replicate hv']; rfl)
  simp only [Nat.add_zero] at hst
  obtain ⟨m, rfl⟩ : ∃ m, n = m + 1 := ⟨n - 1, by omega⟩
  have hz : (Builtin.zeroCells (Value.agg #[.int .i64 0, .int .i64 0]).cells (m + 1)).toList = List.replicate ((m + 1) * 2) (.int .i64 0) := zeros_two (m + 1)
  simp [Builtin.clear_, run_underlying Try.underlying37, hz, hst]
theorem setCells_rowH {base e size n c g : Nat} {xs : List Value} : ∀ (us : List Value) (o : Nat) (w : World), w.ownsRow base e size (.slice (some ⟨g, 0, none⟩) n c) n xs → xs.length ≤ o →
    (w.setCells g o us).ownsRow base e size (.slice (some ⟨g, 0, none⟩) n c) n xs ∧ Kept g (g + 1) w (w.setCells g o us) := by
  intro us
  induction us with
  | nil => intro o w h _; exact ⟨h, Kept.refl _ _ _⟩
  | cons u r ih =>
    intro o w h ho
    have h1 := (h.stored o u).1
    rw [List.set_eq_of_length_le ho] at h1
    obtain ⟨h2, h3⟩ := ih (o + 1) _ h1 (by omega)
    exact ⟨h2, ((Kept.refl g (g + 1) w).setCell (p := ⟨g, o, none⟩) (.inr ⟨Nat.le_refl _, Nat.lt_succ_self _⟩) u).trans h3⟩
theorem rowH_shorter {w : World} {lo g d : Nat} {xs : List (Int × Int)} (h : w.ownsRow lo 40 2 (.slice (some ⟨g, 0, none⟩) xs.length d) xs.length (hdR.flat xs)) (m : Nat) (hm : m ≤ xs.length) : w.ownsRow lo 40 2 (.slice (some ⟨g, 0, none⟩) m d) m (hdR.flat (xs.take m)) := by
  refine ⟨by rw [hdR.flat_len]; simp [hm, hdR_k], ?_⟩
  rcases h.2 with ⟨hv, _⟩ | ⟨g', cap, cur, hv, hb, hg, h1, h2, h3, h4⟩
  · injection hv with h1; cases h1
  · injection hv with e1 e2 e3
    subst e3
    refine .inr ⟨g', d, cur, by rw [e1], hb, hg, by omega, h2, h3, ?_⟩
    rw [hdR.flat_take, ← h4, List.take_take, hdR_k, Nat.min_eq_left (Nat.mul_le_mul_right _ hm)]
/-- The stores of one handle. -/
theorem own_putH {w : World} {base e n c g : Nat} {xs : List (Int × Int)} (h : w.ownsRow base e 2 (.slice (some ⟨g, 0, none⟩) n c) n (hdR.flat xs)) {i : Nat} (hi : i < xs.length) (x : Int × Int) :
    (((w.setCell ⟨g, i * 2, none⟩ (.int .i64 x.1)).setCell ⟨g, i * 2 + 1, none⟩ (.int .i64 x.2))).ownsRow base e 2 (.slice (some ⟨g, 0, none⟩) n c) n (hdR.flat (xs.set i x)) := by
  have h1 := ((h.stored (i * 2) (.int .i64 x.1)).1.stored (i * 2 + 1) (.int .i64 x.2)).1
  have hl : (hdR.flat xs).length = xs.length * 2 := hdR.flat_len xs
  have e1 : (((hdR.flat xs).set (i * 2) (.int .i64 x.1)).set (i * 2 + 1) (.int .i64 x.2)) = hdR.flat (xs.set i x) := by
    rw [← hdR.flat_set xs i x hi]
    rw [← putAt_nil (((hdR.flat xs).set (i * 2) (.int .i64 x.1)).set (i * 2 + 1) (.int .i64 x.2)) (i * 2 + 1 + 1)]
    rw [putAt_cons _ _ _ _ (by simp; omega), putAt_cons _ _ _ _ (by omega)]
    rfl
  rw [e1] at h1
  exact h1

set_option maxHeartbeats 400000 in
theorem rem1_any (a h : Int × Int) (c : Nat) (w : World) (hb : Blk w c 40 #[.int .i64 h.1, .int .i64 h.2]) :
    Calls Try.prog 66 #[hkey a, .pointer (some ⟨c, 0, none⟩)] w fun e w' => e = .returned (.bool (decide (a = h))) ∧ Kept 0 0 w w' := by
  have hlt := hb.lt
  obtain ⟨a1, a2⟩ := a
  obtain ⟨h1, h2⟩ := h
  have c0 : w.cell? ⟨c, 0, none⟩ = some (.int .i64 h1) := hb.cell 0
  have c1 : w.cell? ⟨c, 1, none⟩ = some (.int .i64 h2) := hb.cell 1
  unfold hkey
  clear hb
  by_cases e1 : a1 = h1
  · subst e1
    have g1 : (a1 == a1) = true := by simp
    by_cases e2 : a2 = h2
    · subst e2
      have g2 : (a2 == a2) = true := by simp
      go_enter Try.func66, Try.ntmps66
      go_wp2
      go_ret
      exact ⟨ret_bool (by simp), Kept.alloc0 _ _⟩
    · have g2 : (a2 == h2) = false := by simp [e2]
      have E := Lib.hid e2
      clear e2
      go_enter Try.func66, Try.ntmps66
      go_wp2
      go_ret
      exact ⟨ret_bool (decide_eq_false (fun q => E.out (by injection q))).symm, Kept.alloc0 _ _⟩
  · have g1 : (a1 == h1) = false := by simp [e1]
    have E := Lib.hid e1
    clear e1
    go_enter Try.func66, Try.ntmps66
    go_wp2
    go_ret
    exact ⟨ret_bool (decide_eq_false (fun q => E.out (by injection q))).symm, Kept.alloc0 _ _⟩

/-- Where the first h stands. -/
def HdAt (xs : List (Int × Int)) (h : Int × Int) (i : Nat) : Prop := ∃ hi : i < xs.length, xs[i] = h ∧ ∀ j (hj : j < i), xs[j]'(by omega) ≠ h
set_option maxHeartbeats 800000 in
set_option maxRecDepth 100000 in
theorem indexH_any (w : World) (A : Option Addr) (d c B : Nat) (xs : List (Int × Int)) (h : Int × Int) (i : Nat) (hr : RdR hdR w B A xs) (hB : B ≤ w.heap.size) (hb : Blk w c 40 #[.int .i64 h.1, .int .i64 h.2]) (hi : HdAt xs h i) :
    Calls Try.prog 86 #[.slice A xs.length d, .func (.func 66) #[] #[.pointer (some ⟨c, 0, none⟩)]] w fun e w' => e = .returned (.int .i64 i) ∧ Kept 0 0 w w' := by
  have hm := hr.1
  unfold maxLen at hm
  have H := Lib.hid hr
  have HB := Lib.hid hb
  obtain ⟨hi1, hi2, hi3⟩ := hi
  have I2 := Lib.hid hi2
  have I3 := Lib.hid hi3
  clear hr hb hi2 hi3
  go_enter Try.func86, Try.ntmps86
  go_wp2
  go_loopw [8] (fun v wr => ∃ j : Nat, j ≤ i ∧ v = .int .i64 j ∧ Hid (Kept 0 0 w wr)) (fun v _ => xs.length - (intOf v).toNat)
  case atStart => exact ⟨0, Nat.zero_le _, rfl, Lib.hid (Kept.refl _ _ _)⟩
  case round =>
    obtain ⟨j, hj, rfl, HK⟩ := hrel
    have hlt : j < xs.length := by omega
    have i1 : (j : Int) < (xs.length : Int) := by omega
    obtain ⟨ad, rfl, _, k0, k1⟩ := (H.out.kept hB HK.out (.inl (Nat.le_refl _))).hd hlt
    have CS := Lib.hid (rem1_any xs[j] h c wr (HB.out.kept HK.out (.inl (Nat.le_refl _))))
    unfold hkey at CS
    by_cases hq : j = i
    · subst hq
      rw [I2.out, decide_eq_true rfl] at CS
      rw [I2.out] at k0 k1
      go_wp2_with fail
      with_reducible refine CS.out.mono ?_
      rintro e w2 ⟨rfl, hk⟩
      have KK := Lib.hid (HK.out.trans hk)
      clear hk
      go_wp2_with fail
      go_ret
      exact ⟨rfl, KK.out⟩
    · rw [decide_eq_false (I3.out j (by omega))] at CS
      go_wp2_with fail
      with_reducible refine CS.out.mono ?_
      rintro e w2 ⟨rfl, hk⟩
      have KK := Lib.hid (HK.out.trans hk)
      clear hk
      go_wp2_with fail
      go_roundw
      case rel => exact ⟨j + 1, by omega, by go_num, KK⟩
      case measure => simp [intOf]; omega
end Go.Proofs.Ytnnbfcmbcjkpoaa
