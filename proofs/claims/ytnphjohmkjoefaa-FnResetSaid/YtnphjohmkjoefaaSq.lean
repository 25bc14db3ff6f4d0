/- The reference's functions of heaps: no Seq twice, validity, rank of a heap, copy; no condition beyond that the slices can be read. -/
import Derived.Test.YtnphjohmkjoefaaSp
namespace Go.Proofs.Ytnphjohmkjoefaa
open Go.RowKit Go.Sort

/-- A Seq is there twice. -/
def twiceB (xs : List Tw) : Bool := !decide ((xs.map Tw.seq).Nodup)
/-- No Seq twice among the first i, and that of i not among the first k. -/
def NoTw (xs : List Tw) (i k : Nat) : Prop := (∀ a b, (ha : a < xs.length) → (hb : b < a) → a < i → xs[a].seq ≠ (xs[b]'(by omega)).seq) ∧ ∀ (hi : i < xs.length) b, (hb : b < i) → b < k → xs[i].seq ≠ (xs[b]'(by omega)).seq
theorem NoTw.zero (xs : List Tw) : NoTw xs 0 0 := ⟨fun _ _ _ _ h => by omega, fun _ _ _ h => by omega⟩
theorem NoTw.inner {xs : List Tw} {i k : Nat} (h : NoTw xs i k) (hi : i < xs.length) (hk : k < i) (hne : xs[i].seq ≠ (xs[k]'(by omega)).seq) : NoTw xs i (k + 1) :=
  ⟨h.1, fun _ b hb hbk => by
    rcases Nat.lt_or_ge b k with h' | h'
    · exact h.2 hi b hb h'
    · obtain rfl : b = k := by omega
      exact hne⟩
theorem NoTw.outer {xs : List Tw} {i k : Nat} (h : NoTw xs i k) (hk : i ≤ k) : NoTw xs (i + 1) 0 :=
  ⟨fun a b ha hb hai => by
    rcases Nat.lt_or_ge a i with h' | h'
    · exact h.1 a b ha hb h'
    · obtain rfl : a = i := by omega
      exact h.2 ha b hb (by omega), fun _ _ _ h => by omega⟩
theorem NoTw.all {xs : List Tw} {i k : Nat} (h : NoTw xs i k) (hi : xs.length ≤ i) : twiceB xs = false := by
  have : (xs.map Tw.seq).Nodup := by
    unfold List.Nodup
    rw [List.pairwise_iff_getElem]
    intro a b ha hb hab e
    simp at ha hb e
    exact h.1 b a hb hab (by omega) e.symm
  simp [twiceB, this]
theorem twice_yes {xs : List Tw} {a b : Nat} (ha : a < xs.length) (hb : b < a) (e : xs[a].seq = (xs[b]'(by omega)).seq) : twiceB xs = true := by
  have : ¬ (xs.map Tw.seq).Nodup := by
    intro hn
    unfold List.Nodup at hn
    rw [List.pairwise_iff_getElem] at hn
    exact hn b a (by simp; omega) (by simpa using ha) hb (by simp; exact e.symm)
  simp [twiceB, this]

set_option maxHeartbeats 1600000 in
theorem twice_any (xs : List Tw) (A : Option Addr) (c B : Nat) (w : World) (hB : B ≤ w.heap.size) (h : SL twR w B A c xs) :
    Calls Try.prog 56 #[.slice A xs.length c] w fun e w' => e = .returned (.bool (twiceB xs)) ∧ Kept 0 0 w w' := by
  have hm := h.rd.1
  unfold maxLen at hm
  have H := Lib.hid h
  clear h
  go_enter Try.func56, Try.ntmps56
  go_wp2
  go_loopw [3, 4] (fun i _ wr => ∃ k : Nat, k ≤ xs.length ∧ i = .int .i64 k ∧ Hid (NoTw xs k 0) ∧ Hid (Kept 0 0 w wr)) (fun i _ _ => xs.length - (intOf i).toNat)
  case atStart => exact ⟨0, Nat.zero_le _, rfl, Lib.hid (NoTw.zero _), Lib.hid (Kept.refl _ _ _)⟩
  case round =>
    obtain ⟨i, hi, rfl, HT, HK⟩ := hrel
    by_cases hlt : i < xs.length
    · have i1 : (i : Int) < (xs.length : Int) := by omega
      go_wp2_with fail
      go_loopw [4] (fun j wx => ∃ k : Nat, k ≤ i ∧ j = .int .i64 k ∧ Hid (NoTw xs i k) ∧ Hid (Kept 0 0 w wx)) (fun j _ => i - (intOf j).toNat)
      case atStart => exact ⟨0, Nat.zero_le _, rfl, HT, HK⟩
      case round =>
        clear HT HK
        obtain ⟨k, hk, rfl, HT, HK⟩ := hrel
        by_cases hki : k < i
        · have hkl : k < xs.length := by omega
          have i2 : (k : Int) < (xs.length : Int) := by omega
          have R := Lib.hid (H.out.rd.kept hB HK.out (.inl (Nat.le_refl _)))
          obtain ⟨ad, e1, _, c0, c1, c2⟩ := R.out.tw hlt
          obtain ⟨ad', e2, _, d0, d1, d2⟩ := R.out.tw hkl
          rw [e1] at e2
          injection e2 with e2
          subst e2
          subst e1
          by_cases he : xs[i].seq = xs[k].seq
          · have g : (xs[i].seq == xs[k].seq) = true := by simpa using he
            have E := Lib.hid (twice_yes hlt hki he)
            clear he
            go_wp2_with fail
            go_quiet (fail)
            go_wp2
            go_ret
            exact ⟨ret_bool E.out.symm, HK.out.drewN _⟩
          · have g : (xs[i].seq == xs[k].seq) = false := by simpa using he
            have HT2 := Lib.hid (HT.out.inner hlt hki he)
            clear he
            go_wp2_with fail
            go_quiet (fail)
            go_wp2
            go_roundw
            case rel => exact ⟨k + 1, by omega, by go_num, HT2, Lib.hid (HK.out.drewN _)⟩
            case measure => simp [intOf]; omega
        · have HT2 := Lib.hid (HT.out.outer (by omega))
          go_wp2
          go_roundw
          case rel => exact ⟨i + 1, by omega, by go_num, HT2, HK⟩
          case measure => simp [intOf]; omega
    · go_wp2
      go_ret
      exact ⟨ret_bool (HT.out.all (by omega)).symm, HK.out⟩

/-- A heap. -/
def heapOkB (xs : List Tw) : Bool := decide (xs.length ≤ 64) && !twiceB xs && decide (0 ≤ rankL xs)
theorem heapOk_iff {xs : List Tw} : heapOkB xs = true ↔ xs.length ≤ 64 ∧ twiceB xs = false ∧ 0 ≤ rankL xs := by
  simp [heapOkB, and_assoc]
theorem rank_any (xs : List Tw) (A : Option Addr) (c B : Nat) (w : World) (hB : B ≤ w.heap.size) (hs : SL twR w B A c xs) :
    Calls Try.prog 57 #[.slice A xs.length c] w fun e w' => e = .returned (.int .i64 (rankL xs)) ∧ Kept 0 0 w w' := (rank_does xs.length).at_ xs A c B w (Nat.le_refl _) hB hs

set_option maxHeartbeats 800000 in
theorem okSpec_any (xs : List Tw) (A : Option Addr) (c B : Nat) (w : World) (hB : B ≤ w.heap.size) (h : SL twR w B A c xs) :
    Calls Try.prog 38 #[.slice A xs.length c] w fun e w' => e = .returned (.bool (heapOkB xs)) ∧ Kept 0 0 w w' := by
  have H := Lib.hid h
  clear h
  cases g1 : decide ((xs.length : Int) ≤ 64)
  · have E : Hid (heapOkB xs = false) := by show _ = _; simp only [heapOkB, show decide (xs.length ≤ 64) = false from by simp at g1 ⊢; omega, Bool.false_and]
    go_enter Try.func38, Try.ntmps38
    go_wp2
    go_ret
    exact ⟨ret_bool E.out.symm, Kept.refl _ _ _⟩
  · have E : Hid (heapOkB xs = (!twiceB xs && decide (0 ≤ rankL xs))) := by show _ = _; simp only [heapOkB, show decide (xs.length ≤ 64) = true from by simp at g1 ⊢; omega, Bool.true_and]
    go_enter Try.func38, Try.ntmps38
    go_wp2_with fail
    with_reducible refine (twice_any xs _ _ B _ hB H.out).mono ?_
    rintro e w1 ⟨rfl, hk⟩
    have HK := Lib.hid hk
    clear hk
    cases ht : twiceB xs
    · rw [ht] at E
      clear ht
      go_wp2_with fail
      with_reducible refine (rank_any xs _ _ B _ (Nat.le_trans hB HK.out.size) (H.out.kept hB HK.out (.inl (Nat.le_refl _)))).mono ?_
      rintro e w2 ⟨rfl, hk⟩
      have HK2 := Lib.hid (HK.out.trans hk)
      clear hk
      go_wp2
      go_ret
      exact ⟨ret_bool (by rw [E.out]; rfl), HK2.out⟩
    · rw [ht] at E
      clear ht
      go_wp2
      go_ret
      exact ⟨ret_bool (by rw [E.out]; rfl), HK.out⟩

def rankOfL (xs : List Tw) : Int := if heapOkB xs then rankL xs else -1
theorem own_empty3 (w : World) : (w.alloc (.cells #[] 77)).ownsRow w.heap.size 77 3 (.slice (some ⟨w.heap.size, 0, none⟩) 0 0) 0 (twR.flat []) :=
  World.ownsRow_lit w #[] 0 (Nat.le_refl _) (by unfold maxLen; omega) rfl
set_option maxHeartbeats 800000 in
theorem copySpec_any (xs : List Tw) (A : Option Addr) (c B : Nat) (w : World) (hB : B ≤ w.heap.size) (h : SL twR w B A c xs) (hn : xs.length ≤ 1048576) :
    Calls Try.prog 58 #[.slice A xs.length c] w fun e w' => ∃ (D : Option Addr) (d : Nat), e = .returned (.slice D xs.length d) ∧ OwnZ w' w.heap.size w'.heap.size 77 3 D xs.length d (twR.flat xs) ∧ Kept 0 0 w w' := by
  have H := Lib.hid h
  clear h
  have HS := Lib.hid twSlice
  go_enter Try.func58, Try.ntmps58
  go_wp2_with (at_builtin; refine wpList_app (R := twR) rfl (.tmp 3) (.tmp 4) rfl HS.out w.heap.size (some ⟨w.heap.size, 0, none⟩) 0 [] rfl (own_empty3 w) B A c xs rfl (by exact H.out.rd.kept hB (Kept.alloc0 _ _) (.inl (Nat.le_refl _))) (by simp [maxLen]; omega) (by simp; omega) (by simp) ?_; intro D d w' hown hgrow hat)
  go_ret
  have hk : Kept 0 0 w w' := (Kept.alloc0 w (.cells #[] 77)).app hgrow (by intro g hg; injection hg with hg; subst hg; exact Nat.le_refl _)
  exact ⟨D, d, rfl, OwnZ.of_row hown, hk⟩
end Go.Proofs.Ytnphjohmkjoefaa
