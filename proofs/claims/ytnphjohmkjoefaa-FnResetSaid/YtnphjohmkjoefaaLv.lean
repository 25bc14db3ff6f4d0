/- The contracts over slices of heap elements with the slice as one letter, as the exact laws use them; what is asked of the program's functions. No condition. -/
import Derived.Test.YtnphjohmkjoefaaSt
namespace Go.Proofs.Ytnphjohmkjoefaa
open Go.RowKit Go.Sort

/-- A slice value that reads as xs. -/
def RdT (w : World) (B : Nat) (v : Value) (xs : List Tw) : Prop := ∃ A c, v = .slice A xs.length c ∧ SL twR w B A c xs
/-- A slice value of the call's own. -/
def OwnT (w : World) (lo hi : Nat) (v : Value) (xs : List Tw) : Prop := ∃ D d, v = .slice D xs.length d ∧ OwnZ w lo hi 77 3 D xs.length d (twR.flat xs)
section
variable {w w' : World} {B B' lo hi lo' hi' : Nat} {v : Value} {xs : List Tw}
theorem RdT.kept (h : RdT w B v xs) (hB : B ≤ w.heap.size) (hk : Kept lo hi w w') (hr : hi ≤ lo ∨ B ≤ lo) : RdT w' B v xs := by
  obtain ⟨A, c, e, h⟩ := h; exact ⟨A, c, e, h.kept hB hk hr⟩
theorem RdT.wide (h : RdT w B v xs) (hB : B ≤ B') : RdT w B' v xs := by
  obtain ⟨A, c, e, h⟩ := h; exact ⟨A, c, e, h.wide hB⟩
theorem RdT.up (h : RdT w w.heap.size v xs) (hk : Kept 0 0 w w') : RdT w' w'.heap.size v xs := (h.kept (Nat.le_refl _) hk (.inl (Nat.le_refl _))).wide hk.size
theorem RdT.len (h : RdT w B v xs) : xs.length ≤ maxLen := by obtain ⟨A, c, e, h⟩ := h; exact h.rd.1
theorem OwnT.kept (h : OwnT w lo hi v xs) (hk : Kept lo' hi' w w') (hr : hi' ≤ lo' ∨ hi ≤ lo' ∨ hi' ≤ lo) : OwnT w' lo hi v xs := by
  obtain ⟨A, c, e, h⟩ := h; exact ⟨A, c, e, h.kept hk hr⟩
theorem OwnT.wide (h : OwnT w lo hi v xs) (hl : lo' ≤ lo) (hh : hi ≤ hi') : OwnT w lo' hi' v xs := by
  obtain ⟨A, c, e, h⟩ := h; exact ⟨A, c, e, h.wide hl hh⟩
theorem OwnT.rd (h : OwnT w lo hi v xs) : RdT w hi v xs := by
  obtain ⟨D, d, e, h⟩ := h; exact ⟨D, d, e, (OwnZ.sl (R := twR) h).2⟩
theorem OwnT.rdW (h : OwnT w lo hi v xs) (hh : hi ≤ w.heap.size) : RdT w w.heap.size v xs := h.rd.wide hh
end

/-! ### What is asked of a function of heaps, the program's or the reference's -/
def DoesB (f : FuncId) (g : List Tw → Bool) : Prop := ∀ (xs : List Tw) (v : Value) (w : World), RdT w w.heap.size v xs → Calls Try.prog f #[v] w fun e w' => e = .returned (.bool (g xs)) ∧ Kept 0 0 w w'
def DoesI (f : FuncId) (g : List Tw → Int) : Prop := ∀ (xs : List Tw) (v : Value) (w : World), RdT w w.heap.size v xs → Calls Try.prog f #[v] w fun e w' => e = .returned (.int .i64 (g xs)) ∧ Kept 0 0 w w'
def DoesT (f : FuncId) (g : List Tw → List Tw) : Prop := ∀ (xs : List Tw) (v : Value) (w : World), RdT w w.heap.size v xs → Calls Try.prog f #[v] w fun e w' => ∃ u, e = .returned u ∧ OwnT w' w.heap.size w'.heap.size u (g xs) ∧ Kept 0 0 w w'
def DoesTT (f : FuncId) (g : List Tw → List Tw → List Tw) (b : List Tw → List Tw → Bool) : Prop := ∀ (xs ys : List Tw) (v v' : Value) (w : World), RdT w w.heap.size v xs → RdT w w.heap.size v' ys → Calls Try.prog f #[v, v'] w fun e w' => ∃ u, e = .returned (.tuple #[u, .bool (b xs ys)]) ∧ OwnT w' w.heap.size w'.heap.size u (g xs ys) ∧ Kept 0 0 w w'
def DoesTI (f : FuncId) (g : List Tw → Int → List Tw) (b : List Tw → Int → Bool) : Prop := ∀ (xs : List Tw) (q : Int) (v : Value) (w : World), RdT w w.heap.size v xs → Calls Try.prog f #[v, .int .i64 q] w fun e w' => ∃ u, e = .returned (.tuple #[u, .bool (b xs q)]) ∧ OwnT w' w.heap.size w'.heap.size u (g xs q) ∧ Kept 0 0 w w'
def DoesTII (f : FuncId) (g : List Tw → Int → Int → List Tw) (b : List Tw → Int → Int → Bool) : Prop := ∀ (xs : List Tw) (p q : Int) (v : Value) (w : World), RdT w w.heap.size v xs → Calls Try.prog f #[v, .int .i64 p, .int .i64 q] w fun e w' => ∃ u, e = .returned (.tuple #[u, .bool (b xs p q)]) ∧ OwnT w' w.heap.size w'.heap.size u (g xs p q) ∧ Kept 0 0 w w'
def DoesS (f : FuncId) (x : List Tw → Tw) (g : List Tw → List Tw) (b : List Tw → Bool) : Prop := ∀ (xs : List Tw) (v : Value) (w : World), RdT w w.heap.size v xs → Calls Try.prog f #[v] w fun e w' => ∃ u, e = .returned (.tuple #[.agg #[.int .i64 (x xs).due, .int .i64 (x xs).seq, .int .i64 (x xs).lefts], u, .bool (b xs)]) ∧ OwnT w' w.heap.size w'.heap.size u (g xs) ∧ Kept 0 0 w w'
theorem DoesB.at_ {f : FuncId} {g : List Tw → Bool} (h : DoesB f g) (xs : List Tw) (v : Value) (w : World) (hr : RdT w w.heap.size v xs) : Calls Try.prog f #[v] w fun e w' => e = .returned (.bool (g xs)) ∧ Kept 0 0 w w' := h xs v w hr
theorem DoesI.at_ {f : FuncId} {g : List Tw → Int} (h : DoesI f g) (xs : List Tw) (v : Value) (w : World) (hr : RdT w w.heap.size v xs) : Calls Try.prog f #[v] w fun e w' => e = .returned (.int .i64 (g xs)) ∧ Kept 0 0 w w' := h xs v w hr
theorem DoesT.at_ {f : FuncId} {g : List Tw → List Tw} (h : DoesT f g) (xs : List Tw) (v : Value) (w : World) (hr : RdT w w.heap.size v xs) : Calls Try.prog f #[v] w fun e w' => ∃ u, e = .returned u ∧ OwnT w' w.heap.size w'.heap.size u (g xs) ∧ Kept 0 0 w w' := h xs v w hr
theorem DoesTT.at_ {f : FuncId} {g : List Tw → List Tw → List Tw} {b : List Tw → List Tw → Bool} (h : DoesTT f g b) (xs ys : List Tw) (v v' : Value) (w : World) (hr : RdT w w.heap.size v xs) (hr' : RdT w w.heap.size v' ys) : Calls Try.prog f #[v, v'] w fun e w' => ∃ u, e = .returned (.tuple #[u, .bool (b xs ys)]) ∧ OwnT w' w.heap.size w'.heap.size u (g xs ys) ∧ Kept 0 0 w w' := h xs ys v v' w hr hr'
theorem DoesTI.at_ {f : FuncId} {g : List Tw → Int → List Tw} {b : List Tw → Int → Bool} (h : DoesTI f g b) (xs : List Tw) (q : Int) (v : Value) (w : World) (hr : RdT w w.heap.size v xs) : Calls Try.prog f #[v, .int .i64 q] w fun e w' => ∃ u, e = .returned (.tuple #[u, .bool (b xs q)]) ∧ OwnT w' w.heap.size w'.heap.size u (g xs q) ∧ Kept 0 0 w w' := h xs q v w hr
theorem DoesTII.at_ {f : FuncId} {g : List Tw → Int → Int → List Tw} {b : List Tw → Int → Int → Bool} (h : DoesTII f g b) (xs : List Tw) (p q : Int) (v : Value) (w : World) (hr : RdT w w.heap.size v xs) : Calls Try.prog f #[v, .int .i64 p, .int .i64 q] w fun e w' => ∃ u, e = .returned (.tuple #[u, .bool (b xs p q)]) ∧ OwnT w' w.heap.size w'.heap.size u (g xs p q) ∧ Kept 0 0 w w' := h xs p q v w hr
theorem DoesS.at_ {f : FuncId} {x : List Tw → Tw} {g : List Tw → List Tw} {b : List Tw → Bool} (h : DoesS f x g b) (xs : List Tw) (v : Value) (w : World) (hr : RdT w w.heap.size v xs) : Calls Try.prog f #[v] w fun e w' => ∃ u, e = .returned (.tuple #[.agg #[.int .i64 (x xs).due, .int .i64 (x xs).seq, .int .i64 (x xs).lefts], u, .bool (b xs)]) ∧ OwnT w' w.heap.size w'.heap.size u (g xs) ∧ Kept 0 0 w w' := h xs v w hr

noncomputable def putL (xs : List Tw) (p q : Int) : List Tw := mergedL xs [⟨p, q, 0⟩]
def putOk (xs : List Tw) (p q : Int) : Bool := mergedOk xs [⟨p, q, 0⟩]
theorem specHeapOk : DoesB 38 heapOkB := by
  rintro xs _ w ⟨A, c, rfl, h⟩; exact okSpec_any xs A c _ w (Nat.le_refl _) h
theorem specMerged : DoesTT 43 mergedL mergedOk := by
  rintro xs ys _ _ w ⟨A, c, rfl, h⟩ ⟨A', c', rfl, h'⟩
  exact (mergedSpec_any xs ys A A' c c' _ w (Nat.le_refl _) h h').mono fun e w' ⟨D, d, he, ho, hk⟩ => ⟨_, he, ⟨D, d, rfl, ho⟩, hk⟩
theorem specPut : DoesTII 24 putL putOk := by
  rintro xs p q _ w ⟨A, c, rfl, h⟩
  exact (putSpec_any xs p q A c _ w (Nat.le_refl _) h).mono fun e w' ⟨D, d, he, ho, hk⟩ => ⟨_, he, ⟨D, d, rfl, ho⟩, hk⟩
theorem specShifted : DoesS 76 shiftedX shiftedL shiftOk := by
  rintro xs _ w ⟨A, c, rfl, h⟩
  exact (shiftedSpec_any xs A c _ w (Nat.le_refl _) h).mono fun e w' ⟨D, d, he, ho, hk⟩ => ⟨_, he, ⟨D, d, rfl, ho⟩, hk⟩
theorem specWithout : DoesTI 42 withoutL withoutOk := by
  rintro xs q _ w ⟨A, c, rfl, h⟩
  exact (withoutSpec_any xs q A c _ w (Nat.le_refl _) h).mono fun e w' ⟨D, d, he, ho, hk⟩ => ⟨_, he, ⟨D, d, rfl, ho⟩, hk⟩
theorem mergedL_len (a b : List Tw) : (mergedL a b).length ≤ 64 := by
  unfold mergedL
  split
  · rename_i h
    obtain ⟨oa, ob, hl, _⟩ := mergedOk_iff.1 h
    rw [HTree.pre_len, merge_size, ← HTree.pre_len, ← HTree.pre_len, treeOf_pre (heapOk_iff.1 oa).2.2, treeOf_pre (heapOk_iff.1 ob).2.2]
    exact hl
  · simp
theorem shiftedL_len (a : List Tw) : (shiftedL a).length ≤ 64 := by
  unfold shiftedL
  split
  · rename_i h
    obtain ⟨d, s, l, r, e⟩ := treeOf_node h
    simp only [shiftOk, Bool.and_eq_true] at h
    have hp := treeOf_pre (heapOk_iff.1 h.2).2.2
    have hl := (heapOk_iff.1 h.2).1
    rw [← hp, HTree.pre_len, e] at hl
    rw [e, shiftRest, HTree.pre_len, merge_size]
    simp only [HTree.size] at hl
    omega
  · simp
theorem withoutL_len (a : List Tw) (q : Int) : (withoutL a q).length ≤ 64 := by
  unfold withoutL
  split
  · rename_i h
    obtain ⟨h1, h2, h3⟩ := heapOk_iff.1 h
    have hp := treeOf_pre h3
    split
    · have := without_size_le (treeOf a) q (treeOf_ok h3) (uniq_pre (by rw [hp]; exact h2))
      rw [HTree.pre_len]
      rw [← HTree.pre_len, ← HTree.pre_len, hp] at this
      rw [← HTree.pre_len]
      omega
    · exact h1
  · simp
end Go.Proofs.Ytnphjohmkjoefaa
