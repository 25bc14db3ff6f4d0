/- Chapter 1's functions over slots as one value, on paper, and that the program's and the reference's return them in new memory; no condition beyond that the slots can be read. -/
import Derived.Test.YtnnbfcmbcjkpoaaBi
import Derived.Test.YtnnbfcmbcjkpoaaBg
namespace Go.Proofs.Ytnnbfcmbcjkpoaa
open Go.RowKit Go.Sort

def slB (t : Slt) : Bool := slotsOkB t.ages t.used
def slUsed (t : Slt) : Int := usedIn t.ages t.used
def slHolds (t : Slt) (s a : Int) : Bool := holdsB t.ages t.used s a
def slZ : Slt := ⟨[], []⟩
def dropSB (t : Slt) (s a : Int) : Bool := slHolds t s a && decide (a ≠ 1000000)
def dropST (t : Slt) (s a : Int) : Slt := if slB t = true then (if dropSB t s a = true then ⟨t.ages.set s.toNat (a + 1), t.used.set s.toNat false⟩ else t) else slZ
/-- The first slot that can be taken. -/
def freeO (t : Slt) : Option Nat := if slB t = true then (List.range t.ages.length).find? (freeB t.ages t.used) else none
def takeST (t : Slt) : Slt := if slB t = true then (match freeO t with | some k => ⟨t.ages, t.used.set k true⟩ | none => t) else slZ
def takeSH (t : Slt) : Int × Int := match freeO t with | some k => ((k : Int), t.ages.getD k 0) | none => (0, 0)
def takeSB (t : Slt) : Bool := (freeO t).isSome
def newSB (n : Int) : Bool := decide (1 ≤ n) && decide (n ≤ 64)
def newST (n : Int) : Slt := if newSB n = true then ⟨List.replicate n.toNat 0, List.replicate n.toNat false⟩ else slZ
theorem slB_len {t : Slt} (h : slB t = true) : 1 ≤ t.ages.length ∧ t.ages.length ≤ 64 ∧ t.used.length = t.ages.length := slotsOk_len h
theorem dropST_len (t : Slt) (s a : Int) : (dropST t s a).ages.length ≤ 64 ∧ (dropST t s a).used.length ≤ 64 := by
  unfold dropST
  split
  · rename_i h
    have := slB_len h
    split <;> (try simp) <;> omega
  · simp [slZ]
theorem takeST_len (t : Slt) : (takeST t).ages.length ≤ 64 ∧ (takeST t).used.length ≤ 64 := by
  unfold takeST
  split
  · rename_i h
    have := slB_len h
    split <;> (try simp) <;> omega
  · simp [slZ]
theorem newST_len (n : Int) : (newST n).ages.length ≤ 64 ∧ (newST n).used.length ≤ 64 := by
  unfold newST
  split
  · rename_i h
    simp only [newSB, Bool.and_eq_true, decide_eq_true_eq] at h
    simp; omega
  · simp [slZ]
theorem freeO_none {t : Slt} (hb : slB t = true) (h : NoneFree t.ages t.used t.ages.length) : freeO t = none := by
  unfold freeO
  rw [if_pos hb, List.find?_eq_none]
  intro i hi
  rw [List.mem_range] at hi
  simp [h i hi]
theorem find_range {p : Nat → Bool} : ∀ (n k : Nat), k < n → p k = true → (∀ i, i < k → p i = false) → (List.range n).find? p = some k := by
  intro n
  induction n with
  | zero => intro k h; omega
  | succ n ih =>
    intro k hk hp hn
    rw [List.range_succ, List.find?_append]
    rcases Nat.lt_or_ge k n with h | h
    · rw [ih k h hp hn]; rfl
    · obtain rfl : k = n := by omega
      rw [List.find?_eq_none.2 (fun i hi => by rw [List.mem_range] at hi; simp [hn i hi])]
      simp [hp]
theorem freeO_some {t : Slt} (hb : slB t = true) {k : Nat} (hk : k < t.ages.length) (h1 : freeB t.ages t.used k = true) (h2 : NoneFree t.ages t.used k) : freeO t = some k := by
  unfold freeO
  rw [if_pos hb]
  exact find_range _ _ hk h1 h2
theorem free_cases (t : Slt) (hb : slB t = true) : (freeO t = none ∧ NoneFree t.ages t.used t.ages.length) ∨ ∃ k, ∃ _ : k < t.ages.length, freeO t = some k ∧ freeB t.ages t.used k = true ∧ NoneFree t.ages t.used k := by
  cases h : freeO t with
  | none =>
    refine .inl ⟨rfl, fun i hi => ?_⟩
    unfold freeO at h
    rw [if_pos hb, List.find?_eq_none] at h
    have := h i (List.mem_range.2 hi)
    simpa using this
  | some k =>
    unfold freeO at h
    rw [if_pos hb] at h
    have h1 := List.find?_some h
    have h2 := List.mem_of_find?_eq_some h
    rw [List.mem_range] at h2
    refine .inr ⟨k, h2, rfl, h1, fun i hi => ?_⟩
    rw [List.find?_eq_some_iff_append] at h
    obtain ⟨_, ls, bs, e, hn⟩ := h
    have hl : ls.length = k := by
      have h3 := congrArg (fun l => l[ls.length]?) e
      simp only [List.getElem?_append_right (Nat.le_refl _), Nat.sub_self, List.getElem?_cons_zero] at h3
      rw [List.getElem?_range] at h3
      · injection h3
      · have := congrArg List.length e; simp at this; omega
    have him : i ∈ ls := by
      have h3 := congrArg (fun l => l[i]?) e
      rw [List.getElem?_append_left (by omega)] at h3
      rw [List.getElem?_range (by omega)] at h3
      exact List.mem_of_getElem? h3.symm
    simpa using hn i him

/-- A function of slots that returns a bool, or a number. -/
abbrev DoesSlB (f : Nat) (g : Slt → Bool) : Prop := ∀ (t : Slt) (v : Value) (w : World), RdSl w w.heap.size v t → Calls Try.prog f #[v] w fun e w' => e = .returned (.bool (g t)) ∧ Kept 0 0 w w'
abbrev DoesSlI (f : Nat) (g : Slt → Int) : Prop := ∀ (t : Slt) (v : Value) (w : World), RdSl w w.heap.size v t → Calls Try.prog f #[v] w fun e w' => e = .returned (.int .i64 (g t)) ∧ Kept 0 0 w w'
abbrev DoesSlH (f : Nat) : Prop := ∀ (t : Slt) (s a : Int) (v : Value) (w : World), RdSl w w.heap.size v t → Calls Try.prog f #[v, .agg #[.int .i64 s, .int .i64 a]] w fun e w' => e = .returned (.bool (slHolds t s a)) ∧ Kept 0 0 w w'
abbrev DoesSlD (f : Nat) : Prop := ∀ (t : Slt) (s a : Int) (v : Value) (w : World), RdSl w w.heap.size v t → Calls Try.prog f #[v, .agg #[.int .i64 s, .int .i64 a]] w fun e w' => ∃ z, e = .returned (.tuple #[z, .bool (dropSB t s a)]) ∧ OwnSl w' w.heap.size w'.heap.size z (dropST t s a) ∧ Kept 0 0 w w'
abbrev DoesSlT (f : Nat) : Prop := ∀ (t : Slt) (v : Value) (w : World), RdSl w w.heap.size v t → Calls Try.prog f #[v] w fun e w' => ∃ z, e = .returned (.tuple #[z, .agg #[.int .i64 (takeSH t).1, .int .i64 (takeSH t).2], .bool (takeSB t)]) ∧ OwnSl w' w.heap.size w'.heap.size z (takeST t) ∧ Kept 0 0 w w'
abbrev DoesSlN (f : Nat) : Prop := ∀ (n : Int) (w : World), Calls Try.prog f #[.int .i64 n] w fun e w' => ∃ z, e = .returned (.tuple #[z, .bool (newSB n)]) ∧ OwnSl w' w.heap.size w'.heap.size z (newST n) ∧ Kept 0 0 w w'

theorem specSl : DoesSlB 46 slB := fun t v w h => by
  obtain ⟨A, c, A', c', rfl, hr⟩ := h.parts
  exact okSpec_any _ _ _ _ _ _ _ w (Nat.le_refl _) hr
theorem implSl : DoesSlB 43 slB := fun t v w h => by
  obtain ⟨A, c, A', c', rfl, hr⟩ := h.parts
  exact okImpl_any _ _ _ _ _ _ _ w (Nat.le_refl _) hr
theorem specUsed : DoesSlI 47 slUsed := fun t v w h => by
  obtain ⟨A, c, A', c', rfl, hr⟩ := h.parts
  exact usedSpec_any _ _ _ _ _ _ _ w (Nat.le_refl _) hr
theorem implUsed : DoesSlI 18 slUsed := fun t v w h => by
  obtain ⟨A, c, A', c', rfl, hr⟩ := h.parts
  exact usedImpl_any _ _ _ _ _ _ _ w (Nat.le_refl _) hr
theorem specHolds : DoesSlH 48 := fun t s a v w h => by
  obtain ⟨A, c, A', c', rfl, hr⟩ := h.parts
  exact holdsSpec_any _ _ _ _ _ _ _ _ _ w (Nat.le_refl _) hr
theorem implHolds : DoesSlH 63 := fun t s a v w h => by
  obtain ⟨A, c, A', c', rfl, hr⟩ := h.parts
  exact holdsImpl_any _ _ _ _ _ _ _ _ _ w (Nat.le_refl _) hr
theorem drop_of {f : Nat} (h0 : ∀ ages used s a, slotsOkB ages used = false → DropDoes f ages used s a [] [] false)
    (h1 : ∀ ages used s a, slotsOkB ages used = true → (holdsB ages used s a = false ∨ a = 1000000) → DropDoes f ages used s a ages used false)
    (h2 : ∀ (ages : List Int) (used : List Bool) (k : Nat) (a : Int) (ages' : List Int) (used' : List Bool) (_ : slotsOkB ages used = true) (_ : holdsB ages used k a = true) (_ : a ≠ 1000000) (hk1 : k < ages.length) (_ : k < used.length) (_ : ages[k] = a) (_ : 0 ≤ a) (_ : a ≤ 1000000) (_ : ages' = ages.set k (a + 1)) (_ : used' = used.set k false), DropDoes f ages used k a ages' used' true) : DoesSlD f := fun t s a v w h => by
  obtain ⟨A, c, A', c', rfl, hr⟩ := h.parts
  have fin : ∀ (ages' : List Int) (used' : List Bool) (b : Bool), DropDoes f t.ages t.used s a ages' used' b → dropST t s a = ⟨ages', used'⟩ → dropSB t s a = b → Calls Try.prog f #[.agg #[.slice A t.ages.length c, .slice A' t.used.length c'], .agg #[.int .i64 s, .int .i64 a]] w fun e w' => ∃ z, e = .returned (.tuple #[z, .bool (dropSB t s a)]) ∧ OwnSl w' w.heap.size w'.heap.size z (dropST t s a) ∧ Kept 0 0 w w' := by
    intro ages' used' b hd e1 e2
    rw [e1, e2]
    exact (hd A A' c c' _ w (Nat.le_refl _) hr).mono fun e w' ⟨D, D', d, d', he, ho, hk⟩ => ⟨_, he, ho.one, hk⟩
  cases hb : slotsOkB t.ages t.used
  · exact fin [] [] false (h0 _ _ s a hb) (by unfold dropST; rw [if_neg (by show ¬ slotsOkB t.ages t.used = true; rw [hb]; decide)]; rfl) (by simp [dropSB, slHolds, holds_bad s a hb])
  · cases hh : holdsB t.ages t.used s a
    · have e : dropSB t s a = false := by simp [dropSB, slHolds, hh]
      exact fin t.ages t.used false (h1 _ _ s a hb (.inl hh)) (by unfold dropST; rw [if_pos (show slB t = true from hb), if_neg (by rw [e]; decide)]) e
    · by_cases ha : a = 1000000
      · have e : dropSB t s a = false := by simp [dropSB, ha]
        exact fin t.ages t.used false (h1 _ _ s a hb (.inr ha)) (by unfold dropST; rw [if_pos (show slB t = true from hb), if_neg (by rw [e]; decide)]) e
      · obtain ⟨_, k, rfl, g1, g2, he, _, b1, b2⟩ := holds_yes hh
        have e : dropSB t k a = true := by simp [dropSB, slHolds, hh, ha]
        exact fin _ _ true (h2 _ _ k a _ _ hb hh ha g1 g2 he b1 b2 rfl rfl) (by unfold dropST; rw [if_pos (show slB t = true from hb), if_pos e]; simp) e
theorem specDrop : DoesSlD 82 := drop_of dropSpec_bad dropSpec_no dropSpec_yes
theorem implDrop : DoesSlD 64 := drop_of dropImpl_bad dropImpl_no dropImpl_yes
theorem take_of {f : Nat} (h0 : ∀ ages used, slotsOkB ages used = false → TakeDoes f ages used [] [] 0 0 false)
    (h1 : ∀ ages used, slotsOkB ages used = true → NoneFree ages used ages.length → TakeDoes f ages used ages used 0 0 false)
    (h2 : ∀ (ages : List Int) (used : List Bool) (k : Nat) (used' : List Bool) (_ : slotsOkB ages used = true) (hk1 : k < ages.length) (_ : k < used.length) (_ : freeB ages used k = true) (_ : NoneFree ages used k) (_ : used' = used.set k true), TakeDoes f ages used ages used' k ages[k] true) : DoesSlT f := fun t v w h => by
  obtain ⟨A, c, A', c', rfl, hr⟩ := h.parts
  have fin : ∀ (ages' : List Int) (used' : List Bool) (s a : Int) (b : Bool), TakeDoes f t.ages t.used ages' used' s a b → takeST t = ⟨ages', used'⟩ → takeSH t = (s, a) → takeSB t = b → Calls Try.prog f #[.agg #[.slice A t.ages.length c, .slice A' t.used.length c']] w fun e w' => ∃ z, e = .returned (.tuple #[z, .agg #[.int .i64 (takeSH t).1, .int .i64 (takeSH t).2], .bool (takeSB t)]) ∧ OwnSl w' w.heap.size w'.heap.size z (takeST t) ∧ Kept 0 0 w w' := by
    intro ages' used' s a b hd e1 e2 e3
    rw [e1, e2, e3]
    exact (hd A A' c c' _ w (Nat.le_refl _) hr).mono fun e w' ⟨D, D', d, d', he, ho, hk⟩ => ⟨_, he, ho.one, hk⟩
  cases hb : slB t
  · have e : freeO t = none := by unfold freeO; rw [if_neg (by rw [hb]; decide)]
    exact fin [] [] 0 0 false (h0 _ _ hb) (by unfold takeST; rw [if_neg (by rw [hb]; decide)]; rfl) (by unfold takeSH; rw [e]) (by unfold takeSB; rw [e]; rfl)
  · have hl := slB_len hb
    rcases free_cases t hb with ⟨e, hn⟩ | ⟨k, hk, e, h3, h4⟩
    · exact fin t.ages t.used 0 0 false (h1 _ _ hb hn) (by unfold takeST; rw [if_pos hb, e]) (by unfold takeSH; rw [e]) (by unfold takeSB; rw [e]; rfl)
    · exact fin t.ages (t.used.set k true) k t.ages[k] true (h2 _ _ k _ hb hk (by omega) h3 h4 rfl) (by unfold takeST; rw [if_pos hb, e]) (by unfold takeSH; rw [e]; simp [hk]) (by unfold takeSB; rw [e]; rfl)
theorem specTake : DoesSlT 60 := take_of takeSpec_bad takeSpec_no takeSpec_yes
theorem implTake : DoesSlT 40 := take_of takeImpl_bad takeImpl_no takeImpl_yes
theorem new_of {f : Nat} (h1 : ∀ (ages : List Int) (used : List Bool) (n : Nat) (_ : ages = List.replicate n 0) (_ : used = List.replicate n false) (_ : 1 ≤ n) (_ : n ≤ 64) (w : World),
      Calls Try.prog f #[.int .i64 n] w fun e w' => ∃ (A A' : Option Addr) (c c' : Nat), e = .returned (.tuple #[.agg #[.slice A ages.length c, .slice A' used.length c'], .bool true]) ∧ OwnL w' w.heap.size w'.heap.size A c A' c' ages used ∧ Kept 0 0 w w')
    (h2 : ∀ (n : Int) (_ : n < 1 ∨ 64 < n) (w : World), Calls Try.prog f #[.int .i64 n] w fun e w' => e = .returned (.tuple #[.agg #[.slice none 0 0, .slice none 0 0], .bool false]) ∧ Kept 0 0 w w') : DoesSlN f := fun n w => by
  by_cases h : 1 ≤ n ∧ n ≤ 64
  · obtain ⟨k, rfl⟩ := Int.eq_ofNat_of_zero_le (show 0 ≤ n by omega)
    have e : newSB k = true := by simp [newSB]; omega
    have e2 : newST k = ⟨List.replicate k 0, List.replicate k false⟩ := by unfold newST; rw [if_pos e]; simp
    rw [e, e2]
    exact (h1 _ _ k rfl rfl (by omega) (by omega) w).mono fun e w' ⟨D, D', d, d', he, ho, hk⟩ => ⟨_, he, ho.one, hk⟩
  · have e : newSB n = false := by
      cases h3 : newSB n
      · rfl
      · simp [newSB] at h3; omega
    have e2 : newST n = slZ := by unfold newST; rw [if_neg (by rw [e]; decide)]
    rw [e, e2]
    exact (h2 n (by omega) w).mono fun e w' ⟨he, hk⟩ => ⟨_, he, OwnSl.nil _ _ _, hk⟩
theorem specNew : DoesSlN 54 := new_of newSpec_ok newSpec_bad
theorem implNew : DoesSlN 34 := new_of newImpl_ok newImpl_bad
/-- The reference's copy of slots. -/
theorem specCopyS (t : Slt) (v : Value) (w : World) (h : RdSl w w.heap.size v t) (hb : slB t = true) :
    Calls Try.prog 81 #[v] w fun e w' => ∃ z, e = .returned z ∧ OwnSl w' w.heap.size w'.heap.size z t ∧ Kept 0 0 w w' := by
  obtain ⟨A, c, A', c', rfl, hr⟩ := h.parts
  have hl := slB_len hb
  exact (copySpec_any _ _ _ _ _ _ _ w (Nat.le_refl _) hr hl.1 hl.2.1 hl.2.2).mono fun e w' ⟨D, D', d, d', he, ho, hk⟩ => ⟨_, he, ho.one, hk⟩
end Go.Proofs.Ytnnbfcmbcjkpoaa
