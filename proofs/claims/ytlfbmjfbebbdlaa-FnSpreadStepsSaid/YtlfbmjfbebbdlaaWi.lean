/- Step by step, on paper: what a step tells, and how many steps there are at most; no program is named here. -/
import Derived.Test.YtlfbmjfbebbdlaaWh
namespace Go.Proofs.Ytlfbmjfbebbdlaa
open Go.RowKit

/-- A list without repetition is at most as long as a list that holds all of it. -/
theorem sub_len : ∀ (a b : List Int), a.Nodup → (∀ x ∈ a, x ∈ b) → a.length ≤ b.length := by
  intro a
  induction a with
  | nil => intro b _ _; simp
  | cons x r ih =>
    intro b hd h
    obtain ⟨h1, h2⟩ := List.nodup_cons.1 hd
    have hx := h x (by simp)
    have := ih (b.erase x) h2 (fun y hy => by
      have hne : y ≠ x := fun e => h1 (e ▸ hy)
      exact (List.mem_erase_of_ne hne).2 (h y (List.mem_cons_of_mem _ hy)))
    rw [List.length_erase_of_mem hx] at this
    have := List.length_pos_of_mem hx
    simp only [List.length_cons]
    omega
theorem count_split (p p' q : Nat → Bool) : ∀ (l : List Nat), (∀ c ∈ l, p c = (p' c || q c) ∧ (p' c && q c) = false) → l.countP p = l.countP p' + l.countP q := by
  intro l
  induction l with
  | nil => intro _; simp
  | cons x r ih =>
    intro h
    obtain ⟨h1, h2⟩ := h x (by simp)
    have := ih (fun c hc => h c (List.mem_cons_of_mem _ hc))
    simp only [List.countP_cons, h1, this]
    cases hp : p' x <;> cases hq : q x <;> simp [hp, hq] at h2 ⊢ <;> omega
/-- Is that node still to be put into the work by its parent? -/
def pendB (t : List Nd) (s : Spr) (c : Nat) : Bool := decide ((ndAt t (c : Int)).kind ≠ 4) && decide (0 ≤ (ndAt t (c : Int)).up) && !(toldAt s (ndAt t (c : Int)).up)
def pend (t : List Nd) (s : Spr) : Nat := (List.range t.length).countP (pendB t s)
def pot (t : List Nd) (s : Spr) : Nat := s.work.length + pend t s
theorem pot_le {t : List Nd} {s : Spr} (o : SprP t s) : pot t s ≤ 300 := by
  have h1 : pend t s ≤ t.length := by
    have := List.countP_le_length (p := pendB t s) (l := List.range t.length)
    simpa [pend] using this
  have := o.tree.len
  have := o.cap
  unfold pot
  omega
/-- A step that takes something from the work brings the rest down by one. -/
theorem pot_step {t : List Nd} {s : Spr} (o : SprP t s) (hw : s.work ≠ []) : (stepP t s).1 = s ∨ pot t (stepP t s).1 + 1 ≤ pot t s := by
  rcases e : s.work with _ | ⟨x, r⟩
  · exact absurd e hw
  have hx := o.work 0 (by rw [e]; simp)
  have hx0 : s.work[0]'(by rw [e]; simp) = x := by simp [e]
  rw [hx0] at hx
  obtain ⟨j, rfl⟩ := Int.eq_ofNat_of_zero_le hx.1
  have hj : j < s.told.length := by have := o.told; omega
  cases h1 : toldAt s (j : Int)
  · rcases Nat.lt_or_ge 240 (r.length + (belowL t j).length) with h2 | h2
    · left; rw [step_full e h1 h2]
    · right
      rw [step_new e h1 h2]
      have q : ∃ q : Nat → Bool, q = fun c : Nat => decide ((ndAt t (c : Int)).kind ≠ 4) && decide ((ndAt t (c : Int)).up = j) := ⟨_, rfl⟩
      obtain ⟨q, hq⟩ := q
      have hsp := count_split (pendB t s) (pendB t ⟨s.told.set j true, r ++ belowL t j⟩) q (List.range t.length) (fun c hc => by
        rw [hq]
        unfold pendB
        dsimp only
        have hu : toldAt ⟨s.told.set j true, r ++ belowL t j⟩ (ndAt t (c : Int)).up = (toldAt s (ndAt t (c : Int)).up || decide ((ndAt t (c : Int)).up.toNat = j)) := by
          unfold toldAt
          simp only [List.getElem?_set]
          by_cases he : j = (ndAt t (c : Int)).up.toNat
          · rw [if_pos he, if_pos hj]; simp [he]
          · rw [if_neg he]
            have : ¬ (ndAt t (c : Int)).up.toNat = j := fun h => he h.symm
            simp [this]
        rw [hu]
        by_cases h4 : (ndAt t (c : Int)).kind = 4
        · simp [h4]
        by_cases h0 : 0 ≤ (ndAt t (c : Int)).up
        · obtain ⟨p, hp⟩ := Int.eq_ofNat_of_zero_le h0
          rw [hp]
          by_cases he : p = j
          · subst he; rw [h1]; simp [h4]
          · have : ¬ (p : Int) = (j : Int) := by omega
            simp [h4, he, this]
        · have : ¬ (ndAt t (c : Int)).up = (j : Int) := by omega
          simp [h0, this])
      have hb : (belowL t j).length ≤ (List.range t.length).countP q := by
        have := sub_len (belowL t j) (((List.range t.length).filter q).map fun c : Nat => (c : Int)) (belowL_nodup t j) (fun y hy => by
          obtain ⟨_, k, hk, rfl, hu, h4⟩ := belowL_mem.1 hy
          refine List.mem_map.2 ⟨k, List.mem_filter.2 ⟨List.mem_range.2 hk, ?_⟩, rfl⟩
          rw [hq]
          simp [ndAt_nat t hk, hu, h4])
        rw [List.length_map, ← List.countP_eq_length_filter] at this
        exact this
      unfold pot pend
      simp only [List.length_append, e, List.length_cons]
      rw [show ((j : Int)).toNat = j from rfl]
      omega
  · right
    rw [step_told e h1]
    unfold pot pend
    rw [show pendB t ⟨s.told, r⟩ = pendB t s from rfl]
    simp [e]
    omega
/-- What a step tells: its node, and that one had not been told. -/
theorem step_tells {t : List Nd} {s : Spr} (o : SprP t s) : (stepP t s).1.told.length = t.length ∧ ∀ m (h : m < s.told.length) (h' : m < (stepP t s).1.told.length), (stepP t s).1.told[m] = (s.told[m] || decide ((m : Int) = (stepP t s).2)) ∧ (decide ((m : Int) = (stepP t s).2) && s.told[m]) = false := by
  refine ⟨o.step.told, fun m h h' => ?_⟩
  have none : ∀ (r : List Int) (h' : m < (⟨s.told, r⟩ : Spr).told.length), (⟨s.told, r⟩ : Spr).told[m] = (s.told[m] || decide ((m : Int) = -1)) ∧ (decide ((m : Int) = -1) && s.told[m]) = false := fun r h' => by
    have : ¬ (m : Int) = -1 := by omega
    simp [this]
  rcases e : s.work with _ | ⟨x, r⟩
  · have hs := step_nil (t := t) e
    have h'' := h'
    simp only [hs] at h' ⊢
    exact none s.work h
  have hx := o.work 0 (by rw [e]; simp)
  have hx0 : s.work[0]'(by rw [e]; simp) = x := by simp [e]
  rw [hx0] at hx
  obtain ⟨j, rfl⟩ := Int.eq_ofNat_of_zero_le hx.1
  have hj : j < s.told.length := by have := o.told; omega
  cases h1 : toldAt s (j : Int)
  · rcases Nat.lt_or_ge 240 (r.length + (belowL t j).length) with h2 | h2
    · have hs := step_full e h1 h2
      simp only [hs] at h' ⊢
      exact none s.work h
    · have hs := step_new e h1 h2
      simp only [hs] at h' ⊢
      rw [toldAt_nat hj] at h1
      simp only [show ((j : Int)).toNat = j from rfl, List.getElem_set]
      by_cases he : j = m
      · subst he; simp [h1]
      · have : ¬ (m : Int) = (j : Int) := by omega
        simp [he, this]
  · have hs := step_told (t := t) e h1
    simp only [hs] at h' ⊢
    exact none r h
/-- A step of an empty work leaves it empty. -/
theorem step_empty {t : List Nd} {s : Spr} (h : s.work = []) : (stepP t s).1.work = [] := by rw [step_nil h]; exact h
end Go.Proofs.Ytlfbmjfbebbdlaa
