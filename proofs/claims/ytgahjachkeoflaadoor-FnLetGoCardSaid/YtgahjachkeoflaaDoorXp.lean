/- Events of trees on paper: which event may follow others, the first event of a node, and what the functions of the chapter return; no program is named here. -/
import Derived.Test.YtgahjachkeoflaaDoorXe
import Derived.Test.YtgahjachkeoflaaDoorNt
namespace Go.Proofs.YtgahjachkeoflaaDoor
open Go.RowKit

def dueB (now a : Int) : Bool := decide (a ≤ now) && decide (a ≠ 9223372036854775807)
/-- An event of a node of a tree. -/
def evB (t : List Nd) (e : Ev) : Bool := (decide (0 ≤ e.node) && decide (e.node ≤ (t.length : Int) - 1)) &&
  if e.err = 1 then (decide ((ndAt t e.node).kind = 1) || decide ((ndAt t e.node).kind = 2)) && (decide (0 ≤ e.cause) && decide (e.cause ≤ 999))
  else decide (e.err = 2) && decide ((ndAt t e.node).kind = 2) && dueB e.time (ndAt t e.node).due && decide (e.cause = 0)
def hitB (c : List Int) (e : Ev) : Bool := decide (e.node ∈ c)
/-- The first event of a chain. -/
def firstO (c : List Int) (l : List Ev) : Option Ev := l.find? (hitB c)
def firstI (c : List Int) (l : List Ev) : Int := if l.findIdx (hitB c) < l.length then (l.findIdx (hitB c) : Int) else -1
/-- No event ahead of place i is one of the chain. -/
def NoHit (c : List Int) (l : List Ev) (k : Nat) : Prop := ∀ i (h : i < l.length), i < k → l[i].node ∉ c
theorem NoHit.zero (c : List Int) (l : List Ev) : NoHit c l 0 := fun i _ h => by omega
theorem NoHit.succ {c : List Int} {l : List Ev} {k : Nat} (h : NoHit c l k) (hk : k < l.length) (hn : l[k].node ∉ c) : NoHit c l (k + 1) := fun i hi hl => by
  rcases Nat.lt_or_ge i k with h' | h'
  · exact h i hi h'
  · obtain rfl : i = k := by omega
    exact hn
theorem NoHit.none {c : List Int} {l : List Ev} {k : Nat} (h : NoHit c l k) (hk : l.length ≤ k) : firstO c l = none ∧ firstI c l = -1 := by
  have h1 : ∀ x ∈ l, hitB c x = false := by
    intro x hx
    obtain ⟨i, hi, rfl⟩ := List.mem_iff_getElem.1 hx
    have := h i hi (by omega)
    simp [hitB, this]
  refine ⟨by rw [firstO, List.find?_eq_none]; intro x hx; simp [h1 x hx], ?_⟩
  have : l.findIdx (hitB c) = l.length := List.findIdx_eq_length.2 h1
  simp [firstI, this]
theorem NoHit.some {c : List Int} {l : List Ev} {k : Nat} (h : NoHit c l k) (hk : k < l.length) (hn : l[k].node ∈ c) : firstO c l = some l[k] ∧ firstI c l = k := by
  have h1 : l.findIdx (hitB c) = k := by
    rw [List.findIdx_eq hk]
    exact ⟨by simp [hitB, hn], fun j hj => by have := h j (by omega) hj; simp [hitB, this]⟩
  refine ⟨?_, by simp [firstI, h1, hk]⟩
  rw [firstO, List.find?_eq_some_iff_getElem]
  exact ⟨by simp [hitB, hn], k, hk, rfl, fun j hj => by have := h j (by omega) hj; simp [hitB, this]⟩
theorem first_cases (c : List Int) (l : List Ev) : (firstO c l = none ∧ firstI c l = -1) ∨ ∃ k, ∃ h : k < l.length, firstO c l = some l[k] ∧ firstI c l = k := by
  by_cases hx : ∃ k, ∃ h : k < l.length, l[k].node ∈ c ∧ NoHit c l k
  · obtain ⟨k, h, hm, hn⟩ := hx
    exact .inr ⟨k, h, hn.some h hm⟩
  · refine .inl (NoHit.none (k := l.length) ?_ (Nat.le_refl _))
    have key : ∀ k, k ≤ l.length → NoHit c l k := by
      intro k
      induction k with
      | zero => intro _; exact NoHit.zero c l
      | succ k ih =>
        intro hk
        exact (ih (by omega)).succ (by omega) fun hm => hx ⟨k, by omega, hm, ih (by omega)⟩
    exact key _ (Nat.le_refl _)
theorem firstI_neg (c : List Int) (l : List Ev) : decide (0 ≤ firstI c l) = (firstO c l).isSome := by
  rcases first_cases c l with ⟨h1, h2⟩ | ⟨k, h, h1, h2⟩
  · rw [h1, h2]; rfl
  · rw [h1, h2]; simp

def evAt (l : List Ev) (i : Nat) : Ev := l[i]?.getD ⟨0, 0, 0, 0⟩
theorem evAt_of {l : List Ev} {i : Nat} (h : i < l.length) : evAt l i = l[i] := by simp [evAt, List.getElem?_eq_getElem h]
/-- The last of some events is not later. -/
def lateB (before : List Ev) (time : Int) : Bool := decide (before.length = 0) || decide ((evAt before (before.length - 1)).time ≤ time)
/-- An event may follow others. -/
noncomputable def mayB (t : List Nd) (before : List Ev) (e : Ev) : Bool := evB t e && ((firstO (chainL t e.node) before).isNone && lateB before e.time)
/-- The first k events each may follow those ahead of it. -/
def PreE (t : List Nd) (l : List Ev) (k : Nat) : Prop := ∀ i (h : i < l.length), i < k → mayB t (l.take i) l[i] = true
open Classical in
noncomputable def eventsB (t : List Nd) (l : List Ev) : Bool := treeB t && decide (PreE t l l.length)
theorem eventsB_true {t : List Nd} {l : List Ev} : eventsB t l = true ↔ TreeP t ∧ PreE t l l.length := by simp [eventsB, treeB_true]
theorem PreE.zero (t : List Nd) (l : List Ev) : PreE t l 0 := fun i _ h => by omega
theorem PreE.succ {t : List Nd} {l : List Ev} {k : Nat} (h : PreE t l k) (hk : k < l.length) (hm : mayB t (l.take k) l[k] = true) : PreE t l (k + 1) := fun i hi hl => by
  rcases Nat.lt_or_ge i k with h' | h'
  · exact h i hi h'
  · obtain rfl : i = k := by omega
    exact hm
theorem PreE.all {t : List Nd} {l : List Ev} {k : Nat} (o : TreeP t) (h : PreE t l k) (hk : l.length ≤ k) : eventsB t l = true := eventsB_true.2 ⟨o, fun i hi _ => h i hi (by omega)⟩
theorem not_events_tree {t : List Nd} {l : List Ev} (h : treeB t = false) : eventsB t l = false := by simp [eventsB, h]
theorem not_events_at {t : List Nd} {l : List Ev} {k : Nat} (hk : k < l.length) (h : mayB t (l.take k) l[k] = false) : eventsB t l = false := by
  cases hb : eventsB t l with
  | false => rfl
  | true => rw [(eventsB_true.1 hb).2 k hk hk] at h; cases h
/-- A list with one event more. -/
theorem events_snoc (t : List Nd) (l : List Ev) (e : Ev) : eventsB t (l ++ [e]) = (eventsB t l && mayB t l e) := by
  rw [Bool.eq_iff_iff, Bool.and_eq_true, eventsB_true, eventsB_true]
  constructor
  · rintro ⟨o, h⟩
    refine ⟨⟨o, fun i hi _ => ?_⟩, ?_⟩
    · have := h i (by simp; omega) (by simp; omega)
      rwa [List.getElem_append_left hi, List.take_append_of_le_length (by omega)] at this
    · have := h l.length (by simp) (by simp)
      simpa using this
  · rintro ⟨⟨o, h⟩, hm⟩
    refine ⟨o, fun i hi _ => ?_⟩
    simp only [List.length_append, List.length_cons, List.length_nil] at hi
    rcases Nat.lt_or_ge i l.length with hl | hl
    · rw [List.getElem_append_left hl, List.take_append_of_le_length (by omega)]
      exact h i hl hl
    · obtain rfl : i = l.length := by omega
      simpa using hm
/-- Pairwise different numbers below a bound are no more than it. -/
theorem few : ∀ (n : Nat) (xs : List Int), xs.Pairwise (· ≠ ·) → (∀ x ∈ xs, 0 ≤ x ∧ x < n) → xs.length ≤ n := by
  intro n
  induction n with
  | zero =>
    intro xs _ h
    cases xs with
    | nil => simp
    | cons x r => have := h x (by simp); omega
  | succ n ih =>
    intro xs hp h
    have h1 := ih (xs.filter fun x => decide (x ≠ (n : Int))) (hp.filter _) (fun x hx => by
      simp only [List.mem_filter, decide_eq_true_eq] at hx
      have := h x hx.1
      omega)
    have h2 : xs.length ≤ (xs.filter fun x => decide (x ≠ (n : Int))).length + 1 := by
      clear h h1 ih
      induction xs with
      | nil => simp
      | cons x r ih =>
        rw [List.pairwise_cons] at hp
        by_cases hx : x = (n : Int)
        · have : r.filter (fun y => decide (y ≠ (n : Int))) = r := by
            rw [List.filter_eq_self]
            intro y hy
            have := hp.1 y hy
            simp; omega
          simp only [List.filter_cons, hx, ne_eq, not_true_eq_false, decide_false, Bool.false_eq_true, if_false, List.length_cons]
          simp only [ne_eq] at this
          rw [this]
          exact Nat.le_refl _
        · have := ih hp.2
          simp only [List.filter_cons, ne_eq, hx, not_false_eq_true, decide_true, if_true, List.length_cons] at this ⊢
          omega
    omega
theorem evB_node {t : List Nd} {e : Ev} (h : evB t e = true) : 0 ≤ e.node ∧ e.node < t.length := by
  unfold evB at h
  simp only [Bool.and_eq_true, decide_eq_true_eq] at h
  omega
theorem mayB_ev {t : List Nd} {b : List Ev} {e : Ev} (h : mayB t b e = true) : evB t e = true := by
  unfold mayB at h
  simp only [Bool.and_eq_true] at h
  exact h.1
theorem mayB_none {t : List Nd} {b : List Ev} {e : Ev} (h : mayB t b e = true) : firstO (chainL t e.node) b = none := by
  unfold mayB at h
  simp only [Bool.and_eq_true, Option.isNone_iff_eq_none] at h
  exact h.2.1
theorem mem_chainL {t : List Nd} {n : Int} (o : TreeP t) (h0 : 0 ≤ n) (h1 : n < t.length) : n ∈ chainL t n := by
  obtain ⟨k, rfl⟩ := Int.eq_ofNat_of_zero_le h0
  have hk : k < t.length := by omega
  rw [chainL, if_pos (hasB_true.2 ⟨o, h0, h1⟩), chain_nat o hk]
  exact List.mem_cons_self
theorem events_len {t : List Nd} {l : List Ev} (h : eventsB t l = true) : l.length ≤ 60 := by
  obtain ⟨o, hp⟩ := eventsB_true.1 h
  have hl := o.len
  have key := few t.length (l.map Ev.node) ?_ ?_
  · simp at key; omega
  · rw [List.pairwise_map, List.pairwise_iff_getElem]
    intro i j hi hj hij he
    have hm := hp j hj hj
    have hn := mayB_none hm
    have hb := evB_node (mayB_ev hm)
    rw [firstO, List.find?_eq_none] at hn
    have hx : l[i] ∈ l.take j := by
      rw [List.mem_take_iff_getElem]
      exact ⟨i, by omega, rfl⟩
    have := hn _ hx
    rw [hitB, decide_eq_true_eq, he] at this
    exact this (mem_chainL o hb.1 hb.2)
  · intro x hx
    obtain ⟨e, he, rfl⟩ := List.mem_map.1 hx
    obtain ⟨i, hi, rfl⟩ := List.mem_iff_getElem.1 he
    exact evB_node (mayB_ev (hp i hi hi))

def evZ : Ev := ⟨0, 0, 0, 0⟩
noncomputable def fstO (t : List Nd) (l : List Ev) (n : Int) : Option Ev := if eventsB t l then firstO (chainL t n) l else none
noncomputable def fstE (t : List Nd) (l : List Ev) (n : Int) : Ev := (fstO t l n).getD evZ
noncomputable def fstB (t : List Nd) (l : List Ev) (n : Int) : Bool := (fstO t l n).isSome
noncomputable def errI (t : List Nd) (l : List Ev) (n : Int) : Int := (fstE t l n).err
noncomputable def causeI (t : List Nd) (l : List Ev) (n : Int) : Int := (fstE t l n).cause
noncomputable def letL (t : List Nd) (l : List Ev) (e : Ev) : List Ev := if eventsB t l then (if mayB t l e then l ++ [e] else l) else []
noncomputable def letB (t : List Nd) (l : List Ev) (e : Ev) : Bool := eventsB t l && mayB t l e
noncomputable def doneTo (t : List Nd) (l : List Ev) (k : Nat) : List Int := ((List.range k).filter fun n : Nat => (firstO (chainL t (n : Int)) l).isSome).map fun n : Nat => (n : Int)
noncomputable def doneL (t : List Nd) (l : List Ev) : List Int := if eventsB t l then doneTo t l t.length else []
theorem letL_len (t : List Nd) (l : List Ev) (e : Ev) : (letL t l e).length ≤ 61 := by
  unfold letL
  split
  · rename_i h
    have := events_len h
    split <;> simp <;> omega
  · simp
theorem doneTo_len (t : List Nd) (l : List Ev) (k : Nat) : (doneTo t l k).length ≤ k := by
  unfold doneTo
  have := List.length_filter_le (fun n : Nat => (firstO (chainL t (n : Int)) l).isSome) (List.range k)
  simp at this ⊢
  omega
theorem doneTo_succ (t : List Nd) (l : List Ev) (k : Nat) : doneTo t l (k + 1) = if (firstO (chainL t (k : Int)) l).isSome then doneTo t l k ++ [(k : Int)] else doneTo t l k := by
  unfold doneTo
  rw [List.range_succ, List.filter_append, List.map_append]
  simp only [List.filter_cons, List.filter_nil]
  split <;> simp
theorem doneL_len (t : List Nd) (l : List Ev) : (doneL t l).length ≤ 60 := by
  unfold doneL
  split
  · rename_i h
    have := (eventsB_true.1 h).1.len
    have := doneTo_len t l t.length
    omega
  · simp
/-- What a first event's reason is: one of the two. -/
theorem fst_err {t : List Nd} {l : List Ev} {n : Int} {e : Ev} (h : fstO t l n = some e) : e.err = 1 ∨ e.err = 2 := by
  unfold fstO at h
  split at h
  · rename_i hb
    have hm := List.mem_of_find?_eq_some h
    obtain ⟨i, hi, rfl⟩ := List.mem_iff_getElem.1 hm
    have he := mayB_ev ((eventsB_true.1 hb).2 i hi hi)
    unfold evB at he
    simp only [Bool.and_eq_true] at he
    by_cases h1 : l[i].err = 1
    · exact .inl h1
    · rw [if_neg h1] at he
      simp only [Bool.and_eq_true, decide_eq_true_eq] at he
      exact .inr he.2.1.1.1
  · cases h
end Go.Proofs.YtgahjachkeoflaaDoor
