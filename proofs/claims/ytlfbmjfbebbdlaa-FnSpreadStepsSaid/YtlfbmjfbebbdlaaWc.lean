/- Spreads on paper: validity, what is begun, the children that can be told, one step, all steps; no program is named here. -/
import Derived.Test.YtlfbmjfbebbdlaaNt
import Derived.Test.YtlfbmjfbebbdlaaWb
namespace Go.Proofs.Ytlfbmjfbebbdlaa
open Go.RowKit

/-- A spread of a tree. -/
structure SprP (t : List Nd) (s : Spr) : Prop where
  tree : TreeP t
  told : s.told.length = t.length
  cap : s.work.length ≤ 240
  work : ∀ i (h : i < s.work.length), 0 ≤ s.work[i] ∧ s.work[i] < t.length
open Classical in
noncomputable def spreadB (t : List Nd) (s : Spr) : Bool := decide (SprP t s)
theorem spreadB_true {t : List Nd} {s : Spr} : spreadB t s = true ↔ SprP t s := by simp [spreadB]
theorem spreadB_false {t : List Nd} {s : Spr} : spreadB t s = false ↔ ¬ SprP t s := by simp [spreadB]
/-- The first k in the work are as they may be. -/
def PreW (t : List Nd) (s : Spr) (k : Nat) : Prop := ∀ i (h : i < s.work.length), i < k → 0 ≤ s.work[i] ∧ s.work[i] < t.length
theorem PreW.zero (t : List Nd) (s : Spr) : PreW t s 0 := fun i _ h => by omega
theorem PreW.succ {t : List Nd} {s : Spr} {k : Nat} (h : PreW t s k) (hk : k < s.work.length) (h1 : 0 ≤ s.work[k]) (h2 : s.work[k] < t.length) : PreW t s (k + 1) := fun i hi hl => by
  rcases Nat.lt_or_ge i k with h' | h'
  · exact h i hi h'
  · obtain rfl : i = k := by omega
    exact ⟨h1, h2⟩
theorem PreW.all {t : List Nd} {s : Spr} {k : Nat} (h : PreW t s k) (ht : TreeP t) (hl : s.told.length = t.length) (hc : s.work.length ≤ 240) (hk : s.work.length ≤ k) : spreadB t s = true :=
  spreadB_true.2 ⟨ht, hl, hc, fun i hi => h i hi (by omega)⟩
theorem not_spr_tree {t : List Nd} {s : Spr} (h : treeB t = false) : spreadB t s = false := spreadB_false.2 fun o => treeB_false.1 h o.tree
theorem not_spr_told {t : List Nd} {s : Spr} (h : s.told.length ≠ t.length) : spreadB t s = false := spreadB_false.2 fun o => h o.told
theorem not_spr_cap {t : List Nd} {s : Spr} (h : 240 < s.work.length) : spreadB t s = false := spreadB_false.2 fun o => by have := o.cap; omega
theorem not_spr_work {t : List Nd} {s : Spr} {k : Nat} (hk : k < s.work.length) (h : (decide (0 ≤ s.work[k]) && decide (s.work[k] ≤ (t.length : Int) - 1)) = false) : spreadB t s = false := spreadB_false.2 fun o => by
  have := o.work k hk
  simp only [Bool.and_eq_false_iff, decide_eq_false_iff_not] at h
  omega

def inB (t : List Nd) (n : Int) : Bool := decide (0 ≤ n) && decide (n ≤ (t.length : Int) - 1)
theorem inB_true {t : List Nd} {n : Int} : inB t n = true ↔ 0 ≤ n ∧ n < t.length := by
  simp only [inB, Bool.and_eq_true, decide_eq_true_eq]; omega
def sprZ : Spr := ⟨[], []⟩
noncomputable def begunB (t : List Nd) (s : Spr) (n : Int) : Bool := spreadB t s && (inB t n && decide (s.work.length ≠ 240))
noncomputable def begunS (t : List Nd) (s : Spr) (n : Int) : Spr := if spreadB t s then (if inB t n && decide (s.work.length ≠ 240) then ⟨s.told, s.work ++ [n]⟩ else s) else sprZ
theorem begun_no {t : List Nd} {s : Spr} {n : Int} (h : spreadB t s = false) : begunB t s n = false ∧ begunS t s n = sprZ := by simp [begunB, begunS, h]
theorem begun_out {t : List Nd} {s : Spr} {n : Int} (h : spreadB t s = true) (h2 : (inB t n && decide (s.work.length ≠ 240)) = false) : begunB t s n = false ∧ begunS t s n = s := by simp only [begunB, begunS, h, h2]; simp
theorem begun_in {t : List Nd} {s : Spr} {n : Int} (h : spreadB t s = true) (h2 : (inB t n && decide (s.work.length ≠ 240)) = true) : begunB t s n = true ∧ begunS t s n = ⟨s.told, s.work ++ [n]⟩ := by simp only [begunB, begunS, h, h2]; simp

/-- The children that can be told. -/
noncomputable def belowL (t : List Nd) (n : Int) : List Int := (kidsL t n).filter fun m => decide ((ndAt t m).kind ≠ 4)
theorem kidsFrom_mem {n m : Int} : ∀ (xs : List Nd) (i : Nat), m ∈ kidsFrom n i xs ↔ ∃ k, ∃ h : k < xs.length, m = ((i + k : Nat) : Int) ∧ xs[k].up = n := by
  intro xs
  induction xs with
  | nil => intro i; simp [kidsFrom]
  | cons x r ih =>
    intro i
    have e : m ∈ kidsFrom n i (x :: r) ↔ (x.up = n ∧ m = (i : Int)) ∨ m ∈ kidsFrom n (i + 1) r := by
      simp only [kidsFrom]
      split
      · rename_i h; simp [h]
      · rename_i h; simp [h]
    rw [e, ih]
    constructor
    · rintro (⟨h, rfl⟩ | ⟨k, hk, rfl, h⟩)
      · exact ⟨0, by simp, by simp, h⟩
      · exact ⟨k + 1, by simpa using hk, by congr 1; omega, by simpa using h⟩
    · rintro ⟨k, hk, rfl, h⟩
      cases k with
      | zero => exact .inl ⟨by simpa using h, by simp⟩
      | succ k => exact .inr ⟨k, by simpa using hk, by congr 1; omega, by simpa using h⟩
theorem kidsL_mem {t : List Nd} {n m : Int} : m ∈ kidsL t n ↔ hasB t n = true ∧ ∃ k, ∃ h : k < t.length, m = (k : Int) ∧ t[k].up = n := by
  unfold kidsL
  split
  · rename_i h; rw [kidsFrom_mem]; simp [h]
  · rename_i h; simp [h]
theorem belowL_mem {t : List Nd} {n m : Int} : m ∈ belowL t n ↔ hasB t n = true ∧ ∃ k, ∃ h : k < t.length, m = (k : Int) ∧ t[k].up = n ∧ t[k].kind ≠ 4 := by
  unfold belowL
  rw [List.mem_filter, kidsL_mem]
  constructor
  · rintro ⟨⟨h, k, hk, rfl, hu⟩, h4⟩
    rw [ndAt_nat t hk] at h4
    exact ⟨h, k, hk, rfl, hu, by simpa using h4⟩
  · rintro ⟨h, k, hk, rfl, hu, h4⟩
    exact ⟨⟨h, k, hk, rfl, hu⟩, by rw [ndAt_nat t hk]; simpa using h4⟩
theorem belowL_len (t : List Nd) (n : Int) : (belowL t n).length ≤ 60 := Nat.le_trans (List.length_filter_le _ _) (kidsL_len t n)
/-- What the first k children add to those that can be told. -/
noncomputable def belowTo (t : List Nd) (n : Int) (k : Nat) : List Int := ((kidsL t n).take k).filter fun m => decide ((ndAt t m).kind ≠ 4)
theorem belowTo_zero (t : List Nd) (n : Int) : belowTo t n 0 = [] := by simp [belowTo]
theorem belowTo_all (t : List Nd) (n : Int) {k : Nat} (h : (kidsL t n).length ≤ k) : belowTo t n k = belowL t n := by rw [belowTo, List.take_of_length_le h, belowL]
theorem belowTo_succ (t : List Nd) (n : Int) {k : Nat} (h : k < (kidsL t n).length) : belowTo t n (k + 1) = if (ndAt t (kidsL t n)[k]).kind = 4 then belowTo t n k else belowTo t n k ++ [(kidsL t n)[k]] := by
  unfold belowTo
  rw [List.take_succ_eq_append_getElem h, List.filter_append]
  simp only [List.filter_cons, List.filter_nil]
  split <;> rename_i h4 <;> simp at h4 <;> simp [h4]
theorem belowTo_len (t : List Nd) (n : Int) (k : Nat) : (belowTo t n k).length ≤ 60 := by
  have h1 := List.length_filter_le (fun m => decide ((ndAt t m).kind ≠ 4)) ((kidsL t n).take k)
  have h2 := kidsL_len t n
  have h3 : ((kidsL t n).take k).length ≤ (kidsL t n).length := by simp; omega
  unfold belowTo
  omega

/-- Has that node been told? (yes where there is none) -/
def toldAt (s : Spr) (n : Int) : Bool := s.told[n.toNat]?.getD true
theorem toldAt_nat {s : Spr} {k : Nat} (h : k < s.told.length) : toldAt s (k : Int) = s.told[k] := by simp [toldAt, List.getElem?_eq_getElem h]
/-- One step. -/
noncomputable def stepP (t : List Nd) (s : Spr) : Spr × Int :=
  match s.work with
  | [] => (s, -1)
  | n :: r => if toldAt s n = true then (⟨s.told, r⟩, -1) else if 240 < r.length + (belowL t n).length then (s, -1) else (⟨s.told.set n.toNat true, r ++ belowL t n⟩, n)
noncomputable def stepS (t : List Nd) (s : Spr) : Spr := if spreadB t s then (stepP t s).1 else sprZ
noncomputable def stepI (t : List Nd) (s : Spr) : Int := if spreadB t s then (stepP t s).2 else -1
theorem step_nil {t : List Nd} {s : Spr} (h : s.work = []) : stepP t s = (s, -1) := by unfold stepP; rw [h]
theorem step_told {t : List Nd} {s : Spr} {n : Int} {r : List Int} (h : s.work = n :: r) (h1 : toldAt s n = true) : stepP t s = (⟨s.told, r⟩, -1) := by unfold stepP; rw [h]; simp [h1]
theorem step_full {t : List Nd} {s : Spr} {n : Int} {r : List Int} (h : s.work = n :: r) (h1 : toldAt s n = false) (h2 : 240 < r.length + (belowL t n).length) : stepP t s = (s, -1) := by unfold stepP; rw [h]; simp [h1, h2]
theorem step_new {t : List Nd} {s : Spr} {n : Int} {r : List Int} (h : s.work = n :: r) (h1 : toldAt s n = false) (h2 : r.length + (belowL t n).length ≤ 240) : stepP t s = (⟨s.told.set n.toNat true, r ++ belowL t n⟩, n) := by unfold stepP; rw [h]; simp [h1]; omega
/-- A step leaves a spread of the tree. -/
theorem SprP.step {t : List Nd} {s : Spr} (o : SprP t s) : SprP t (stepP t s).1 := by
  rcases hw : s.work with _ | ⟨n, r⟩
  · rw [step_nil hw]; exact o
  · have hin : ∀ m ∈ s.work, 0 ≤ m ∧ m < t.length := fun m hm => by
      obtain ⟨i, hi, rfl⟩ := List.getElem_of_mem hm
      exact o.work i hi
    have hr : ∀ m ∈ r, 0 ≤ m ∧ m < t.length := fun m hm => hin m (by rw [hw]; exact List.mem_cons_of_mem _ hm)
    have hc : r.length + 1 ≤ 240 := by have := o.cap; rw [hw] at this; simpa using this
    cases h1 : toldAt s n
    · rcases Nat.lt_or_ge 240 (r.length + (belowL t n).length) with h2 | h2
      · rw [step_full hw h1 h2]; exact o
      · rw [step_new hw h1 h2]
        refine ⟨o.tree, by simpa using o.told, by simpa using h2, fun i hi => ?_⟩
        have hm := List.getElem_mem hi
        rcases List.mem_append.1 hm with hm | hm
        · exact hr _ hm
        · obtain ⟨_, k, hk, e, _⟩ := belowL_mem.1 hm
          rw [e]; omega
    · rw [step_told hw h1]
      exact ⟨o.tree, o.told, by show r.length ≤ 240; omega, fun i hi => hr _ (List.getElem_mem hi)⟩
/-- Does a step move nothing? -/
noncomputable def stuckB (t : List Nd) (s : Spr) : Bool := decide ((stepP t s).2 < 0) && decide ((stepP t s).1.work.length = s.work.length)
def meas (s : Spr) : Nat := s.told.count false * 241 + s.work.length
theorem meas_lt {t : List Nd} {s : Spr} (hw : s.work ≠ []) (hs : stuckB t s = false) : meas (stepP t s).1 < meas s := by
  rcases h : s.work with _ | ⟨n, r⟩
  · exact absurd h hw
  · cases h1 : toldAt s n
    · rcases Nat.lt_or_ge 240 (r.length + (belowL t n).length) with h2 | h2
      · unfold stuckB at hs; rw [step_full h h1 h2] at hs; simp at hs
      · rw [step_new h h1 h2]
        have hl : n.toNat < s.told.length := by
          rcases Nat.lt_or_ge n.toNat s.told.length with h' | h'
          · exact h'
          · unfold toldAt at h1; rw [List.getElem?_eq_none h'] at h1; cases h1
        have hf : s.told[n.toNat] = false := by unfold toldAt at h1; rwa [List.getElem?_eq_getElem hl] at h1
        have hp : 0 < s.told.count false := List.count_pos_iff.2 (hf ▸ List.getElem_mem hl)
        unfold meas
        simp only [List.count_set hl, hf, List.length_append, h, List.length_cons]
        simp
        omega
    · rw [step_told h h1]
      unfold meas
      simp [h]
/-- All steps. -/
noncomputable def allP (t : List Nd) (s : Spr) : Spr := if s.work = [] then s else if stuckB t s = true then s else allP t (stepP t s).1
termination_by meas s
decreasing_by exact meas_lt (by assumption) (by simpa using ‹¬ stuckB t s = true›)
noncomputable def allS (t : List Nd) (s : Spr) : Spr := if spreadB t s then allP t s else sprZ
theorem all_nil {t : List Nd} {s : Spr} (h : s.work = []) : allP t s = s := by rw [allP, if_pos h]
theorem all_stuck {t : List Nd} {s : Spr} (h : stuckB t s = true) : allP t s = s := by
  rw [allP]; split
  · rfl
  · rfl
theorem all_step {t : List Nd} {s : Spr} (hw : s.work ≠ []) (h : stuckB t s = false) : allP t s = allP t (stepP t s).1 := by rw [allP, if_neg hw, if_neg (by rw [h]; decide)]
theorem stuck_step {t : List Nd} {s : Spr} (o : SprP t s) : stuckB t s = (decide (stepI t s < 0) && decide ((stepS t s).work.length = s.work.length)) := by simp only [stuckB, stepI, stepS, spreadB_true.2 o, if_true]
end Go.Proofs.Ytlfbmjfbebbdlaa
