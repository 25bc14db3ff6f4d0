/- Trees of contexts on paper: validity, the line from a node up to its root, its chain, values and deadlines; no program is named here. -/
import Derived.Test.YtlfbmjfbebbdlaaNd
namespace Go.Proofs.Ytlfbmjfbebbdlaa
open Go.RowKit

def nodeB (x : Nd) : Bool := (decide (x.kind = 2) || decide (x.due = 9223372036854775807)) &&
  if x.kind = 3 then (decide (1 ≤ x.key) && decide (x.key ≤ 9)) && (decide (0 ≤ x.value) && decide (x.value ≤ 999))
  else (decide (0 ≤ x.kind) && decide (x.kind ≤ 4)) && (decide (x.key = 0) && decide (x.value = 0))
def hangB (x : Nd) (i : Nat) : Bool := if x.kind = 0 then decide (x.up = -1) else decide (0 ≤ x.up) && decide (x.up ≤ (i : Int) - 1)
/-- A list of nodes is a tree. -/
structure TreeP (t : List Nd) : Prop where
  len : t.length ≤ 60
  node : ∀ i (h : i < t.length), nodeB t[i] = true
  hang : ∀ i (h : i < t.length), hangB t[i] i = true
open Classical in
noncomputable def treeB (t : List Nd) : Bool := decide (TreeP t)
theorem treeB_true {t : List Nd} : treeB t = true ↔ TreeP t := by simp [treeB]
theorem treeB_false {t : List Nd} : treeB t = false ↔ ¬ TreeP t := by simp [treeB]
/-- The first k nodes are as they may be. -/
def PreT (t : List Nd) (k : Nat) : Prop := ∀ i (h : i < t.length), i < k → nodeB t[i] = true ∧ hangB t[i] i = true
theorem PreT.zero (t : List Nd) : PreT t 0 := fun i _ h => by omega
theorem PreT.succ {t : List Nd} {k : Nat} (h : PreT t k) (hk : k < t.length) (h1 : nodeB t[k] = true) (h2 : hangB t[k] k = true) : PreT t (k + 1) := fun i hi hl => by
  rcases Nat.lt_or_ge i k with h' | h'
  · exact h i hi h'
  · obtain rfl : i = k := by omega
    exact ⟨h1, h2⟩
theorem PreT.all {t : List Nd} {k : Nat} (h : PreT t k) (hl : t.length ≤ 60) (hk : t.length ≤ k) : treeB t = true :=
  treeB_true.2 ⟨hl, fun i hi => (h i hi (by omega)).1, fun i hi => (h i hi (by omega)).2⟩
theorem not_tree_len {t : List Nd} (h : 60 < t.length) : treeB t = false := treeB_false.2 fun o => by have := o.len; omega
theorem not_tree_node {t : List Nd} {k : Nat} (hk : k < t.length) (h : nodeB t[k] = false) : treeB t = false := treeB_false.2 fun o => by have := o.node k hk; rw [h] at this; cases this
theorem not_tree_hang {t : List Nd} {k : Nat} (hk : k < t.length) (h : hangB t[k] k = false) : treeB t = false := treeB_false.2 fun o => by have := o.hang k hk; rw [h] at this; cases this
theorem hang_up {x : Nd} {i : Nat} (h : hangB x i = true) : -1 ≤ x.up ∧ x.up < (i : Int) ∧ (x.kind = 0 ↔ x.up = -1) := by
  unfold hangB at h
  split at h
  · rename_i hk
    have : x.up = -1 := by simpa using h
    exact ⟨by omega, by omega, by simp [hk, this]⟩
  · rename_i hk
    simp only [Bool.and_eq_true, decide_eq_true_eq] at h
    exact ⟨by omega, by omega, ⟨fun h' => absurd h' hk, fun h' => by omega⟩⟩
theorem TreeP.up {t : List Nd} (o : TreeP t) {i : Nat} (h : i < t.length) : -1 ≤ t[i].up ∧ t[i].up < (i : Int) ∧ (t[i].kind = 0 ↔ t[i].up = -1) := hang_up (o.hang i h)

/-- Is there that node in a tree? -/
noncomputable def hasB (t : List Nd) (n : Int) : Bool := treeB t && (decide (0 ≤ n) && decide (n ≤ (t.length : Int) - 1))
theorem hasB_true {t : List Nd} {n : Int} : hasB t n = true ↔ TreeP t ∧ 0 ≤ n ∧ n < t.length := by
  simp only [hasB, Bool.and_eq_true, treeB_true, decide_eq_true_eq]
  exact ⟨fun ⟨h, h1, h2⟩ => ⟨h, h1, by omega⟩, fun ⟨h, h1, h2⟩ => ⟨h, h1, by omega⟩⟩

/-- The node with this index (a root where there is none). -/
def ndAt (t : List Nd) (i : Int) : Nd := t[i.toNat]?.getD ⟨0, -1, 0, 0, 0⟩
theorem ndAt_nat (t : List Nd) {k : Nat} (h : k < t.length) : ndAt t (k : Int) = t[k] := by simp [ndAt, List.getElem?_eq_getElem h]

/-- From a node up to its root. -/
def lineOf (t : List Nd) (i : Int) : List Int := if 0 ≤ i then i :: (if (ndAt t i).up < i then lineOf t (ndAt t i).up else []) else []
termination_by (i + 1).toNat
decreasing_by omega
/-- From a node up to the first root or cut. -/
def chainOf (t : List Nd) (i : Int) : List Int := if 0 ≤ i then i :: (if (ndAt t i).kind = 0 ∨ (ndAt t i).kind = 4 then [] else if (ndAt t i).up < i then chainOf t (ndAt t i).up else []) else []
termination_by (i + 1).toNat
decreasing_by omega
/-- The first value with this key from a node up to its root. -/
def valOf (t : List Nd) (key : Int) (i : Int) : Option Int := if 0 ≤ i then (if (ndAt t i).kind = 3 ∧ (ndAt t i).key = key then some (ndAt t i).value else if (ndAt t i).up < i then valOf t key (ndAt t i).up else none) else none
termination_by (i + 1).toNat
decreasing_by omega
section
variable {t : List Nd} (o : TreeP t)
include o
theorem line_nat {k : Nat} (h : k < t.length) : lineOf t k = (k : Int) :: lineOf t t[k].up := by
  rw [lineOf, if_pos (by omega), ndAt_nat t h, if_pos (o.up h).2.1]
theorem chain_nat {k : Nat} (h : k < t.length) : chainOf t k = (k : Int) :: (if t[k].kind = 0 ∨ t[k].kind = 4 then [] else chainOf t t[k].up) := by
  rw [chainOf, if_pos (by omega), ndAt_nat t h, if_pos (o.up h).2.1]
theorem val_nat (key : Int) {k : Nat} (h : k < t.length) : valOf t key k = if t[k].kind = 3 ∧ t[k].key = key then some t[k].value else valOf t key t[k].up := by
  rw [valOf, if_pos (by omega), ndAt_nat t h, if_pos (o.up h).2.1]
end
theorem line_neg (t : List Nd) {i : Int} (h : i < 0) : lineOf t i = [] := by rw [lineOf, if_neg (by omega)]
theorem val_neg (t : List Nd) (key : Int) {i : Int} (h : i < 0) : valOf t key i = none := by rw [valOf, if_neg (by omega)]
theorem chain_neg (t : List Nd) {i : Int} (h : i < 0) : chainOf t i = [] := by rw [chainOf, if_neg (by omega)]
/-- What lies in a line are indices of the tree, each less than the one before. -/
theorem line_mem {t : List Nd} (o : TreeP t) : ∀ (n : Nat) (i : Int), i < n → i < t.length → ∀ x ∈ lineOf t i, 0 ≤ x ∧ x ≤ i := by
  intro n
  induction n with
  | zero => intro i hi _ x hx; rw [line_neg t (by omega)] at hx; cases hx
  | succ n ih =>
    intro i hi hl x hx
    rcases Int.lt_or_le i 0 with h | h
    · rw [line_neg t h] at hx; cases hx
    · obtain ⟨k, rfl⟩ := Int.eq_ofNat_of_zero_le h
      have hk : k < t.length := by omega
      rw [line_nat o hk] at hx
      have u := o.up hk
      rcases List.mem_cons.1 hx with rfl | hx
      · omega
      · have := ih t[k].up (by omega) (by omega) x hx
        omega
theorem line_len {t : List Nd} (o : TreeP t) : ∀ (n : Nat) (i : Int), i < n → i < t.length → (lineOf t i).length ≤ n := by
  intro n
  induction n with
  | zero => intro i hi _; rw [line_neg t (by omega)]; simp
  | succ n ih =>
    intro i hi hl
    rcases Int.lt_or_le i 0 with h | h
    · rw [line_neg t h]; simp
    · obtain ⟨k, rfl⟩ := Int.eq_ofNat_of_zero_le h
      have hk : k < t.length := by omega
      rw [line_nat o hk]
      have u := o.up hk
      have := ih t[k].up (by omega) (by omega)
      simp only [List.length_cons]; omega
/-- The chain is the part of the line up to its first cut. -/
theorem chain_line {t : List Nd} (o : TreeP t) : ∀ (n : Nat) (i : Int), i < n → i < t.length → chainOf t i <+: lineOf t i ∧
    (∀ k (h : k < (chainOf t i).length), (ndAt t (chainOf t i)[k]).kind = 4 → k + 1 = (chainOf t i).length) ∧
    (∀ k (h : k < (chainOf t i).length), k + 1 = (chainOf t i).length → (ndAt t (chainOf t i)[k]).kind = 4 ∨ k + 1 = (lineOf t i).length) := by
  intro n
  induction n with
  | zero => intro i hi _; rw [line_neg t (by omega), chain_neg t (by omega)]; simp
  | succ n ih =>
    intro i hi hl
    rcases Int.lt_or_le i 0 with h | h
    · rw [line_neg t h, chain_neg t h]; simp
    · obtain ⟨k, rfl⟩ := Int.eq_ofNat_of_zero_le h
      have hk : k < t.length := by omega
      have u := o.up hk
      rw [line_nat o hk, chain_nat o hk]
      by_cases h4 : t[k].kind = 4
      · rw [if_pos (.inr h4)]
        refine ⟨by simp, ?_, ?_⟩
        · intro j hj _; simp at hj ⊢; omega
        · intro j hj _; simp at hj; subst hj; left; simp [ndAt_nat t hk, h4]
      · by_cases h0 : t[k].kind = 0
        · rw [if_pos (.inl h0), line_neg t (by rw [u.2.2.1 h0]; decide)]
          refine ⟨by simp, ?_, ?_⟩
          · intro j hj _; simp at hj ⊢; omega
          · intro j hj _; simp at hj; subst hj; right; simp
        · rw [if_neg (by simp [h0, h4])]
          obtain ⟨a, b, c⟩ := ih t[k].up (by omega) (by omega)
          refine ⟨by simpa using a, ?_, ?_⟩
          · intro j hj he
            cases j with
            | zero => simp [ndAt_nat t hk] at he; exact absurd he h4
            | succ j => simp only [List.length_cons, List.getElem_cons_succ] at hj he ⊢; have := b j (by omega) he; omega
          · intro j hj he
            cases j with
            | zero =>
              simp only [List.length_cons] at he
              have hz : (chainOf t t[k].up) = [] := List.length_eq_zero_iff.1 (by omega)
              have hup : 0 ≤ t[k].up := by
                rcases Int.lt_or_le t[k].up 0 with h' | h'
                · exact absurd (u.2.2.2 (by omega)) h0
                · exact h'
              obtain ⟨m, hm⟩ := Int.eq_ofNat_of_zero_le hup
              rw [hm, chain_nat o (by omega)] at hz
              cases hz
            | succ j => simp only [List.length_cons, List.getElem_cons_succ] at hj he ⊢; have := c j (by omega) (by omega); omega
theorem chain_len {t : List Nd} (o : TreeP t) {i : Int} (hl : i < t.length) : (chainOf t i).length ≤ 60 := by
  have h1 := (chain_line o (t.length) i hl hl).1.length_le
  have h2 := line_len o t.length i hl hl
  have := o.len
  omega
def minI (a b : Int) : Int := if b < a then b else a
/-- The smallest Due of some nodes. -/
def minDue (t : List Nd) : Int → List Int → Int
  | d, [] => d
  | d, i :: r => minDue t (minI d (ndAt t i).due) r
noncomputable def chainL (t : List Nd) (n : Int) : List Int := if hasB t n then chainOf t n else []
noncomputable def lineL (t : List Nd) (n : Int) : List Int := if hasB t n then lineOf t n else []
noncomputable def dueI (t : List Nd) (n : Int) : Int := minDue t 9223372036854775807 (chainL t n)
noncomputable def valO (t : List Nd) (n key : Int) : Option Int := if hasB t n then valOf t key n else none
noncomputable def valI (t : List Nd) (n key : Int) : Int := (valO t n key).getD 0
noncomputable def valB (t : List Nd) (n key : Int) : Bool := (valO t n key).isSome
/-- The children of a node, among those from i on. -/
def kidsFrom (n : Int) : Nat → List Nd → List Int
  | _, [] => []
  | i, x :: r => if x.up = n then (i : Int) :: kidsFrom n (i + 1) r else kidsFrom n (i + 1) r
noncomputable def kidsL (t : List Nd) (n : Int) : List Int := if hasB t n then kidsFrom n 0 t else []
/-- What the first k nodes add to the children. -/
def kidsTo (t : List Nd) (n : Int) (k : Nat) : List Int := kidsFrom n 0 (t.take k)
theorem kidsFrom_append (n : Int) (xs ys : List Nd) : ∀ i, kidsFrom n i (xs ++ ys) = kidsFrom n i xs ++ kidsFrom n (i + xs.length) ys := by
  induction xs with
  | nil => intro i; rfl
  | cons x r ih =>
    intro i
    simp only [List.cons_append, kidsFrom, ih, List.length_cons]
    split <;> simp [Nat.add_comm, Nat.add_left_comm]
theorem kidsTo_succ (t : List Nd) (n : Int) {k : Nat} (h : k < t.length) : kidsTo t n (k + 1) = if t[k].up = n then kidsTo t n k ++ [(k : Int)] else kidsTo t n k := by
  unfold kidsTo
  rw [List.take_succ_eq_append_getElem h, kidsFrom_append]
  simp only [kidsFrom, List.length_take, Nat.min_eq_left (Nat.le_of_lt h), Nat.zero_add]
  split <;> simp
theorem kidsTo_zero (t : List Nd) (n : Int) : kidsTo t n 0 = [] := by simp [kidsTo, kidsFrom]
theorem kidsTo_all (t : List Nd) (n : Int) {k : Nat} (h : t.length ≤ k) : kidsTo t n k = kidsFrom n 0 t := by rw [kidsTo, List.take_of_length_le h]
theorem kidsFrom_len (n : Int) (xs : List Nd) : ∀ i, (kidsFrom n i xs).length ≤ xs.length := by
  induction xs with
  | nil => intro i; simp [kidsFrom]
  | cons x r ih => intro i; have := ih (i + 1); simp only [kidsFrom]; split <;> simp <;> omega
theorem kidsTo_len (t : List Nd) (n : Int) (k : Nat) : (kidsTo t n k).length ≤ t.length := by
  have := kidsFrom_len n (t.take k) 0
  simp at this
  unfold kidsTo
  omega
theorem kidsL_len (t : List Nd) (n : Int) : (kidsL t n).length ≤ 60 := by
  unfold kidsL
  split
  · rename_i h
    have := (hasB_true.1 h).1.len
    have := kidsFrom_len n t 0
    omega
  · simp
theorem chainL_len (t : List Nd) (n : Int) : (chainL t n).length ≤ 60 := by
  unfold chainL
  split
  · rename_i h
    obtain ⟨o, _, h2⟩ := hasB_true.1 h
    exact chain_len o h2
  · simp
noncomputable def grownL (t : List Nd) (x : Nd) : List Nd := if treeB t then (if treeB (t ++ [x]) then t ++ [x] else t) else []
noncomputable def grownI (t : List Nd) (x : Nd) : Int := if treeB t then (if treeB (t ++ [x]) then (t.length : Int) else -1) else -1
theorem grownL_len (t : List Nd) (x : Nd) : (grownL t x).length ≤ 61 := by
  unfold grownL
  split
  · rename_i h
    have := (treeB_true.1 h).len
    split <;> simp <;> omega
  · simp
end Go.Proofs.Ytlfbmjfbebbdlaa
