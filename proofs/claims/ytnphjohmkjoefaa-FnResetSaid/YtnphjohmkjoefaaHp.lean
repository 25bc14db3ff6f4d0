/- Leftist heaps as lists in preorder and as trees: merging keeps validity and all elements, the root is ahead of all; no program is named here. -/
namespace Go.Proofs.Ytnphjohmkjoefaa

/-- An element. -/
structure Tw where
  due : Int
  seq : Int
  lefts : Int
deriving DecidableEq

def aheadB (a b : Tw) : Bool := decide (a.due < b.due) || (decide (a.due = b.due) && decide (a.seq < b.seq))
theorem ahead_iff {a b : Tw} : aheadB a b = true ↔ a.due < b.due ∨ (a.due = b.due ∧ a.seq < b.seq) := by simp [aheadB]
theorem ahead_trans {a b c : Tw} (h : aheadB a b = true) (k : aheadB b c = true) : aheadB a c = true := by rw [ahead_iff] at *; omega
theorem ahead_irrefl (a : Tw) : aheadB a a = false := by cases h : aheadB a a; rfl; rw [ahead_iff] at h; omega
theorem ahead_total {a b : Tw} (h : a.seq ≠ b.seq) : aheadB a b = false → aheadB b a = true := by
  intro k; rw [ahead_iff]
  have : ¬ (a.due < b.due ∨ (a.due = b.due ∧ a.seq < b.seq)) := by rw [← ahead_iff, k]; simp
  omega
theorem ahead_asymm {a b : Tw} (h : aheadB a b = true) : aheadB b a = false := by cases k : aheadB b a; rfl; rw [ahead_iff] at *; omega

inductive HTree where
  | nil : HTree
  | node (due seq : Int) (l r : HTree) : HTree

namespace HTree
def size : HTree → Nat
  | nil => 0
  | node _ _ l r => l.size + r.size + 1
def rank : HTree → Nat
  | nil => 0
  | node _ _ _ r => r.rank + 1
def pre : HTree → List Tw
  | nil => []
  | node d s l r => ⟨d, s, l.size⟩ :: (l.pre ++ r.pre)
theorem pre_len (t : HTree) : t.pre.length = t.size := by
  induction t with
  | nil => rfl
  | node d s l r hl hr => simp [pre, size, hl, hr]
/-- The root is ahead of this tree's root. -/
def under (d s : Int) : HTree → Bool
  | nil => true
  | node d' s' _ _ => aheadB ⟨d, s, 0⟩ ⟨d', s', 0⟩
def ok : HTree → Bool
  | nil => true
  | node d s l r => under d s l && under d s r && decide (r.rank ≤ l.rank) && l.ok && r.ok
end HTree

/-- x is ahead of the first of l, if there is one. -/
def headOk (x : Tw) : List Tw → Bool
  | [] => true
  | y :: _ => aheadB x y

/-- The rank of a heap, -1 where it is none, as the document says it (Seqs are not looked at). -/
def rankL : List Tw → Int
  | [] => 0
  | x :: r =>
    if 0 ≤ x.lefts ∧ x.lefts ≤ r.length then
      if headOk x (r.take x.lefts.toNat) && headOk x (r.drop x.lefts.toNat) then
        if rankL (r.take x.lefts.toNat) < 0 ∨ rankL (r.drop x.lefts.toNat) < 0 ∨ rankL (r.take x.lefts.toNat) < rankL (r.drop x.lefts.toNat) then -1 else rankL (r.drop x.lefts.toNat) + 1
      else -1
    else -1
termination_by l => l.length
decreasing_by all_goals (simp; omega)

theorem rankL_nil : rankL [] = 0 := by rw [rankL]
theorem rankL_cons (x : Tw) (r : List Tw) : rankL (x :: r) =
    if 0 ≤ x.lefts ∧ x.lefts ≤ r.length then
      if headOk x (r.take x.lefts.toNat) && headOk x (r.drop x.lefts.toNat) then
        if rankL (r.take x.lefts.toNat) < 0 ∨ rankL (r.drop x.lefts.toNat) < 0 ∨ rankL (r.take x.lefts.toNat) < rankL (r.drop x.lefts.toNat) then -1 else rankL (r.drop x.lefts.toNat) + 1
      else -1
    else -1 := by rw [rankL]

theorem rankL_ge (h : List Tw) : -1 ≤ rankL h := by
  match h with
  | [] => rw [rankL_nil]; omega
  | x :: r =>
    rw [rankL_cons]
    split
    · split
      · split <;> omega
      · omega
    · omega

theorem headOk_pre (d s z : Int) (t : HTree) : headOk ⟨d, s, z⟩ t.pre = t.under d s := by
  cases t with
  | nil => rfl
  | node d' s' l r => rfl

/-- A valid tree in preorder is a heap with that rank. -/
theorem rankL_pre (t : HTree) (h : t.ok = true) : rankL t.pre = t.rank := by
  induction t with
  | nil => simp [HTree.pre, rankL_nil, HTree.rank]
  | node d s l r hl hr =>
    simp only [HTree.ok, Bool.and_eq_true, decide_eq_true_eq] at h
    obtain ⟨⟨⟨⟨h1, h2⟩, h3⟩, h4⟩, h5⟩ := h
    have hz : (l.size : Int).toNat = l.pre.length := by rw [HTree.pre_len]; simp
    show rankL (⟨d, s, l.size⟩ :: (l.pre ++ r.pre)) = _
    rw [rankL_cons]
    simp only [hz, List.take_left, List.drop_left, headOk_pre, h1, h2, hl h4, hr h5]
    rw [if_pos ⟨by omega, by rw [List.length_append, HTree.pre_len, HTree.pre_len]; omega⟩, if_pos (by rfl), if_neg (by omega)]
    simp [HTree.rank]

/-- A heap is a valid tree in preorder. -/
theorem tree_of_rank (n : Nat) : ∀ h : List Tw, h.length ≤ n → 0 ≤ rankL h → ∃ t : HTree, t.pre = h ∧ t.ok = true := by
  induction n with
  | zero =>
    intro h hn _
    have : h = [] := List.eq_nil_of_length_eq_zero (by omega)
    subst this
    exact ⟨.nil, rfl, rfl⟩
  | succ n ih =>
    intro h hn hr
    match h, hn, hr with
    | [], _, _ => exact ⟨.nil, rfl, rfl⟩
    | x :: r, hn, hr =>
      rw [rankL_cons] at hr
      split at hr
      · rename_i h1
        split at hr
        · rename_i h2
          split at hr
          · omega
          · rename_i h3
            simp only [List.length_cons] at hn
            obtain ⟨tl, hl, ol⟩ := ih (r.take x.lefts.toNat) (by simp; omega) (by omega)
            obtain ⟨tr, hr', or⟩ := ih (r.drop x.lefts.toNat) (by simp; omega) (by omega)
            have rl := rankL_pre tl ol
            have rr := rankL_pre tr or
            rw [hl] at rl
            rw [hr'] at rr
            simp only [Bool.and_eq_true] at h2
            have hsz : (tl.size : Int) = x.lefts := by
              rw [← HTree.pre_len, hl, List.length_take]
              omega
            refine ⟨.node x.due x.seq tl tr, ?_, ?_⟩
            · simp only [HTree.pre, hl, hr', hsz, List.take_append_drop]
            · have u1 := headOk_pre x.due x.seq x.lefts tl
              have u2 := headOk_pre x.due x.seq x.lefts tr
              rw [hl] at u1
              rw [hr'] at u2
              simp only [HTree.ok, Bool.and_eq_true, decide_eq_true_eq]
              exact ⟨⟨⟨⟨u1.symm.trans h2.1, u2.symm.trans h2.2⟩, by omega⟩, ol⟩, or⟩
        · omega
      · omega

theorem pre_inj (t : HTree) : ∀ t' : HTree, t.pre = t'.pre → t = t' := by
  induction t with
  | nil =>
    intro t' h
    cases t' with
    | nil => rfl
    | node => simp [HTree.pre] at h
  | node d s l r hl hr =>
    intro t' h
    cases t' with
    | nil => simp [HTree.pre] at h
    | node d' s' l' r' =>
      simp only [HTree.pre, List.cons.injEq, Tw.mk.injEq] at h
      obtain ⟨⟨rfl, rfl, hz⟩, ha⟩ := h
      have hz' : l.pre.length = l'.pre.length := by rw [HTree.pre_len, HTree.pre_len]; omega
      obtain ⟨e1, e2⟩ := List.append_inj ha hz'
      rw [hl _ e1, hr _ e2]

/-! ### Merging -/
def joinT (d s : Int) (a b : HTree) : HTree := if a.rank < b.rank then .node d s b a else .node d s a b
def mergeT : HTree → HTree → HTree
  | .nil, b => b
  | .node d s l r, .nil => .node d s l r
  | .node d s l r, .node d' s' l' r' =>
    if aheadB ⟨d, s, 0⟩ ⟨d', s', 0⟩ then joinT d s l (mergeT r (.node d' s' l' r')) else joinT d' s' l' (mergeT r' (.node d s l r))
termination_by a b => a.size + b.size
decreasing_by all_goals (simp [HTree.size]; omega)

theorem mergeT_nil_left (b : HTree) : mergeT .nil b = b := by rw [mergeT]
theorem mergeT_nil_right (a : HTree) : mergeT a .nil = a := by cases a <;> rw [mergeT]
theorem mergeT_node (d s d' s' : Int) (l r l' r' : HTree) : mergeT (.node d s l r) (.node d' s' l' r') =
    if aheadB ⟨d, s, 0⟩ ⟨d', s', 0⟩ then joinT d s l (mergeT r (.node d' s' l' r')) else joinT d' s' l' (mergeT r' (.node d s l r)) := by rw [mergeT]

/-- The elements, Lefts 0. -/
def HTree.els : HTree → List Tw
  | .nil => []
  | .node d s l r => ⟨d, s, 0⟩ :: (l.els ++ r.els)
def zero (x : Tw) : Tw := ⟨x.due, x.seq, 0⟩
theorem els_pre (t : HTree) : t.els = t.pre.map zero := by
  induction t with
  | nil => rfl
  | node d s l r hl hr => simp [HTree.els, HTree.pre, hl, hr, zero]
theorem els_len (t : HTree) : t.els.length = t.size := by rw [els_pre, List.length_map, HTree.pre_len]

theorem join_size (d s : Int) (a b : HTree) : (joinT d s a b).size = a.size + b.size + 1 := by
  unfold joinT; split <;> simp [HTree.size]; omega
theorem join_els (d s : Int) (a b : HTree) : (joinT d s a b).els.Perm (⟨d, s, 0⟩ :: (a.els ++ b.els)) := by
  unfold joinT
  split
  · exact List.Perm.cons _ List.perm_append_comm
  · exact List.Perm.refl _
theorem join_ok {d s : Int} {a b : HTree} (ua : a.under d s = true) (ub : b.under d s = true) (oa : a.ok = true) (ob : b.ok = true) : (joinT d s a b).ok = true := by
  unfold joinT
  split
  · simp [HTree.ok, ua, ub, oa, ob]; omega
  · simp [HTree.ok, ua, ub, oa, ob]; omega
theorem join_under {d s d' s' : Int} {a b : HTree} (h : aheadB ⟨d, s, 0⟩ ⟨d', s', 0⟩ = true) : (joinT d' s' a b).under d s = true := by
  unfold joinT; split <;> exact h

/-- The same, over pairs, by induction on the sum of sizes. -/
theorem merge_ind {P : HTree → HTree → Prop} (h1 : ∀ b, P .nil b) (h2 : ∀ d s l r, P (.node d s l r) .nil)
    (h3 : ∀ d s l r d' s' l' r', (aheadB ⟨d, s, 0⟩ ⟨d', s', 0⟩ = true → P r (.node d' s' l' r')) → (aheadB ⟨d, s, 0⟩ ⟨d', s', 0⟩ = false → P r' (.node d s l r)) → P (.node d s l r) (.node d' s' l' r')) (a b : HTree) : P a b := by
  have key : ∀ n, ∀ a b : HTree, a.size + b.size ≤ n → P a b := by
    intro n
    induction n with
    | zero =>
      intro a b hn
      cases a with
      | nil => exact h1 b
      | node => simp [HTree.size] at hn
    | succ n ih =>
      intro a b hn
      cases a with
      | nil => exact h1 b
      | node d s l r =>
        cases b with
        | nil => exact h2 d s l r
        | node d' s' l' r' =>
          simp only [HTree.size] at hn
          exact h3 d s l r d' s' l' r' (fun _ => ih _ _ (by simp only [HTree.size]; omega)) (fun _ => ih _ _ (by simp only [HTree.size]; omega))
  exact key _ a b (Nat.le_refl _)

theorem merge_size (a b : HTree) : (mergeT a b).size = a.size + b.size := by
  refine merge_ind (P := fun a b => (mergeT a b).size = a.size + b.size) ?_ ?_ ?_ a b
  · intro b; simp [mergeT_nil_left, HTree.size]
  · intro d s l r; simp [mergeT_nil_right, HTree.size]
  · intro d s l r d' s' l' r' k1 k2
    rw [mergeT_node]
    split
    · rename_i h
      rw [join_size, k1 h]; simp [HTree.size]; omega
    · rename_i h
      rw [join_size, k2 (by simpa using h)]; simp [HTree.size]; omega
theorem merge_els (a b : HTree) : (mergeT a b).els.Perm (a.els ++ b.els) := by
  refine merge_ind (P := fun a b => (mergeT a b).els.Perm (a.els ++ b.els)) ?_ ?_ ?_ a b
  · intro b; simp [mergeT_nil_left, HTree.els]
  · intro d s l r; simp [mergeT_nil_right, HTree.els]
  · intro d s l r d' s' l' r' k1 k2
    rw [mergeT_node]
    split
    · rename_i h
      refine (join_els _ _ _ _).trans ?_
      simp only [HTree.els, List.cons_append, List.append_assoc]
      refine List.Perm.cons _ (List.Perm.append_left _ ?_)
      simpa [HTree.els] using k1 h
    · rename_i h
      refine (join_els _ _ _ _).trans ?_
      have k := k2 (by simpa using h)
      refine (List.Perm.cons _ (List.Perm.append_left _ k)).trans ?_
      refine List.Perm.trans ?_ (List.perm_append_comm (l₁ := (HTree.node d' s' l' r').els))
      simp [HTree.els]
/-- No Seq in common. -/
def apart (a b : HTree) : Prop := ∀ x ∈ a.els, ∀ y ∈ b.els, x.seq ≠ y.seq
theorem apart.symm {a b : HTree} (h : apart a b) : apart b a := fun x hx y hy e => h y hy x hx e.symm
theorem apart.right {d s : Int} {l r b : HTree} (h : apart (.node d s l r) b) : apart r b := fun x hx y hy => h x (by simp [HTree.els, hx]) y hy
theorem apart.left {d s : Int} {l r b : HTree} (h : apart (.node d s l r) b) : apart l b := fun x hx y hy => h x (by simp [HTree.els, hx]) y hy
theorem apart.root {d s d' s' : Int} {l r l' r' : HTree} (h : apart (.node d s l r) (.node d' s' l' r')) : s ≠ s' := h ⟨d, s, 0⟩ (by simp [HTree.els]) ⟨d', s', 0⟩ (by simp [HTree.els])

theorem merge_under {d s : Int} (a b : HTree) (ha : a.under d s = true) (hb : b.under d s = true) : (mergeT a b).under d s = true := by
  cases a with
  | nil => rwa [mergeT_nil_left]
  | node =>
    cases b with
    | nil => rwa [mergeT_nil_right]
    | node =>
      rw [mergeT_node]
      split
      · exact join_under ha
      · exact join_under hb
theorem ok_node {d s : Int} {l r : HTree} (h : (HTree.node d s l r).ok = true) : l.under d s = true ∧ r.under d s = true ∧ r.rank ≤ l.rank ∧ l.ok = true ∧ r.ok = true := by
  simp only [HTree.ok, Bool.and_eq_true, decide_eq_true_eq] at h
  exact ⟨h.1.1.1.1, h.1.1.1.2, h.1.1.2, h.1.2, h.2⟩
theorem merge_ok (a b : HTree) : a.ok = true → b.ok = true → apart a b → (mergeT a b).ok = true := by
  refine merge_ind (P := fun a b => a.ok = true → b.ok = true → apart a b → (mergeT a b).ok = true) ?_ ?_ ?_ a b
  · intro b _ h _; rwa [mergeT_nil_left]
  · intro d s l r h _ _; rwa [mergeT_nil_right]
  · intro d s l r d' s' l' r' k1 k2 ha hb hp
    obtain ⟨a1, a2, a3, a4, a5⟩ := ok_node ha
    obtain ⟨b1, b2, b3, b4, b5⟩ := ok_node hb
    rw [mergeT_node]
    split
    · rename_i h
      exact join_ok a1 (merge_under _ _ a2 h) a4 (k1 h a5 hb hp.right)
    · rename_i h
      have h' : aheadB ⟨d, s, 0⟩ ⟨d', s', 0⟩ = false := by simpa using h
      exact join_ok b1 (merge_under _ _ b2 (ahead_total (by exact hp.root) h')) b4 (k2 h' b5 ha hp.symm.right)
theorem merge_comm (a b : HTree) : apart a b → mergeT a b = mergeT b a := by
  refine merge_ind (P := fun a b => apart a b → mergeT a b = mergeT b a) ?_ ?_ ?_ a b
  · intro b _; rw [mergeT_nil_left, mergeT_nil_right]
  · intro d s l r _; rw [mergeT_nil_left, mergeT_nil_right]
  · intro d s l r d' s' l' r' k1 k2 hp
    rw [mergeT_node, mergeT_node]
    cases h : aheadB ⟨d, s, 0⟩ ⟨d', s', 0⟩
    · have h' : aheadB ⟨d', s', 0⟩ ⟨d, s, 0⟩ = true := ahead_total (by exact hp.root) h
      rw [if_neg (by simp), if_pos h']
    · have h' := ahead_asymm h
      rw [if_pos rfl, if_neg (by simp [h'])]

/-- The root of a heap is ahead of all its other elements. -/
theorem under_all (t : HTree) : ∀ d s : Int, t.ok = true → t.under d s = true → ∀ x ∈ t.els, aheadB ⟨d, s, 0⟩ x = true := by
  induction t with
  | nil => intro d s _ _ x hx; simp [HTree.els] at hx
  | node d' s' l r hl hr =>
    intro d s ho hu x hx
    obtain ⟨a1, a2, a3, a4, a5⟩ := ok_node ho
    simp only [HTree.els, List.mem_cons, List.mem_append] at hx
    rcases hx with rfl | hx | hx
    · exact hu
    · exact ahead_trans hu (hl d' s' a4 a1 x hx)
    · exact ahead_trans hu (hr d' s' a5 a2 x hx)

/-! ### Without -/
def withoutT : HTree → Int → HTree × Bool
  | .nil, _ => (.nil, false)
  | .node d s l r, q =>
    if s = q then (mergeT l r, true)
    else if (withoutT l q).2 then (joinT d s (withoutT l q).1 r, true)
    else (joinT d s l (withoutT r q).1, (withoutT r q).2)
theorem join_same {d s : Int} {l r : HTree} (h : r.rank ≤ l.rank) : joinT d s l r = .node d s l r := by unfold joinT; rw [if_neg (by omega)]
theorem without_not (t : HTree) (q : Int) (ho : t.ok = true) (h : ∀ x ∈ t.els, x.seq ≠ q) : withoutT t q = (t, false) := by
  induction t with
  | nil => rfl
  | node d s l r hl hr =>
    obtain ⟨a1, a2, a3, a4, a5⟩ := ok_node ho
    have el := hl a4 (fun x hx => h x (by simp [HTree.els, hx]))
    have er := hr a5 (fun x hx => h x (by simp [HTree.els, hx]))
    have hs : s ≠ q := h ⟨d, s, 0⟩ (by simp [HTree.els])
    simp only [withoutT, if_neg hs, el, er, join_same a3]
    rfl
theorem without_found (t : HTree) (q : Int) : (withoutT t q).2 = true ↔ ∃ x ∈ t.els, x.seq = q := by
  induction t with
  | nil => simp [withoutT, HTree.els]
  | node d s l r hl hr =>
    simp only [withoutT, HTree.els, List.mem_cons, List.mem_append]
    by_cases hs : s = q
    · simp [hs]
    · rw [if_neg hs]
      cases e : (withoutT l q).2
      · simp only [Bool.false_eq_true, if_false]
        rw [hr]
        rw [e] at hl
        constructor
        · rintro ⟨x, hx, he⟩; exact ⟨x, .inr (.inr hx), he⟩
        · rintro ⟨x, hx, he⟩
          rcases hx with rfl | hx | hx
          · exact absurd he hs
          · exact absurd (hl.2 ⟨x, hx, he⟩) (by simp)
          · exact ⟨x, hx, he⟩
      · simp only [if_true, true_iff]
        obtain ⟨x, hx, he⟩ := hl.1 e
        exact ⟨x, .inr (.inl hx), he⟩

/-- All Seqs are different. -/
def uniq (t : HTree) : Prop := (t.els.map Tw.seq).Nodup
theorem uniq_node {d s : Int} {l r : HTree} (h : uniq (.node d s l r)) : uniq l ∧ uniq r ∧ apart l r ∧ (∀ x ∈ l.els, x.seq ≠ s) ∧ (∀ x ∈ r.els, x.seq ≠ s) := by
  unfold uniq at h ⊢
  simp only [HTree.els, List.map_cons, List.map_append, List.nodup_cons, List.nodup_append, List.mem_append, List.mem_map] at h
  obtain ⟨h1, h2, h3, h4⟩ := h
  refine ⟨h2, h3, fun x hx y hy e => h4 _ ⟨x, hx, rfl⟩ _ ⟨y, hy, rfl⟩ e, fun x hx e => h1 (.inl ⟨x, hx, e⟩), fun x hx e => h1 (.inr ⟨x, hx, e⟩)⟩
theorem uniq_perm {t t' : HTree} (h : t.els.Perm t'.els) (hu : uniq t') : uniq t := (List.Perm.nodup_iff (h.map Tw.seq)).2 hu
theorem uniq_merge {a b : HTree} (ha : uniq a) (hb : uniq b) (hp : apart a b) : uniq (mergeT a b) := by
  have h := (merge_els a b).map Tw.seq
  unfold uniq
  rw [List.Perm.nodup_iff h, List.map_append, List.nodup_append]
  refine ⟨ha, hb, ?_⟩
  intro x hx y hy e
  simp only [List.mem_map] at hx hy
  obtain ⟨p, hp1, rfl⟩ := hx
  obtain ⟨q, hq1, rfl⟩ := hy
  exact hp p hp1 q hq1 e

theorem under_trans {d s d' s' : Int} {t : HTree} (h : aheadB ⟨d, s, 0⟩ ⟨d', s', 0⟩ = true) (hu : t.under d' s' = true) : t.under d s = true := by
  cases t with
  | nil => rfl
  | node => exact ahead_trans h hu
theorem without_under {d s : Int} (t : HTree) (q : Int) (ho : t.ok = true) (hu : t.under d s = true) : (withoutT t q).1.under d s = true := by
  cases t with
  | nil => rfl
  | node d' s' l r =>
    obtain ⟨a1, a2, a3, a4, a5⟩ := ok_node ho
    simp only [withoutT]
    split
    · exact merge_under _ _ (under_trans hu a1) (under_trans hu a2)
    · split <;> exact join_under hu
theorem without_ok (t : HTree) (q : Int) : t.ok = true → uniq t → (withoutT t q).1.ok = true := by
  induction t with
  | nil => intro _ _; rfl
  | node d s l r hl hr =>
    intro ho hu
    obtain ⟨a1, a2, a3, a4, a5⟩ := ok_node ho
    obtain ⟨u1, u2, u3, _, _⟩ := uniq_node hu
    simp only [withoutT]
    split
    · exact merge_ok _ _ a4 a5 u3
    · split
      · exact join_ok (without_under _ _ a4 a1) a2 (hl a4 u1) a5
      · exact join_ok a1 (without_under _ _ a5 a2) a4 (hr a5 u2)
theorem without_els (t : HTree) (q : Int) : t.ok = true → uniq t → (withoutT t q).1.els.Perm (t.els.filter fun x => decide (x.seq ≠ q)) := by
  induction t with
  | nil => intro _ _; simp [withoutT, HTree.els]
  | node d s l r hl hr =>
    intro ho hu
    obtain ⟨a1, a2, a3, a4, a5⟩ := ok_node ho
    obtain ⟨u1, u2, u3, u4, u5⟩ := uniq_node hu
    simp only [withoutT]
    by_cases hs : s = q
    · subst hs
      rw [if_pos rfl]
      refine (merge_els _ _).trans ?_
      have e1 : l.els.filter (fun x => decide (x.seq ≠ s)) = l.els := List.filter_eq_self.2 (fun x hx => by simpa using u4 x hx)
      have e2 : r.els.filter (fun x => decide (x.seq ≠ s)) = r.els := List.filter_eq_self.2 (fun x hx => by simpa using u5 x hx)
      simp only [HTree.els, List.filter_cons, List.filter_append, e1, e2]
      simp
    · rw [if_neg hs]
      cases e : (withoutT l q).2
      · have hnl : ∀ x ∈ l.els, x.seq ≠ q := fun x hx he => by
          have := (without_found l q).2 ⟨x, hx, he⟩
          rw [e] at this; cases this
        have e1 : l.els.filter (fun x => decide (x.seq ≠ q)) = l.els := List.filter_eq_self.2 (fun x hx => by simpa using hnl x hx)
        simp only [Bool.false_eq_true, if_false]
        refine (join_els _ _ _ _).trans ?_
        simp only [HTree.els, List.filter_cons, List.filter_append, e1]
        simp only [hs, ne_eq, not_false_eq_true, decide_true, if_true]
        exact List.Perm.cons _ (List.Perm.append_left _ (hr a5 u2))
      · have hnr : ∀ x ∈ r.els, x.seq ≠ q := fun x hx he => by
          obtain ⟨y, hy, hye⟩ := (without_found l q).1 e
          exact u3 y hy x hx (hye.trans he.symm)
        have e1 : r.els.filter (fun x => decide (x.seq ≠ q)) = r.els := List.filter_eq_self.2 (fun x hx => by simpa using hnr x hx)
        simp only [if_true]
        refine (join_els _ _ _ _).trans ?_
        simp only [HTree.els, List.filter_cons, List.filter_append, e1]
        simp only [hs, ne_eq, not_false_eq_true, decide_true, if_true]
        exact List.Perm.cons _ (List.Perm.append_right _ (hl a4 u1))
theorem without_size (t : HTree) (q : Int) (ho : t.ok = true) (hu : uniq t) (h : (withoutT t q).2 = true) : (withoutT t q).1.size + 1 = t.size := by
  have hl := (without_els t q ho hu).length_eq
  rw [els_len] at hl
  obtain ⟨x, hx, he⟩ := (without_found t q).1 h
  obtain ⟨l1, l2, e⟩ := List.append_of_mem hx
  have hn : ∀ y ∈ l1 ++ l2, y.seq ≠ q := by
    intro y hy hye
    unfold uniq at hu
    rw [e] at hu
    simp only [List.map_append, List.map_cons, List.nodup_append, List.nodup_cons, List.mem_cons, List.mem_map] at hu
    rcases List.mem_append.1 hy with hy | hy
    · exact hu.2.2 _ ⟨y, hy, rfl⟩ _ (.inl rfl) (hye.trans he.symm)
    · exact hu.2.1.1 ⟨y, hy, hye.trans he.symm⟩
  rw [hl, ← els_len t, e]
  have e1 : l1.filter (fun x => decide (x.seq ≠ q)) = l1 := List.filter_eq_self.2 (fun y hy => by simpa using hn y (List.mem_append_left _ hy))
  have e2 : l2.filter (fun x => decide (x.seq ≠ q)) = l2 := List.filter_eq_self.2 (fun y hy => by simpa using hn y (List.mem_append_right _ hy))
  rw [List.filter_append, List.filter_cons, e1, e2, if_neg (by simp [he])]
  simp; omega

/-! ### Sorted -/
def sortT : HTree → List Tw
  | .nil => []
  | .node d s l r => ⟨d, s, 0⟩ :: sortT (mergeT l r)
termination_by t => t.size
decreasing_by (simp [HTree.size, merge_size])
theorem sortT_nil : sortT .nil = [] := by rw [sortT]
theorem sortT_node (d s : Int) (l r : HTree) : sortT (.node d s l r) = ⟨d, s, 0⟩ :: sortT (mergeT l r) := by rw [sortT]
theorem size_ind {P : HTree → Prop} (h1 : P .nil) (h2 : ∀ d s l r, P (mergeT l r) → P (.node d s l r)) (t : HTree) : P t := by
  have key : ∀ n, ∀ t : HTree, t.size ≤ n → P t := by
    intro n
    induction n with
    | zero =>
      intro t hn
      cases t with
      | nil => exact h1
      | node => simp [HTree.size] at hn
    | succ n ih =>
      intro t hn
      cases t with
      | nil => exact h1
      | node d s l r => exact h2 d s l r (ih _ (by rw [merge_size]; simp only [HTree.size] at hn; omega))
  exact key _ t (Nat.le_refl _)
theorem sortT_els (t : HTree) : (sortT t).Perm t.els := by
  refine size_ind (P := fun t => (sortT t).Perm t.els) ?_ ?_ t
  · rw [sortT_nil]; exact List.Perm.refl _
  · intro d s l r h
    rw [sortT_node]
    exact List.Perm.cons _ (h.trans (merge_els l r))
theorem sortT_len (t : HTree) : (sortT t).length = t.size := by rw [(sortT_els t).length_eq, els_len]
def Sorts (l : List Tw) : Prop := l.Pairwise fun a b => aheadB a b = true
theorem sortT_sorts (t : HTree) : t.ok = true → uniq t → Sorts (sortT t) := by
  refine size_ind (P := fun t => t.ok = true → uniq t → Sorts (sortT t)) ?_ ?_ t
  · intro _ _; rw [sortT_nil]; exact List.Pairwise.nil
  · intro d s l r h ho hu
    obtain ⟨a1, a2, a3, a4, a5⟩ := ok_node ho
    obtain ⟨u1, u2, u3, _, _⟩ := uniq_node hu
    rw [sortT_node]
    refine List.Pairwise.cons ?_ (h (merge_ok _ _ a4 a5 u3) (uniq_merge u1 u2 u3))
    intro x hx
    have hx' := (merge_els l r).subset ((sortT_els _).subset hx)
    rcases List.mem_append.1 hx' with hx' | hx'
    · exact under_all l d s a4 a1 x hx'
    · exact under_all r d s a5 a2 x hx'
/-- Two lists with the same elements, each with those ahead first, are one. -/
theorem sorts_eq : ∀ l l' : List Tw, Sorts l → Sorts l' → l.Perm l' → l = l'
  | [], l', _, _, hp => (List.nil_perm.1 hp).symm
  | a :: t, [], _, _, hp => absurd hp.length_eq (by simp)
  | a :: t, b :: t', h, h', hp => by
    have e : a = b := by
      have ha : a ∈ b :: t' := hp.subset (List.mem_cons_self ..)
      have hb : b ∈ a :: t := hp.symm.subset (List.mem_cons_self ..)
      rcases List.mem_cons.1 ha with e | ha
      · exact e
      rcases List.mem_cons.1 hb with e | hb
      · exact e.symm
      have k1 := (List.pairwise_cons.1 h).1 b hb
      have k2 := (List.pairwise_cons.1 h').1 a ha
      rw [ahead_asymm k1] at k2; cases k2
    subst e
    rw [sorts_eq t t' (List.pairwise_cons.1 h).2 (List.pairwise_cons.1 h').2 ((List.perm_cons a).1 hp)]
theorem sorts_filter {l : List Tw} (h : Sorts l) (p : Tw → Bool) : Sorts (l.filter p) := List.Pairwise.filter p h
/-- A heap of rank r has at least 2^r - 1 elements. -/
theorem rank_size (t : HTree) : t.ok = true → 2 ^ t.rank ≤ t.size + 1 := by
  induction t with
  | nil => intro _; simp [HTree.rank, HTree.size]
  | node d s l r hl hr =>
    intro ho
    obtain ⟨a1, a2, a3, a4, a5⟩ := ok_node ho
    have h1 := hl a4
    have h2 := hr a5
    have h3 : 2 ^ r.rank ≤ 2 ^ l.rank := Nat.pow_le_pow_right (by omega) a3
    simp only [HTree.rank, HTree.size, Nat.pow_succ]
    omega
end Go.Proofs.Ytnphjohmkjoefaa
