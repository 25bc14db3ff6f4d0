/- Sorted lists: what a merged heap returns in order is the two sorted lists, taken from one after the other; the size of a heap of some rank. No program is named here. -/
import Derived.Test.YtggggdloppnopaaSu
namespace Go.Proofs.Ytggggdloppnopaa

/-- What is left of three sorted lists: l is x and y together. -/
structure Both (l x y : List Tw) : Prop where
  perm : l.Perm (x ++ y)
  sl : Sorts l
  sx : Sorts x
  sy : Sorts y
theorem Both.left {a : Tw} {l x y : List Tw} (h : Both (a :: l) (a :: x) y) : Both l x y :=
  ⟨(List.perm_cons a).1 h.perm, (List.pairwise_cons.1 h.sl).2, (List.pairwise_cons.1 h.sx).2, h.sy⟩
theorem Both.right {a : Tw} {l x y : List Tw} (h : Both (a :: l) x (a :: y)) : Both l x y :=
  ⟨(List.perm_cons a).1 (h.perm.trans List.perm_middle), (List.pairwise_cons.1 h.sl).2, h.sx, (List.pairwise_cons.1 h.sy).2⟩
theorem sorts_first {a b : Tw} {l x : List Tw} (hl : Sorts (a :: l)) (hx : Sorts (b :: x)) (ha : a ∈ b :: x) (hb : b ∈ a :: l) : a = b := by
  rcases List.mem_cons.1 ha with e | ha
  · exact e
  rcases List.mem_cons.1 hb with e | hb
  · exact e.symm
  have k1 := (List.pairwise_cons.1 hl).1 b hb
  have k2 := (List.pairwise_cons.1 hx).1 a ha
  rw [ahead_asymm k1] at k2; cases k2
/-- The first of all is the first of the one or of the other. -/
theorem Both.next {a : Tw} {l x y : List Tw} (h : Both (a :: l) x y) : (∃ x', x = a :: x') ∨ ∃ y', y = a :: y' := by
  have hm : a ∈ x ++ y := h.perm.subset (List.mem_cons_self ..)
  rcases List.mem_append.1 hm with hm | hm
  · cases x with
    | nil => cases hm
    | cons b x =>
      have := sorts_first h.sl h.sx hm (h.perm.symm.subset (by simp))
      exact .inl ⟨x, by rw [this]⟩
  · cases y with
    | nil => cases hm
    | cons b y =>
      have := sorts_first h.sl h.sy hm (h.perm.symm.subset (by simp))
      exact .inr ⟨y, by rw [this]⟩
theorem Both.end_ {x y : List Tw} (h : Both [] x y) : x = [] ∧ y = [] := by
  have := h.perm.length_eq
  simp at this
  exact ⟨List.eq_nil_of_length_eq_zero (by omega), List.eq_nil_of_length_eq_zero (by omega)⟩
theorem both_start {a b : HTree} (ha : a.ok = true) (hb : b.ok = true) (ua : uniq a) (ub : uniq b) (hp : apart a b) : Both (sortT (mergeT a b)) (sortT a) (sortT b) :=
  ⟨((sortT_els _).trans (merge_els a b)).trans ((sortT_els a).append (sortT_els b)).symm, sortT_sorts _ (merge_ok _ _ ha hb hp) (uniq_merge ua ub hp), sortT_sorts _ ha ua, sortT_sorts _ hb ub⟩

/-- What is known of the union of two heaps. -/
structure MergeSays (a b : List Tw) : Prop where
  ok : heapOkB (mergedL a b) = true
  len : (mergedL a b).length = a.length + b.length
  rk : rankOfL (mergedL a b) = ((mergeT (treeOf a) (treeOf b)).rank : Int)
  pow : 2 ^ (mergeT (treeOf a) (treeOf b)).rank ≤ a.length + b.length + 1
  both : Both (sortedL (mergedL a b)) (sortedL a) (sortedL b)
theorem merge_says {a b : List Tw} (h : mergedOk a b = true) : MergeSays a b := by
  obtain ⟨oa, ob, hl, ht⟩ := mergedOk_iff.1 h
  obtain ⟨a1, a2, a3⟩ := heapOk_iff.1 oa
  obtain ⟨b1, b2, b3⟩ := heapOk_iff.1 ob
  have pa := treeOf_pre a3
  have pb := treeOf_pre b3
  have ka := treeOf_ok a3
  have kb := treeOf_ok b3
  have ua : uniq (treeOf a) := uniq_pre (by rw [pa]; exact a2)
  have ub : uniq (treeOf b) := uniq_pre (by rw [pb]; exact b2)
  have hp : apart (treeOf a) (treeOf b) := apart_pre (by rw [pa, pb]; exact ht)
  have km := merge_ok _ _ ka kb hp
  have um := uniq_merge ua ub hp
  have em : mergedL a b = (mergeT (treeOf a) (treeOf b)).pre := by rw [mergedL, if_pos h]
  have sz : (mergeT (treeOf a) (treeOf b)).size = a.length + b.length := by
    rw [merge_size, ← HTree.pre_len, ← HTree.pre_len, pa, pb]
  have rm : rankL (mergeT (treeOf a) (treeOf b)).pre = ((mergeT (treeOf a) (treeOf b)).rank : Int) := rankL_pre _ km
  have om : heapOkB (mergeT (treeOf a) (treeOf b)).pre = true := by
    refine heapOk_iff.2 ⟨by rw [HTree.pre_len, sz]; exact hl, ?_, by rw [rm]; omega⟩
    have : ((mergeT (treeOf a) (treeOf b)).pre.map Tw.seq).Nodup := by rw [← seqs_pre]; exact um
    simp [twiceB, this]
  refine ⟨by rw [em]; exact om, by rw [em, HTree.pre_len, sz], by rw [em, rankOfL, if_pos om, rm], ?_, ?_⟩
  · have := rank_size _ km
    omega
  · rw [em, sortedL, sortedL, sortedL, if_pos om, if_pos oa, if_pos ob, treeOf_of _ km]
    exact both_start ka kb ua ub hp
end Go.Proofs.Ytggggdloppnopaa
