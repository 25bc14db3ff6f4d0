/- Values in a tree that has grown, on paper; no program is named here. -/
import Derived.Test.YtakhegamlammcaaNt
namespace Go.Proofs.Ytakhegamlammcaa
open Go.RowKit

theorem TreeP.snoc {t : List Nd} (o : TreeP t) {x : Nd} (hl : t.length + 1 ≤ 60) (h1 : nodeB x = true) (h2 : hangB x t.length = true) : TreeP (t ++ [x]) := by
  refine ⟨by simpa using hl, fun i hi => ?_, fun i hi => ?_⟩
  · rcases Nat.lt_or_ge i t.length with h | h
    · rw [List.getElem_append_left h]; exact o.node i h
    · rw [List.getElem_append_right h]; simpa using h1
  · rcases Nat.lt_or_ge i t.length with h | h
    · rw [List.getElem_append_left h]; exact o.hang i h
    · obtain rfl : i = t.length := by simp at hi; omega
      rw [List.getElem_append_right (Nat.le_refl _)]; simpa using h2
theorem grown_snoc {t : List Nd} (o : TreeP t) {x : Nd} (hl : t.length + 1 ≤ 60) (h1 : nodeB x = true) (h2 : hangB x t.length = true) : grownL t x = t ++ [x] ∧ grownI t x = t.length := by
  have a := treeB_true.2 o
  have b := treeB_true.2 (o.snoc hl h1 h2)
  exact ⟨by simp [grownL, a, b], by simp [grownI, a, b]⟩
/-- What lies behind a tree does not count for its nodes. -/
theorem val_append {t ys : List Nd} (o : TreeP t) (o' : TreeP (t ++ ys)) (key : Int) : ∀ (m : Nat) (n : Int), n < m → n < t.length → valOf (t ++ ys) key n = valOf t key n := by
  intro m
  induction m with
  | zero => intro n hn _; rw [val_neg _ _ (by omega), val_neg _ _ (by omega)]
  | succ m ih =>
    intro n hn hl
    rcases Int.lt_or_le n 0 with h | h
    · rw [val_neg _ _ h, val_neg _ _ h]
    · obtain ⟨j, rfl⟩ := Int.eq_ofNat_of_zero_le h
      have hj : j < t.length := by omega
      have u := o.up hj
      rw [val_nat o' key (by simp; omega), val_nat o key hj, List.getElem_append_left hj, ih t[j].up (by omega) (by omega)]
section
variable {t : List Nd} (o : TreeP t) (hl : t.length ≤ 57) {up key : Int} (h0 : 0 ≤ up) (h1 : up < t.length) (k0 : 1 ≤ key) (k1 : key ≤ 4)
abbrev nA (up key : Int) : Nd := ⟨3, up, 9223372036854775807, key, 77⟩
abbrev nB (i : Int) : Nd := ⟨4, i, 9223372036854775807, 0, 0⟩
abbrev nC (j key : Int) : Nd := ⟨3, j, 9223372036854775807, key, 5⟩
include o hl h0 h1 k0 k1
theorem grownA : grownL t (nA up key) = t ++ [nA up key] ∧ grownI t (nA up key) = t.length ∧ TreeP (t ++ [nA up key]) := by
  have a : nodeB (nA up key) = true := by simp [nodeB]; omega
  have b : hangB (nA up key) t.length = true := by simp [hangB]; omega
  exact ⟨(grown_snoc o (by omega) a b).1, (grown_snoc o (by omega) a b).2, o.snoc (by omega) a b⟩
theorem grownB : grownL (t ++ [nA up key]) (nB t.length) = t ++ [nA up key] ++ [nB t.length] ∧ grownI (t ++ [nA up key]) (nB t.length) = t.length + 1 ∧ TreeP (t ++ [nA up key] ++ [nB t.length]) := by
  obtain ⟨_, _, oa⟩ := grownA o hl h0 h1 k0 k1
  have a : nodeB (nB t.length) = true := by simp [nodeB]
  have b : hangB (nB t.length) (t ++ [nA up key]).length = true := by simp [hangB]
  refine ⟨(grown_snoc oa (by simp; omega) a b).1, ?_, oa.snoc (by simp; omega) a b⟩
  rw [(grown_snoc oa (by simp; omega) a b).2]; simp
theorem grownC : grownL (t ++ [nA up key] ++ [nB t.length]) (nC (t.length + 1) (key + 1)) = t ++ [nA up key] ++ [nB t.length] ++ [nC (t.length + 1) (key + 1)] ∧ grownI (t ++ [nA up key] ++ [nB t.length]) (nC (t.length + 1) (key + 1)) = t.length + 2 ∧ TreeP (t ++ [nA up key] ++ [nB t.length] ++ [nC (t.length + 1) (key + 1)]) := by
  obtain ⟨_, _, ob⟩ := grownB o hl h0 h1 k0 k1
  have a : nodeB (nC (t.length + 1) (key + 1)) = true := by simp [nodeB]; omega
  have b : hangB (nC (t.length + 1) (key + 1)) (t ++ [nA up key] ++ [nB t.length]).length = true := by simp [hangB]; omega
  refine ⟨(grown_snoc ob (by simp; omega) a b).1, ?_, ob.snoc (by simp; omega) a b⟩
  rw [(grown_snoc ob (by simp; omega) a b).2]; simp
theorem valsC : let c := t ++ [nA up key] ++ [nB t.length] ++ [nC (t.length + 1) (key + 1)]
    valI c (t.length + 2) key = 77 ∧ valB c (t.length + 2) key = true ∧ valI c (t.length + 2) (key + 1) = 5 ∧ valB c (t.length + 2) (key + 1) = true ∧ valI c up key = valI t up key ∧ valB c up key = valB t up key ∧ treeB c = true := by
  intro c
  have hcd : c = t ++ [nA up key] ++ [nB t.length] ++ [nC (t.length + 1) (key + 1)] := rfl
  obtain ⟨_, _, oc⟩ := grownC o hl h0 h1 k0 k1
  rw [← hcd] at oc
  have cl : c.length = t.length + 3 := by rw [hcd]; simp
  have e2 : c[t.length + 2]'(by omega) = nC (t.length + 1) (key + 1) := by simp [hcd]
  have e1 : c[t.length + 1]'(by omega) = nB t.length := by simp [hcd]
  have e0 : c[t.length]'(by omega) = nA up key := by simp [hcd]
  have H : ∀ n : Int, 0 ≤ n → n < t.length + 3 → ∀ q, valO c n q = valOf c q n := fun n a b q => by
    have : hasB c n = true := hasB_true.2 ⟨oc, a, by rw [cl]; omega⟩
    simp [valO, this]
  have v1 : valOf c key ((t.length + 2 : Nat) : Int) = some 77 := by
    rw [val_nat oc key (by omega), e2, if_neg (by simp; omega)]
    have : (nC (t.length + 1) (key + 1)).up = ((t.length + 1 : Nat) : Int) := by simp
    rw [this, val_nat oc key (by omega), e1, if_neg (by simp)]
    show valOf c key ((t.length : Nat) : Int) = _
    rw [val_nat oc key (by omega), e0, if_pos (by simp)]
  have v2 : valOf c (key + 1) ((t.length + 2 : Nat) : Int) = some 5 := by
    rw [val_nat oc (key + 1) (by omega), e2, if_pos (by simp)]
  have v3 : valOf c key up = valOf t key up := by
    have : c = t ++ ([nA up key] ++ [nB t.length] ++ [nC (t.length + 1) (key + 1)]) := by rw [hcd]; simp
    rw [this]
    exact val_append o (by rw [← this]; exact oc) key t.length up (by omega) h1
  have hh : hasB t up = true := hasB_true.2 ⟨o, h0, h1⟩
  have w1 : valO c (t.length + 2) key = some 77 := by rw [H _ (by omega) (by omega)]; exact v1
  have w2 : valO c (t.length + 2) (key + 1) = some 5 := by rw [H _ (by omega) (by omega)]; exact v2
  have w3 : valO c up key = valO t up key := by rw [H _ (by omega) (by omega), v3]; simp [valO, hh]
  exact ⟨by simp [valI, w1], by simp [valB, w1], by simp [valI, w2], by simp [valB, w2], by simp [valI, w3], by simp [valB, w3], treeB_true.2 oc⟩
end
end Go.Proofs.Ytakhegamlammcaa
