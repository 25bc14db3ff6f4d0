/- The program's DueOf, ValueIn and ChainOf, which range over its iterators; no condition beyond that the slice can be read. -/
import Derived.Test.YtgahjachkeoflaaDoorNx
import Derived.Maps.AppendAt
namespace Go.Proofs.YtgahjachkeoflaaDoor
open Go.RowKit Go.Sort Go.Shelf
attribute [local go_sem] Oper.semAt_some

theorem minDue_append (t : List Nd) (xs : List Int) (x : Int) : ∀ d, minDue t d (xs ++ [x]) = minI (minDue t d xs) (ndAt t x).due := by
  induction xs with
  | nil => intro d; rfl
  | cons y r ih => intro d; simp only [List.cons_append, minDue]; exact ih _
theorem minDue_take (t : List Nd) (xs : List Int) (k : Nat) (h : k < xs.length) : minDue t 9223372036854775807 (xs.take (k + 1)) = minI (minDue t 9223372036854775807 (xs.take k)) (ndAt t xs[k]).due := by
  rw [List.take_succ_eq_append_getElem h, minDue_append]

/-- No node of the first k of the line carries that key. -/
def NoVal (t : List Nd) (key : Int) (xs : List Int) (k : Nat) : Prop := ∀ i (h : i < xs.length), i < k → ¬((ndAt t xs[i]).kind = 3 ∧ (ndAt t xs[i]).key = key)
theorem NoVal.succ {t : List Nd} {key : Int} {xs : List Int} {k : Nat} (h : NoVal t key xs k) (hk : k < xs.length) (hn : ¬((ndAt t xs[k]).kind = 3 ∧ (ndAt t xs[k]).key = key)) : NoVal t key xs (k + 1) := fun i hi hl => by
  rcases Nat.lt_or_ge i k with h' | h'
  · exact h i hi h'
  · obtain rfl : i = k := by omega
    exact hn
theorem val_line_none {t : List Nd} (o : TreeP t) (key : Int) : ∀ (m : Nat) (n : Int), n < m → n < t.length → NoVal t key (lineOf t n) (lineOf t n).length → valOf t key n = none := by
  intro m
  induction m with
  | zero => intro n hn _ _; exact val_neg t key (by omega)
  | succ m ih =>
    intro n hn hl hv
    rcases Int.lt_or_le n 0 with h | h
    · exact val_neg t key h
    · obtain ⟨j, rfl⟩ := Int.eq_ofNat_of_zero_le h
      have hj : j < t.length := by omega
      have u := o.up hj
      rw [line_nat o hj] at hv
      have h0 := hv 0 (by simp) (by simp)
      simp only [List.getElem_cons_zero, ndAt_nat t hj] at h0
      rw [val_nat o key hj, if_neg h0]
      refine ih _ (by omega) (by omega) (fun i hi _ => ?_)
      have := hv (i + 1) (by simpa using hi) (by simpa using hi)
      simpa using this
theorem val_line_some {t : List Nd} (o : TreeP t) (key : Int) : ∀ (m : Nat) (n : Int), n < m → n < t.length → ∀ k (h : k < (lineOf t n).length), NoVal t key (lineOf t n) k →
    (ndAt t (lineOf t n)[k]).kind = 3 ∧ (ndAt t (lineOf t n)[k]).key = key → valOf t key n = some (ndAt t (lineOf t n)[k]).value := by
  intro m
  induction m with
  | zero => intro n hn _ k h; rw [line_neg t (by omega)] at h; simp at h
  | succ m ih =>
    intro n hn hl k h hv hk
    rcases Int.lt_or_le n 0 with hneg | hpos
    · rw [line_neg t hneg] at h; simp at h
    · obtain ⟨j, rfl⟩ := Int.eq_ofNat_of_zero_le hpos
      have hj : j < t.length := by omega
      have u := o.up hj
      have e := line_nat o hj
      cases k with
      | zero =>
        have e0 : (lineOf t j)[0] = (j : Int) := by simp [e]
        rw [e0, ndAt_nat t hj] at hk ⊢
        rw [val_nat o key hj, if_pos hk]
      | succ k =>
        have hk' : k < (lineOf t t[j].up).length := by rw [e] at h; simpa using h
        have ek : (lineOf t j)[k + 1] = (lineOf t t[j].up)[k] := by simp [e]
        rw [ek] at hk ⊢
        have h0 := hv 0 (by omega) (by omega)
        have e0 : (lineOf t j)[0] = (j : Int) := by simp [e]
        rw [e0, ndAt_nat t hj] at h0
        rw [val_nat o key hj, if_neg h0]
        refine ih _ (by omega) (by omega) k hk' (fun i hi hik => ?_) hk
        have := hv (i + 1) (by omega) (by omega)
        have ei : (lineOf t j)[i + 1]'(by omega) = (lineOf t t[j].up)[i] := by simp [e]
        rwa [ei] at this
theorem val_none (t : List Nd) (n key : Int) (h : NoVal t key (lineL t n) (lineL t n).length) : valI t n key = 0 ∧ valB t n key = false := by
  have : valO t n key = none := by
    unfold valO
    split
    · rename_i hh
      have e : lineL t n = lineOf t n := by simp [lineL, hh]
      rw [e] at h
      obtain ⟨o, _, h1⟩ := hasB_true.1 hh
      exact val_line_none o key _ n h1 h1 h
    · rfl
  simp [valI, valB, this]
theorem val_some (t : List Nd) (n key : Int) (k : Nat) (hk : k < (lineL t n).length) (h : NoVal t key (lineL t n) k) (hv : (ndAt t (lineL t n)[k]).kind = 3 ∧ (ndAt t (lineL t n)[k]).key = key) :
    valI t n key = (ndAt t (lineL t n)[k]).value ∧ valB t n key = true := by
  cases hh : hasB t n
  · exfalso
    simp [lineL, hh] at hk
  · have e : lineL t n = lineOf t n := by simp [lineL, hh]
    obtain ⟨o, _, h1⟩ := hasB_true.1 hh
    simp only [e] at hk h hv ⊢
    have := val_line_some o key _ n h1 h1 k hk h hv
    have : valO t n key = some (ndAt t (lineOf t n)[k]).value := by unfold valO; rw [hh]; exact this
    simp [valI, valB, this]
theorem lineL_at (t : List Nd) (n : Int) (k : Nat) (h : k < (lineL t n).length) : 0 ≤ (lineL t n)[k] ∧ (lineL t n)[k] < t.length := by
  cases hh : hasB t n
  · exfalso
    simp [lineL, hh] at h
  · have e : lineL t n = lineOf t n := by simp [lineL, hh]
    obtain ⟨o, _, h1⟩ := hasB_true.1 hh
    simp only [e] at h ⊢
    have := line_mem o t.length n h1 h1 _ (List.getElem_mem h)
    omega
end Go.Proofs.YtgahjachkeoflaaDoor
