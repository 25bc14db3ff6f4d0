/- The chain of a node on paper, its children, and the law's test whether a number lies in a slice; no condition beyond what each theorem states. -/
import Derived.Test.YtakhegamlammcaaNv
namespace Go.Proofs.Ytakhegamlammcaa
open Go.RowKit Go.Sort

/-- What the law asks of place i of the chain l. -/
structure LinkAt (t : List Nd) (l : List Int) (i : Nat) (h : i < l.length) : Prop where
  lo : 0 ≤ l[i]
  hi : l[i] < t.length
  last : ((ndAt t l[i]).kind = 0 ∨ (ndAt t l[i]).kind = 4) ↔ i + 1 = l.length
  next : ∀ h' : i + 1 < l.length, l[i + 1] = (ndAt t l[i]).up
theorem chain_pos {t : List Nd} (o : TreeP t) {n : Int} (h0 : 0 ≤ n) (h1 : n < t.length) : ∃ r, chainOf t n = n :: r := by
  obtain ⟨k, rfl⟩ := Int.eq_ofNat_of_zero_le h0
  exact ⟨_, chain_nat o (by omega)⟩
theorem chain_links {t : List Nd} (o : TreeP t) : ∀ (m : Nat) (n : Int), n < m → 0 ≤ n → n < t.length → ∀ i (h : i < (chainOf t n).length), LinkAt t (chainOf t n) i h := by
  intro m
  induction m with
  | zero => intro n hn h0; omega
  | succ m ih =>
    intro n hn h0 hl i h
    obtain ⟨k, rfl⟩ := Int.eq_ofNat_of_zero_le h0
    have hk : k < t.length := by omega
    have u := o.up hk
    have e := chain_nat o hk
    by_cases hend : t[k].kind = 0 ∨ t[k].kind = 4
    · rw [if_pos hend] at e
      obtain rfl : i = 0 := by rw [e] at h; simp at h; exact h
      have e0 : (chainOf t k)[0] = (k : Int) := by simp [e]
      have el : (chainOf t k).length = 1 := by simp [e]
      exact ⟨by rw [e0]; omega, by rw [e0]; omega, by rw [e0, ndAt_nat t hk, el]; simpa using hend, fun h' => by omega⟩
    · rw [if_neg hend] at e
      have hup : 0 ≤ t[k].up := by
        have : t[k].up ≠ -1 := fun h' => hend (.inl (u.2.2.2 h'))
        omega
      obtain ⟨r, hr⟩ := chain_pos o hup (by omega)
      have el : (chainOf t k).length = (chainOf t t[k].up).length + 1 := by simp [e]
      have lp : 0 < (chainOf t t[k].up).length := by rw [hr]; simp
      have es : ∀ j (hj : j < (chainOf t t[k].up).length), (chainOf t k)[j + 1]'(by omega) = (chainOf t t[k].up)[j] := fun j hj => by simp [e]
      cases i with
      | zero =>
        have e0 : (chainOf t k)[0] = (k : Int) := by simp [e]
        refine ⟨by rw [e0]; omega, by rw [e0]; omega, ?_, fun h' => ?_⟩
        · rw [e0, ndAt_nat t hk]
          exact ⟨fun h' => absurd h' hend, fun h' => by omega⟩
        · rw [es 0 lp, e0, ndAt_nat t hk]
          simp [hr]
      | succ i =>
        have hi : i < (chainOf t t[k].up).length := by omega
        have L := ih t[k].up (by omega) hup (by omega) i hi
        have ei := es i hi
        refine ⟨by rw [ei]; exact L.lo, by rw [ei]; exact L.hi, ?_, fun h' => ?_⟩
        · rw [ei, L.last]; omega
        · rw [es (i + 1) (by omega), ei]; exact L.next (by omega)
theorem mem_kidsFrom (n : Int) (xs : List Nd) : ∀ (i j : Nat) (h : j < xs.length), xs[j].up = n → ((i + j : Nat) : Int) ∈ kidsFrom n i xs := by
  induction xs with
  | nil => intro i j h; simp at h
  | cons x r ih =>
    intro i j h hu
    cases j with
    | zero =>
      have : x.up = n := hu
      simp [kidsFrom, this]
    | succ j =>
      have := ih (i + 1) j (by simpa using h) (by simpa using hu)
      rw [show i + 1 + j = i + (j + 1) from by omega] at this
      simp only [kidsFrom]
      split
      · exact List.mem_cons_of_mem _ this
      · exact this
theorem mem_kids {t : List Nd} (o : TreeP t) {j : Nat} (h : j < t.length) (hu : 0 ≤ t[j].up) : (j : Int) ∈ kidsL t t[j].up := by
  have u := o.up h
  have hh : hasB t t[j].up = true := hasB_true.2 ⟨o, hu, by omega⟩
  have := mem_kidsFrom t[j].up t 0 j h rfl
  simpa [kidsL, hh] using this

set_option maxHeartbeats 800000 in
theorem has_true (xs : List Int) (x : Int) (v : Value) (w : World) (h : RdI w w.heap.size v xs) (hx : x ∈ xs) :
    Calls Try.prog 16 #[v, .int .i64 x] w fun e w' => e = .returned (.bool true) ∧ Kept 0 0 w w' := by
  obtain ⟨A, c, rfl, h⟩ := h
  have hl := h.rd.1
  unfold maxLen at hl
  have H := Lib.hid h.rd
  have HX : Hid (∃ i, ∃ h : i < xs.length, xs[i] = x) := List.getElem_of_mem hx
  clear h hx
  go_enter Try.func16, Try.ntmps16
  go_wp2
  go_loopw [5] (fun i wr => ∃ k : Nat, k ≤ xs.length ∧ i = .int .i64 k ∧ Hid (∀ i (h : i < xs.length), i < k → xs[i] ≠ x) ∧ Hid (Kept 0 0 w wr)) (fun i _ => xs.length - (intOf i).toNat)
  case atStart => exact ⟨0, Nat.zero_le _, rfl, Lib.hid (fun i _ h => by omega), Lib.hid (Kept.refl _ _ _)⟩
  case round =>
    obtain ⟨k, hk, rfl, HN, HK⟩ := hrel
    by_cases hlt : k < xs.length
    · obtain ⟨ad, rfl, _, c0⟩ := (H.out.kept (Nat.le_refl _) HK.out (.inl (Nat.le_refl _))).i hlt
      have i1 : (k : Int) < (xs.length : Int) := by omega
      by_cases he : xs[k] = x
      · rw [he] at c0
        clear he
        go_wp2
        go_ret
        exact ⟨rfl, HK.out⟩
      · have he' : (xs[k] == x) = false := by simpa using he
        have HN2 : Hid (∀ i (h : i < xs.length), i < k + 1 → xs[i] ≠ x) := fun i hi hik => by
          rcases Nat.lt_or_ge i k with h' | h'
          · exact HN.out i hi h'
          · obtain rfl : i = k := by omega
            exact he
        clear he
        go_wp2
        go_roundw
        case rel => exact ⟨k + 1, by omega, by go_num, HN2, HK⟩
        case measure => simp [intOf]; omega
    · exfalso
      obtain ⟨i, hi, e⟩ := HX.out
      exact HN.out i hi (by omega) e
end Go.Proofs.Ytakhegamlammcaa
