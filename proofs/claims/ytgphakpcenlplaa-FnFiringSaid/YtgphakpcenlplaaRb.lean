/- On paper: what the law of resetting asks of the plain functions of timers; no function of the program is named here. -/
import Derived.Test.YtgphakpcenlplaaRa
namespace Go.Proofs.Ytgphakpcenlplaa
open Go.RowKit Go.Sort

/-- No element is due ahead of the root. -/
theorem root_min {h : List Tw} {x : Tw} {r : List Tw} (ho : heapOkB h = true) (hx : h = x :: r) {y : Tw} (hy : y ∈ h) : x.due ≤ y.due := by
  obtain ⟨h1, h2, h3⟩ := heapOk_iff.1 ho
  have hp := treeOf_pre h3
  have hok := treeOf_ok h3
  cases ht : treeOf h with
  | nil => rw [ht, hx] at hp; cases hp
  | node d s l r' =>
    have hd : (⟨d, s, l.size⟩ : Tw) = x := by
      rw [ht, hx] at hp
      simp only [HTree.pre] at hp
      injection hp
    rw [ht] at hok hp
    obtain ⟨a1, a2, _, a4, a5⟩ := ok_node hok
    have hz : zero y ∈ (HTree.node d s l r').els := by rw [els_pre, hp]; exact List.mem_map.2 ⟨y, hy, rfl⟩
    have hdx : d = x.due := by rw [← hd]
    simp only [HTree.els, List.mem_cons, List.mem_append] at hz
    rcases hz with e | hz | hz
    · unfold zero at e
      injection e with e1 _ _
      omega
    · have := ahead_iff.1 (under_all l d s a4 a1 _ hz)
      simp only [zero] at this
      omega
    · have := ahead_iff.1 (under_all r' d s a5 a2 _ hz)
      simp only [zero] at this
      omega
theorem zero_ok : TmsOk zeroT := by
  refine ⟨?_, by simp [zeroT], by simp [zeroT], by simp [zeroT], by simp [zeroT], by simp [zeroT], by simp [zeroT]⟩
  refine heapOk_iff.2 ⟨by simp [zeroT], by simp [zeroT, twiceB], ?_⟩
  simp only [zeroT]
  rw [rankL_nil]
  omega
theorem zero_okB : timersOkB zeroT = true := timersOk_yes zero_ok
theorem atL_modify {l : List Tm} {q : Int} {f : Tm → Tm} (hf : ∀ x, (f x).seq = x.seq) (k : Nat) : atL (l.modify k f) q = atL l q := by
  induction l generalizing k with
  | nil => cases k <;> simp
  | cons x r ih =>
    cases k with
    | zero => simp only [List.modify_zero_cons, atL, hf]
    | succ k => simp only [List.modify_succ_cons, atL, ih]
/-- The law of resetting, on paper. -/
theorem reset_law (T : Tms) (q d : Int) : forgetB (resetL T q d) q = forgetB T q ∧ (forgetB T q = false → resetB T q d = false) ∧
    (forgetB T q = true → timersOkB (resetL T q d) = true ∧ timersOkB (forgetL (resetL T q d) q) = true ∧ (forgetL (resetL T q d) q).list.length + 1 = T.list.length ∧ nextDueI (resetL T q d) ≤ d) := by
  cases ho : timersOkB T
  · have e : resetL T q d = zeroT := by simp [resetL, ho]
    have e2 : forgetB T q = false := by simp [forgetB, ho]
    refine ⟨?_, fun _ => by simp [resetB, ho], fun h => by rw [e2] at h; cases h⟩
    rw [e, e2]
    simp [forgetB, zeroT, atL]
  · have o := timersOk_iff.1 ho
    cases hq : atL T.list q with
    | none =>
      have e : resetL T q d = T := by simp [resetL, ho, resetT, hq]
      have e2 : forgetB T q = false := by simp [forgetB, hq]
      exact ⟨by rw [e], fun _ => by simp [resetB, armedAt, hq], fun h => by rw [e2] at h; cases h⟩
    | some k =>
      have e : resetL T q d = ⟨putL (withoutL T.heap q) d q, T.list.modify k (rearm d), T.next⟩ := by simp [resetL, ho, resetT, hq]
      have r := reset_ok o (due := d) hq
      have hr : timersOkB (resetL T q d) = true := by rw [e]; exact timersOk_yes r
      have ha : atL (resetL T q d).list q = some k := by rw [e]; simp only; rw [atL_modify (f := rearm d) (fun _ => rfl), hq]
      have e2 : forgetB T q = true := by simp [forgetB, ho, hq]
      have e3 : forgetB (resetL T q d) q = true := by simp [forgetB, hr, ha]
      have hk := (atL_some hq).1
      refine ⟨by rw [e2, e3], (fun h => by rw [e2] at h; cases h), fun _ => ⟨hr, ?_, ?_, ?_⟩⟩
      · have := forget_ok (timersOk_iff.1 hr) ha
        rw [forgetL, hr, if_pos rfl, forgetT, ha]
        exact timersOk_yes this
      · rw [forgetL, hr, if_pos rfl, forgetT, ha, e]
        simp
        omega
      · rw [nextDueI, hr, if_pos rfl, nextDueN, e]
        have hl := off_lt o hq
        have hn := off_ne o q
        have hh : heapOkB (withoutL T.heap q) = true := (stop_ok o hq).heap
        have hm := (pl_els (d := d) hh hl hn).1.mem_iff.2 (List.mem_append_right _ (List.mem_singleton.2 rfl))
        obtain ⟨y, hy, ey⟩ := List.mem_map.1 hm
        unfold zero at ey
        injection ey with e5 _ _
        simp only
        cases hp : putL (withoutL T.heap q) d q with
        | nil => rw [hp] at hy; cases hy
        | cons x r' =>
          simp only
          have := root_min (pl_els (d := d) hh hl hn).2 hp hy
          omega
end Go.Proofs.Ytgphakpcenlplaa
