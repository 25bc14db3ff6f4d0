/- Chapter 9's reference: ProgOk; no condition beyond that the program can be read. -/
import Derived.Test.YtoccbmmjcbjacaaDoorFe
namespace Go.Proofs.YtoccbmmjcbjacaaDoor
open Go.RowKit Go.Sort

theorem progB_not {l : List Ins} {k : Nat} (hk : k < l.length) (h : insB l[k] = false) : progB l = false := by
  cases hp : progB l with
  | false => rfl
  | true =>
    have := (progB_iff.1 hp).1 _ (List.getElem_mem hk)
    rw [h] at this; cases this
theorem progB_len {l : List Ins} (h : ∀ k (hk : k < l.length), insB l[k] = true) : progB l = decide (l.length ≤ 12) := by
  unfold progB
  have : l.all insB = true := by
    rw [List.all_eq_true]
    intro x hx
    obtain ⟨k, hk, rfl⟩ := List.getElem_of_mem hx
    exact h k hk
  rw [this, Bool.true_and]

set_option maxHeartbeats 1600000 in
theorem progOk_any (xs : List Ins) (A : Option Addr) (c B : Nat) (w : World) (hB : B ≤ w.heap.size) (h : RdR nsR w B A xs) :
    Calls Tryd.prog 9 #[.slice A xs.length c] w fun e w' => e = .returned (.bool (progB xs)) ∧ Kept 0 0 w w' := by
  have hx := h.1
  unfold maxLen at hx
  have H := Lib.hid h
  clear h
  go_enter Tryd.func9, Tryd.ntmps9
  go_wp2
  go_loopw [3] (fun i wr => ∃ k : Nat, k ≤ xs.length ∧ i = .int .i64 k ∧ Hid (Kept 0 0 w wr) ∧ Hid (∀ j (hj : j < xs.length), j < k → insB xs[j] = true)) (fun i _ => xs.length - (intOf i).toNat)
  case atStart => exact ⟨0, Nat.zero_le _, by rfl, Kept.refl _ _ _, fun j hj hjk => by omega⟩
  case round =>
    obtain ⟨k, hk, rfl, HK, HA⟩ := hrel
    by_cases hlt : k < xs.length
    · obtain ⟨ad, rfl, _, c0, c1, c2⟩ := (H.out.kept hB HK.out (.inl (Nat.le_refl _))).ns hlt
      have i1 : (k : Int) < (xs.length : Int) := by omega
      obtain ⟨x, hxk⟩ : ∃ x, x = xs[k] := ⟨_, rfl⟩
      rw [← hxk] at c0 c1 c2
      have HX := Lib.hid hxk
      clear hxk
      go_wp2_with fail
      with_reducible refine (insOk_any x _).mono ?_
      rintro e w2 ⟨rfl, hk2⟩
      have HK2 := Lib.hid (HK.out.trans hk2)
      cases hb : insB x
      · have hp := progB_not hlt (by rw [← HX.out]; exact hb)
        go_wp2_with fail
        go_ret
        exact ⟨ret_bool hp.symm, HK2.out⟩
      · have hb2 := Lib.hid hb
        clear hb hk2 HK c0 c1 c2
        go_wp2_with fail
        go_roundw
        case rel => exact ⟨k + 1, by omega, by go_num, HK2, fun j hj hjk => by
          rcases Nat.lt_or_ge j k with h' | h'
          · exact HA.out j hj h'
          · have : j = k := by omega
            subst this
            rw [← HX.out]; exact hb2.out⟩
        case measure => simp [intOf]; omega
    · have i1 : ¬ (k : Int) < (xs.length : Int) := by omega
      have hp := progB_len (l := xs) (fun j hj => HA.out j hj (by omega))
      go_wp2_with fail
      go_ret
      exact ⟨ret_bool (by rw [Bool.eq_iff_iff]; simp <;> omega), HK.out⟩
end Go.Proofs.YtoccbmmjcbjacaaDoor
