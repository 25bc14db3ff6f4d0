/- FnAfters on paper: valid afters stay valid, and the law's records stay true of them; no program is named here. -/
import Derived.Test.YtnnbfcmbcjkpoaaEg
namespace Go.Proofs.Ytnnbfcmbcjkpoaa
open Go.RowKit Go.Sort

/-- A function's handle; whether its node and function are in range. -/
def hnd0 (x : Aft) : Int × Int := (x.slot, x.age)
def isN (x : Aft) : Bool := inR x.node 0 59 && inR x.func 0 99
theorem AftersP.nd {a : Afs} (o : AftersP a) : (a.list.map hnd0).Nodup := by
  rw [List.nodup_iff_pairwise_ne, List.pairwise_iff_getElem]
  intro i j hi hj hij e
  simp only [List.length_map] at hi hj
  simp only [List.getElem_map] at e
  have h1 := o.diff j hj i hij
  simp [sameH, hnd0] at h1 e
  exact h1 e.1 e.2
theorem AftersP.of_nd {a : Afs} (h1 : slB a.slots = true) (h2 : (a.list.length : Int) = slUsed a.slots) (h3 : ∀ x ∈ a.list, aftB a.slots x = true) (h4 : (a.list.map hnd0).Nodup) : AftersP a := by
  refine ⟨h1, h2, fun i hi => h3 _ (List.getElem_mem hi), fun i hi k hk => ?_⟩
  rw [List.nodup_iff_pairwise_ne, List.pairwise_iff_getElem] at h4
  have := h4 k i (by simp; omega) (by simpa using hi) hk
  simp only [List.getElem_map] at this
  cases h : sameH a.list[k] a.list[i]
  · rfl
  · simp [sameH] at h
    exact absurd (by simp [hnd0, h.1, h.2]) this
theorem aftB_holds {s : Slt} {x : Aft} (h : aftB s x = true) : slHolds s x.slot x.age = true := by unfold aftB at h; simp only [Bool.and_eq_true] at h; exact h.1
theorem aftB_with {s s' : Slt} {x : Aft} (h : aftB s x = true) (h' : slHolds s' x.slot x.age = true) : aftB s' x = true := by unfold aftB at h ⊢; simp only [Bool.and_eq_true] at h ⊢; exact ⟨h', h.2⟩
theorem queue_P {a : Afs} (o : AftersP a) (m : Int) : AftersP ⟨a.slots, a.list.map (queue1 m)⟩ := by
  have hq : ∀ x : Aft, hnd0 (queue1 m x) = hnd0 x := by intro x; unfold queue1 hnd0; split <;> rfl
  refine AftersP.of_nd o.slots (by simpa using o.count) ?_ ?_
  · intro x hx
    obtain ⟨y, hy, rfl⟩ := List.mem_map.1 hx
    obtain ⟨i, hi, rfl⟩ := List.getElem_of_mem hy
    have h1 := o.each i hi
    show aftB a.slots _ = true
    unfold aftB queue1 at *
    split <;> exact h1
  · show ((a.list.map (queue1 m)).map hnd0).Nodup
    rw [List.map_map, show hnd0 ∘ queue1 m = hnd0 from funext hq]
    exact o.nd
/-- What stays held once another handle is dropped. -/
theorem Dropd.holds {t t' : Slt} {k : Nat} {a : Int} (h : Dropd t t' k a) (hb : slB t = true) {s b : Int} (hh : slHolds t s b = true) (hne : s ≠ k) : slHolds t' s b = true := by
  obtain ⟨i, rfl, h1, h2⟩ := (holds_iff hb _ _).1 hh
  have hik : k ≠ i := fun e => hne (by rw [e])
  exact (holds_iff h.ok _ _).2 ⟨i, rfl, by rw [h.uses, List.getElem?_set_ne hik]; exact h1, by rw [h.ages, List.getElem?_set_ne hik]; exact h2⟩
theorem same_slot {t : Slt} (hb : slB t = true) {s a b : Int} (h1 : slHolds t s a = true) (h2 : slHolds t s b = true) : a = b := by
  obtain ⟨i, e1, _, h3⟩ := (holds_iff hb _ _).1 h1
  obtain ⟨j, e2, _, h4⟩ := (holds_iff hb _ _).1 h2
  have : i = j := by omega
  subst this
  rw [h3] at h4
  injection h4
theorem away_P {a : Afs} (o : AftersP a) {p k : Nat} (hp : p < a.list.length) (hk : a.list[p].slot = k) (hs : a.list[p].age < 1000000) : AftersP (awayA a p) ∧ Dropd a.slots (awayA a p).slots k a.list[p].age ∧ (awayA a p).list = a.list.take p ++ a.list.drop (p + 1) := by
  have hh := aftB_holds (o.each p hp)
  rw [hk] at hh
  have D := drop_is o.slots hh hs
  have es : (awayA a p).slots = dropST a.slots k a.list[p].age := by simp [awayA, hp, hk]
  have el : (awayA a p).list = a.list.eraseIdx p := by rw [List.eraseIdx_eq_take_drop_succ]; rfl
  have el2 : (awayA a p).list = a.list.take p ++ a.list.drop (p + 1) := rfl
  rw [← es] at D
  refine ⟨?_, D, el2⟩
  refine AftersP.of_nd D.ok ?_ ?_ ?_
  · rw [el, D.used, ← o.count, List.length_eraseIdx, if_pos hp]
    omega
  · intro x hx
    rw [el] at hx
    obtain ⟨i, hi, rfl⟩ := List.getElem_of_mem hx
    have hi' : i < a.list.length - 1 := by rw [List.length_eraseIdx, if_pos hp] at hi; exact hi
    obtain ⟨j, hj, hjp, hje⟩ : ∃ j, ∃ hj : j < a.list.length, j ≠ p ∧ (a.list.eraseIdx p)[i] = a.list[j] := by
      rw [List.getElem_eraseIdx]
      split
      · exact ⟨i, by omega, by omega, rfl⟩
      · exact ⟨i + 1, by omega, by omega, rfl⟩
    rw [hje]
    have hx := o.each j hj
    refine aftB_with hx (D.holds o.slots (aftB_holds hx) ?_)
    intro hslot
    have h1 := aftB_holds hx
    rw [hslot] at h1
    have hage := same_slot o.slots h1 hh
    have : (a.list.map hnd0)[j]'(by simpa using hj) = (a.list.map hnd0)[p]'(by simpa using hp) := by simp [hnd0, hslot, hk, hage]
    have hn := o.nd
    rw [List.nodup_iff_pairwise_ne, List.pairwise_iff_getElem] at hn
    rcases Nat.lt_trichotomy j p with h | h | h
    · exact hn j p _ _ h this
    · exact hjp h
    · exact hn p j _ _ h this.symm
  · rw [el]
    exact ((List.eraseIdx_sublist a.list p).map hnd0).nodup o.nd
theorem reg_P {a : Afs} (o : AftersP a) {k : Nat} (hf : freeO a.slots = some k) {x : Aft} (hx : (x.slot, x.age) = takeSH a.slots) (hn : isN x = true) : AftersP ⟨takeST a.slots, a.list ++ [x]⟩ := by
  obtain ⟨hk, hh, hu, hne, hst, hok, hus⟩ := take_is o.slots hf
  rw [hh] at hx
  have hl := slB_len o.slots
  have e1 : x.slot = (k : Int) := congrArg Prod.fst hx
  have e2 : x.age = a.slots.ages[k] := congrArg Prod.snd hx
  have keep : ∀ s b, slHolds a.slots s b = true → slHolds (takeST a.slots) s b = true := by
    intro s b hs
    obtain ⟨i, rfl, h1, h2⟩ := (holds_iff o.slots _ _).1 hs
    refine (holds_iff hok _ _).2 ⟨i, rfl, ?_, by rw [hst]; exact h2⟩
    rw [hst]
    by_cases hik : k = i
    · subst hik; rw [h1] at hu; cases hu
    · show (a.slots.used.set k true)[i]? = some true
      rw [List.getElem?_set_ne hik]; exact h1
  refine AftersP.of_nd hok ?_ ?_ ?_
  · simp only [List.length_append, List.length_cons, List.length_nil]
    rw [hus, ← o.count]
    omega
  · intro y hy
    rcases List.mem_append.1 hy with hy | hy
    · obtain ⟨i, hi, rfl⟩ := List.getElem_of_mem hy
      have := o.each i hi
      exact aftB_with this (keep _ _ (aftB_holds this))
    · simp only [List.mem_cons, List.not_mem_nil, or_false] at hy
      subst hy
      show aftB (takeST a.slots) y = true
      unfold aftB
      rw [Bool.and_eq_true]
      refine ⟨(holds_iff hok _ _).2 ⟨k, e1, ?_, ?_⟩, hn⟩
      · rw [hst]
        show (a.slots.used.set k true)[k]? = some true
        rw [List.getElem?_set_self (by omega)]
      · rw [hst, e2]
        exact List.getElem?_eq_getElem hk
  · rw [List.map_append, List.nodup_append]
    refine ⟨o.nd, by simp, ?_⟩
    intro b hb c hc e
    simp at hc
    subst hc
    subst e
    obtain ⟨y, hy, he⟩ := List.mem_map.1 hb
    obtain ⟨i, hi, rfl⟩ := List.getElem_of_mem hy
    have h1 := aftB_holds (o.each i hi)
    obtain ⟨j, h2, h3, _⟩ := (holds_iff o.slots _ _).1 h1
    have he1 : a.list[i].slot = x.slot := congrArg Prod.fst he
    have : j = k := by rw [e1, h2] at he1; omega
    subst this
    rw [h3] at hu
    cases hu
end Go.Proofs.Ytnnbfcmbcjkpoaa
