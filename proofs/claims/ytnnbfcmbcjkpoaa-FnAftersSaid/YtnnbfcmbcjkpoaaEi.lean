/- FnAfters on paper: the law's records and the afters go together, whatever is done; no program is named here. -/
import Derived.Test.YtnnbfcmbcjkpoaaEh
namespace Go.Proofs.Ytnnbfcmbcjkpoaa
open Go.RowKit Go.Sort

/-- The law's records E are true of the afters a, behind i rounds. -/
structure InvA (n i : Nat) (a : Afs) (E : List Ent) : Prop where
  ok : AftersP a
  list : a.list = live 0 E
  len : a.slots.ages.length = n
  st : ∀ e ∈ E, 0 ≤ e.st
  hand : ∀ e ∈ E, ∃ s : Nat, e.slot = s ∧ ∃ g, a.slots.ages[s]? = some g ∧ e.age ≤ g ∧ (2 ≤ e.st → e.age < g)
  dist : ∀ j k (hj : j < E.length) (hk : k < j), E[k].hd ≠ E[j].hd
  small : ∀ k (h : k < a.slots.ages.length), a.slots.ages[k] ≤ i
  count : E.length ≤ i
section
variable {n i : Nat} {a : Afs} {E : List Ent}
theorem InvA.next (h : InvA n i a E) : InvA n (i + 1) a E := ⟨h.ok, h.list, h.len, h.st, h.hand, h.dist, fun k hk => by have := h.small k hk; omega, by have := h.count; omega⟩
theorem InvA.used (h : InvA n i a E) : slUsed a.slots = (liveN E : Int) := by rw [← h.ok.count, h.list, live_len]
theorem InvA.start (n : Nat) (h1 : 1 ≤ n) (h2 : n ≤ 64) : InvA n 0 ⟨newST n, []⟩ [] := by
  have e : newST n = ⟨List.replicate n 0, List.replicate n false⟩ := by
    unfold newST
    have : newSB n = true := by simp [newSB]; omega
    rw [if_pos this]; simp
  have hb : slB (newST n) = true := by
    rw [e]
    refine slB_of (by simpa using h1) (by simpa using h2) (by simp) ?_
    intro k hk
    simp
  refine ⟨AftersP.of_nd hb ?_ (by simp) (by simp), rfl, by rw [e]; simp, by simp, by simp, fun j k hj => by simp at hj, ?_, Nat.le_refl _⟩
  · show ((([] : List Aft).length : Nat) : Int) = slUsed (newST n)
    rw [used_eq hb, e]
    simp
  · intro k hk
    simp [e]
theorem InvA.live_at (h : InvA n i a E) {j : Nat} (hj : j < E.length) (hl : liveE E[j] = true) : ∃ hp : posE E j < a.list.length, a.list[posE E j] = aftE j E[j] := by
  obtain ⟨hp, he⟩ := pos_at E hj hl
  have h1 : posE E j < a.list.length := by rw [h.list]; exact hp
  refine ⟨h1, ?_⟩
  have h2 := congrArg (fun l => l[posE E j]?) h.list
  simp only [List.getElem?_eq_getElem h1, List.getElem?_eq_getElem hp] at h2
  injection h2 with h2
  rw [h2, he]
theorem InvA.queue (h : InvA n i a E) (m : Int) : InvA n (i + 1) ⟨a.slots, a.list.map (queue1 m)⟩ (E.map (queueE m)) := by
  have hhd : ∀ e : Ent, (queueE m e).hd = e.hd ∧ (queueE m e).slot = e.slot ∧ (queueE m e).age = e.age := by intro e; unfold queueE; split <;> exact ⟨rfl, rfl, rfl⟩
  refine ⟨queue_P h.ok m, ?_, h.len, ?_, ?_, ?_, fun k hk => by have := h.small k hk; show a.slots.ages[k] ≤ _; omega, by have := h.count; simp; omega⟩
  · show a.list.map (queue1 m) = _
    rw [queue_live m E 0 h.st, h.list]
  · intro e he
    obtain ⟨y, hy, rfl⟩ := List.mem_map.1 he
    have := h.st y hy
    unfold queueE
    split
    · show (0 : Int) ≤ 1; omega
    · exact this
  · intro e he
    obtain ⟨y, hy, rfl⟩ := List.mem_map.1 he
    obtain ⟨s, e1, g, e2, e3, e4⟩ := h.hand y hy
    refine ⟨s, by rw [(hhd y).2.1]; exact e1, g, e2, by rw [(hhd y).2.2]; exact e3, ?_⟩
    rw [(hhd y).2.2]
    intro h2
    refine e4 ?_
    unfold queueE at h2
    split at h2
    · exact absurd h2 (by show ¬ (2 : Int) ≤ 1; omega)
    · exact h2
  · intro j k hj hk
    simp only [List.length_map] at hj
    simp only [List.getElem_map]
    rw [(hhd _).1, (hhd _).1]
    exact h.dist j k hj hk
theorem InvA.away (h : InvA n i a E) (hi : i < 1000000) {j : Nat} (hj : j < E.length) (hl : liveE E[j] = true) {s : Int} (hs : 2 ≤ s) : InvA n (i + 1) (awayA a (posE E j)) (setSt E j s) := by
  obtain ⟨hp, he⟩ := h.live_at hj hl
  obtain ⟨k, e1, g, e2, e3, _⟩ := h.hand _ (List.getElem_mem hj)
  obtain ⟨hk, hg⟩ := List.getElem?_eq_some_iff.1 e2
  have hsm := h.small k hk
  have hslot : a.list[posE E j].slot = (k : Int) := by rw [he]; exact e1
  have hage : a.list[posE E j].age = E[j].age := by rw [he]; rfl
  obtain ⟨hP, hD, hL⟩ := away_P h.ok hp hslot (by rw [hage]; omega)
  rw [hage] at hD
  -- the slot's age is that of the handle
  have hageq : a.slots.ages[k]? = some E[j].age := by
    have h1 := aftB_holds (h.ok.each _ hp)
    rw [hslot, hage] at h1
    obtain ⟨k', h2, _, h3⟩ := (holds_iff h.ok.slots _ _).1 h1
    have : k = k' := by omega
    subst this
    exact h3
  refine ⟨hP, ?_, by rw [hD.ages]; simpa using h.len, ?_, ?_, ?_, ?_, by rw [setSt_len]; have := h.count; omega⟩
  · rw [hL, pos_erase E hj hl hs, h.list]
  · intro e he
    obtain ⟨q, hq, rfl⟩ := List.getElem_of_mem he
    rw [setSt_len] at hq
    rw [setSt_at E j s hq]
    split
    · show 0 ≤ s; omega
    · exact h.st _ (List.getElem_mem hq)
  · intro e he
    obtain ⟨q, hq, rfl⟩ := List.getElem_of_mem he
    rw [setSt_len] at hq
    rw [setSt_at E j s hq]
    split
    · rename_i hjq
      subst hjq
      refine ⟨k, e1, E[j].age + 1, ?_, by show E[j].age ≤ _; omega, fun _ => by show E[j].age < _; omega⟩
      rw [hD.ages, List.getElem?_set_self hk]
    · rename_i hjq
      obtain ⟨k', f1, g', f2, f3, f4⟩ := h.hand _ (List.getElem_mem hq)
      by_cases hkk : k = k'
      · subst hkk
        rw [hageq] at f2
        injection f2 with f2
        subst f2
        exact ⟨k, f1, E[j].age + 1, by rw [hD.ages, List.getElem?_set_self hk], by omega, fun h2 => by have := f4 h2; omega⟩
      · exact ⟨k', f1, g', by rw [hD.ages, List.getElem?_set_ne hkk]; exact f2, f3, f4⟩
  · intro q r hq hr
    rw [setSt_len] at hq
    have hr' : r < E.length := by omega
    rw [setSt_at E j s hq, setSt_at E j s hr']
    have := h.dist q r hq hr
    split <;> split <;> exact this
  · intro q hq
    have hq' : q < a.slots.ages.length := by rw [hD.ages] at hq; simpa using hq
    have hs1 := h.small q hq'
    simp only [hD.ages, List.getElem_set]
    split
    · rename_i hkq
      subst hkq
      have : a.slots.ages[k] = E[j].age := by rw [List.getElem?_eq_getElem hk] at hageq; injection hageq
      omega
    · omega
/-- Nothing is queued: nothing is started. -/
theorem InvA.none_go (h : InvA n i a E) (hn : ∀ e ∈ E, e.st ≠ 1) : NoneP goB a.list a.list.length := by
  intro p hp _
  have hm : a.list[p] ∈ live 0 E := by rw [← h.list]; exact List.getElem_mem hp
  obtain ⟨j, hj, _, e⟩ := live_mem _ _ _ hm
  rw [e]
  have := hn _ (List.getElem_mem hj)
  simp [goB, aftE, this]
/-- The first queued one is started. -/
theorem InvA.first_go (h : InvA n i a E) (hi : i < 1000000) {j : Nat} (hj : j < E.length) (h1 : E[j].st = 1) (h0 : ∀ q (hq : q < j), (E[q]'(by omega)).st ≠ 1) :
    pickB goB a = true ∧ pickA goB a = awayA a (posE E j) ∧ pickX goB a = aftE j E[j] := by
  have hl : liveE E[j] = true := by simp [liveE, h1]
  obtain ⟨hp, he⟩ := h.live_at hj hl
  obtain ⟨k, e1, g, e2, e3, _⟩ := h.hand _ (List.getElem_mem hj)
  obtain ⟨hk, hg⟩ := List.getElem?_eq_some_iff.1 e2
  have hsm := h.small k hk
  have := pick_some (p := goB) (aftersB_true.2 h.ok) hp (by rw [he]; simp [goB, aftE, h1]; omega) (by
    intro p hp1 hp2
    obtain ⟨hp3, q, hq, hq2, _, e⟩ := pos_before E hj hp2
    have h2 := congrArg (fun l => l[p]?) h.list
    simp only [List.getElem?_eq_getElem hp1, List.getElem?_eq_getElem hp3] at h2
    injection h2 with h2
    rw [h2, e]
    have := h0 q hq
    simp [goB, aftE, this])
  rw [he] at this
  exact this
/-- What the handle of record k calls off. -/
theorem InvA.off_at (h : InvA n i a E) (hi : i < 1000000) {k : Nat} (hk : k < E.length) :
    if E[k].st = 0 then pickB (offB E[k].slot E[k].age) a = true ∧ pickA (offB E[k].slot E[k].age) a = awayA a (posE E k) else pickB (offB E[k].slot E[k].age) a = false ∧ pickA (offB E[k].slot E[k].age) a = a := by
  have other : ∀ j (hj : j < E.length), j ≠ k → offB E[k].slot E[k].age (aftE j E[j]) = false := by
    intro j hj hjk
    have hd : E[j].hd ≠ E[k].hd := by
      rcases Nat.lt_or_ge j k with hlt | hge
      · exact h.dist k j hk hlt
      · exact fun e => h.dist j k hj (by omega) e.symm
    unfold offB aftE
    by_cases h1 : E[j].slot = E[k].slot
    · by_cases h2 : E[j].age = E[k].age
      · exact absurd (by unfold Ent.hd; rw [h1, h2]) hd
      · simp [h2]
    · simp [h1]
  have each : ∀ p (hp : p < a.list.length), ∃ j, ∃ hj : j < E.length, liveE E[j] = true ∧ a.list[p] = aftE j E[j] := by
    intro p hp
    have hm : a.list[p] ∈ live 0 E := by rw [← h.list]; exact List.getElem_mem hp
    obtain ⟨j, hj, h1, e⟩ := live_mem _ _ _ hm
    exact ⟨j, hj, h1, by rw [e, Nat.zero_add]⟩
  split
  · rename_i h0
    have hl : liveE E[k] = true := by simp [liveE, h0]
    obtain ⟨hp, he⟩ := h.live_at hk hl
    obtain ⟨s, e1, g, e2, e3, _⟩ := h.hand _ (List.getElem_mem hk)
    obtain ⟨hs, hg⟩ := List.getElem?_eq_some_iff.1 e2
    have hsm := h.small s hs
    have := pick_some (p := offB E[k].slot E[k].age) (aftersB_true.2 h.ok) hp (by rw [he]; simp [offB, aftE, h0]; omega) (by
      intro p hp1 hp2
      obtain ⟨hp3, q, hq, hq2, _, e⟩ := pos_before E hk hp2
      have h2 := congrArg (fun l => l[p]?) h.list
      simp only [List.getElem?_eq_getElem hp1, List.getElem?_eq_getElem hp3] at h2
      injection h2 with h2
      rw [h2, e]
      exact other q hq2 (by omega))
    exact ⟨this.1, this.2.1⟩
  · rename_i h0
    have := pick_none (p := offB E[k].slot E[k].age) (aftersB_true.2 h.ok) (by
      intro p hp _
      obtain ⟨j, hj, hl, e⟩ := each p hp
      rw [e]
      by_cases hjk : j = k
      · subst hjk
        have hs := h.st _ (List.getElem_mem hj)
        have h1 : E[j].st = 1 := by simp [liveE] at hl; omega
        simp [offB, aftE, h1]
      · exact other j hj hjk)
    exact ⟨this.1, this.2.1⟩
/-- A function more. -/
theorem InvA.reg (h : InvA n i a E) (hi : i < 1000000) {m fn : Int} (hm : 0 ≤ m ∧ m ≤ 59) (hf : fn = (E.length : Int)) (hL : E.length ≤ 99) :
    regB a m fn = decide (slUsed a.slots < (n : Int)) ∧ (regB a m fn = false → regA a m fn = a) ∧ (regB a m fn = true → InvA n (i + 1) (regA a m fn) (E ++ [⟨m, 0, (regH a m fn).1, (regH a m fn).2⟩])) := by
  have hb := aftersB_true.2 h.ok
  have hr : (inR m 0 59 && inR fn 0 99) = true := by simp [inR, hf]; omega
  have hok : regOk a m fn = takeSB a.slots := by unfold regOk; rw [hr, Bool.and_true]
  have ht := take_iff h.ok.slots (fun k hk => by have := h.small k hk; omega)
  rw [h.len] at ht
  have hB : regB a m fn = takeSB a.slots := by unfold regB; rw [hb, hok]; rfl
  refine ⟨by rw [hB, ht], fun h1 => ?_, fun h1 => ?_⟩
  · rw [hB] at h1
    unfold regA
    rw [if_pos hb, hok, h1]
    simp
  · have hH : regH a m fn = takeSH a.slots := by unfold regH; rw [if_pos h1]
    rw [hB] at h1
    unfold takeSB at h1
    cases hfo : freeO a.slots with
    | none => rw [hfo] at h1; cases h1
    | some k =>
      obtain ⟨hk, hh, hu, hne, hst, hokt, hus⟩ := take_is h.ok.slots hfo
      have hA : regA a m fn = ⟨takeST a.slots, a.list ++ [⟨(takeSH a.slots).1, (takeSH a.slots).2, m, fn, false⟩]⟩ := by
        unfold regA
        rw [if_pos hb, hok, if_pos (by unfold takeSB; rw [hfo]; rfl)]
      rw [hA, hH]
      have hP := reg_P h.ok hfo (x := ⟨(takeSH a.slots).1, (takeSH a.slots).2, m, fn, false⟩) rfl hr
      have hages : (takeST a.slots).ages = a.slots.ages := by rw [hst]
      refine ⟨hP, ?_, by show (takeST a.slots).ages.length = n; rw [hages]; exact h.len, ?_, ?_, ?_, ?_, by have := h.count; simp; omega⟩
      · rw [live_append, ← h.list]
        simp [live, liveE, aftE, hf]
      · intro e he
        rcases List.mem_append.1 he with he | he
        · exact h.st e he
        · simp only [List.mem_cons, List.not_mem_nil, or_false] at he
          subst he
          exact Int.le_refl _
      · intro e he
        show ∃ s : Nat, e.slot = s ∧ ∃ g, (takeST a.slots).ages[s]? = some g ∧ _
        rw [hages]
        rcases List.mem_append.1 he with he | he
        · exact h.hand e he
        · simp only [List.mem_cons, List.not_mem_nil, or_false] at he
          subst he
          exact ⟨k, by rw [hh], a.slots.ages[k], List.getElem?_eq_getElem hk, by rw [hh]; exact Int.le_refl _, fun h2 => absurd h2 (by show ¬ (2 : Int) ≤ 0; omega)⟩
      · intro j q hj hq
        simp only [List.length_append, List.length_cons, List.length_nil] at hj
        have hqE : q < E.length := by omega
        rw [List.getElem_append_left hqE]
        by_cases hjE : j < E.length
        · rw [List.getElem_append_left hjE]
          exact h.dist j q hjE hq
        · have : j = E.length := by omega
          subst this
          simp only [List.getElem_append_right (Nat.le_refl _), Nat.sub_self, List.getElem_cons_zero]
          intro e
          obtain ⟨s, e1, g, e2, e3, e4⟩ := h.hand _ (List.getElem_mem hqE)
          have f1 : E[q].slot = (k : Int) := by have := congrArg Prod.fst e; simp only [Ent.hd] at this; rw [this, hh]
          have f2 : E[q].age = a.slots.ages[k] := by have := congrArg Prod.snd e; simp only [Ent.hd] at this; rw [this, hh]
          have hs : s = k := by omega
          subst hs
          rw [List.getElem?_eq_getElem hk] at e2
          injection e2 with e2
          by_cases hst2 : 2 ≤ E[q].st
          · have := e4 hst2; omega
          · have hl : liveE E[q] = true := by simp [liveE]; omega
            obtain ⟨hp, he⟩ := h.live_at hqE hl
            have h1 := aftB_holds (h.ok.each _ hp)
            rw [he] at h1
            obtain ⟨s', g1, g2, _⟩ := (holds_iff h.ok.slots _ _).1 h1
            have : s' = s := by simp only [aftE] at g1; omega
            subst this
            rw [g2] at hu
            cases hu
      · intro q hq
        have hq' : q < a.slots.ages.length := by simpa [hages] using hq
        have := h.small q hq'
        simp only [hages]
        omega
end
end Go.Proofs.Ytnnbfcmbcjkpoaa
