/- Plain facts on lists for the law of handles: what taking and dropping does to slots, held and dropped handles; no condition. -/
import Derived.Test.YtgminepgldfdfaaZ3
import Derived.Test.YtgminepgldfdfaaM
namespace Go.Proofs.Ytgminepgldfdfaa

/-- What holds behind t rounds of the law. -/
structure Inv (n t : Nat) (ages : List Int) (used : List Bool) (held gone : List (Int × Int)) : Prop where
  ok : slotsOkB ages used = true
  len : ages.length = n
  age : ∀ j (h : j < ages.length), ages[j] ≤ t
  hold : ∀ h ∈ held, holdsB ages used h.1 h.2 = true
  dist : held.Pairwise (fun a b => a.1 ≠ b.1)
  cnt : cntT used used.length = held.length
  past : ∀ g ∈ gone, ∃ k : Nat, g.1 = k ∧ ∃ h : k < ages.length, g.2 < ages[k]
  glen : gone.length ≤ t

theorem Inv.past_not {n t : Nat} {ages : List Int} {used : List Bool} {held gone : List (Int × Int)} (h : Inv n t ages used held gone) : ∀ g ∈ gone, holdsB ages used g.1 g.2 = false := by
  intro g hg
  obtain ⟨k, e, hk, hlt⟩ := h.past g hg
  cases hh : holdsB ages used g.1 g.2
  · rfl
  · obtain ⟨_, k', e', h1, h2, ha, _⟩ := holds_yes hh
    have : k' = k := by have := e.symm.trans e'; omega
    subst this
    omega

theorem slotsOk_used {ages : List Int} {used used' : List Bool} (h : slotsOkB ages used = true) (hl : used'.length = used.length) : slotsOkB ages used' = true := by
  simp only [slotsOkB, hl] at h ⊢
  exact h
theorem slotsOk_set {ages : List Int} {used used' : List Bool} {k : Nat} {a : Int} (h : slotsOkB ages used = true) (hl : used'.length = used.length) (h0 : 0 ≤ a) (h1 : a ≤ 1000000) : slotsOkB (ages.set k a) used' = true := by
  have hle := slotsOk_len h
  refine slotsOk_good ⟨by simp; omega, by simp; omega, by simp; omega⟩ ages.length (by simp) ?_
  rw [List.take_of_length_le (by simp)]
  rw [List.all_eq_true]
  intro x hx
  rcases List.mem_or_eq_of_mem_set hx with hx | rfl
  · obtain ⟨j, hj, rfl⟩ := List.getElem_of_mem hx
    have := slotsOk_age h j hj
    simp [ageOk, this]
  · simp [ageOk, h0, h1]

theorem cntT_is (used : List Bool) : cntT used used.length = (used.filter id).length := by simp [cntT]
theorem cntT_set (used : List Bool) (k : Nat) (hk : k < used.length) (b : Bool) (hb : used[k] = !b) : cntT (used.set k b) (used.set k b).length = cntT used used.length + (if b then 1 else -1) := by
  rw [cntT_is, cntT_is]
  induction used generalizing k with
  | nil => simp at hk
  | cons u r ih =>
    cases k with
    | zero =>
      simp at hb
      subst hb
      cases b <;> simp <;> omega
    | succ k =>
      simp at hk hb
      have := ih k hk hb
      cases u <;> cases b <;> simp at this ⊢ <;> omega
theorem cntT_full {used : List Bool} (h : ∀ j (hj : j < used.length), used[j] = true) : cntT used used.length = used.length := by
  have e : used = List.replicate used.length true := List.ext_getElem (by simp) (fun i h1 h2 => by simp [h i h1])
  unfold cntT
  rw [List.take_length]
  rw [e]
  simp
theorem cntT_lt {used : List Bool} (k : Nat) (hk : k < used.length) (h : used[k] = false) : cntT used used.length < used.length := by
  have h1 := cntT_set used k hk true (by simp [h])
  have h2 := (cntT_bd (used.set k true) (used.set k true).length).2
  simp only [if_true, List.length_set] at h1 h2
  omega

theorem Inv.start (n : Nat) (h1 : 1 ≤ n) (h2 : n ≤ 64) : Inv n 0 (List.replicate n 0) (List.replicate n false) [] [] := by
  refine ⟨?_, by simp, by simp, by simp, by simp, by simp [cntT], by simp, by simp⟩
  refine slotsOk_good ⟨by simp; omega, by simp; omega, by simp⟩ n (by simp) ?_
  simp [ageOk]

theorem holds_used {ages : List Int} {used used' : List Bool} {s a : Int} {k : Nat} (h : holdsB ages used s a = true) (hl : used'.length = used.length) (hk : s ≠ k) (hu : ∀ j, j ≠ k → used'[j]? = used[j]?) : holdsB ages used' s a = true := by
  obtain ⟨hb, j, rfl, h1, h2, e1, e2, _, _⟩ := holds_yes h
  have hj : j ≠ k := fun e => hk (by rw [e])
  have h2' : j < used'.length := by omega
  rw [holds_in j a (slotsOk_used hb hl) h1 h2']
  have : used'[j] = used[j] := by
    have := hu j hj
    rw [List.getElem?_eq_getElem h2', List.getElem?_eq_getElem h2] at this
    injection this
  rw [this, e2, e1]
  simp

/-- A slot is taken. -/
theorem Inv.take {n t : Nat} {ages : List Int} {used : List Bool} {held gone : List (Int × Int)} (h : Inv n t ages used held gone) {k : Nat} (h1 : k < ages.length) (h2 : k < used.length) (hf : freeB ages used k = true) :
    Inv n (t + 1) ages (used.set k true) (held ++ [((k : Int), ages[k])]) gone ∧ held.length < n := by
  have hu : used[k] = false := by
    rw [freeB_at h1 h2] at hf
    simp at hf
    exact hf.1
  have hl := slotsOk_len h.ok
  have hc := cntT_set used k h2 true (by simp [hu])
  have hlt := cntT_lt k h2 hu
  have e := h.cnt
  refine ⟨⟨slotsOk_used h.ok (by simp), h.len, fun j hj => by have := h.age j hj; omega, ?_, ?_, ?_, h.past, by have := h.glen; omega⟩, by have := h.len; omega⟩
  · intro x hx
    rcases List.mem_append.1 hx with hx | hx
    · have hx' := h.hold x hx
      refine holds_used hx' (by simp) (k := k) ?_ (fun j hj => by rw [List.getElem?_set_ne (Ne.symm hj)])
      intro ex
      obtain ⟨_, j, ej, _, _, _, e2, _⟩ := holds_yes hx'
      have : j = k := by omega
      subst this
      rw [hu] at e2
      cases e2
    · simp at hx
      subst hx
      rw [holds_in k _ (slotsOk_used h.ok (by simp)) h1 (by simpa using h2)]
      simp
  · rw [List.pairwise_append]
    refine ⟨h.dist, by simp, ?_⟩
    intro x hx y hy
    simp at hy
    subst hy
    intro ex
    obtain ⟨_, j, ej, _, _, _, e2, _⟩ := holds_yes (h.hold x hx)
    have : j = k := by simp at ex; omega
    subst this
    rw [hu] at e2
    cases e2
  · rw [hc, e]
    simp
/-- No slot can be taken: all are held. -/
theorem Inv.full {n t : Nat} {ages : List Int} {used : List Bool} {held gone : List (Int × Int)} (h : Inv n t ages used held gone) (ht : t ≤ 20) (hn : NoneFree ages used ages.length) : Inv n (t + 1) ages used held gone ∧ held.length = n := by
  have hl := slotsOk_len h.ok
  refine ⟨⟨h.ok, h.len, fun j hj => by have := h.age j hj; omega, h.hold, h.dist, h.cnt, h.past, by have := h.glen; omega⟩, ?_⟩
  have hall : ∀ j (hj : j < used.length), used[j] = true := by
    intro j hj
    have h1 : j < ages.length := by omega
    have hf := hn j h1
    rw [freeB_at h1 hj] at hf
    have ha := h.age j h1
    have hne : (ages[j] == 1000000) = false := by simp; omega
    rw [hne] at hf
    simpa using hf
  have := cntT_full hall
  have e := h.cnt
  have := h.len
  omega

/-- The handle at place i is dropped. -/
theorem Inv.drop {n t : Nat} {ages : List Int} {used : List Bool} {held gone : List (Int × Int)} (h : Inv n t ages used held gone) (ht : t ≤ 20) {i : Nat} (hi : i < held.length) {k : Nat} {a : Int} (he : held[i] = ((k : Int), a)) :
    ∃ (h1 : k < ages.length) (h2 : k < used.length), ages[k] = a ∧ a ≤ t ∧ 0 ≤ a ∧ holdsB ages used k a = true ∧ Inv n (t + 1) (ages.set k (a + 1)) (used.set k false) (held.take i ++ held.drop (i + 1)) (gone ++ [((k : Int), a)]) := by
  have hm : held[i] ∈ held := List.getElem_mem hi
  have hh := h.hold _ hm
  rw [he] at hh
  obtain ⟨hb, k', ek, h1, h2, ea, eu, b1, b2⟩ := holds_yes hh
  obtain rfl : k' = k := by simp at ek; omega
  have hage := h.age k' h1
  have hal : a ≤ t := by omega
  have hc := cntT_set used k' h2 false (by simp [eu])
  have hsplit : held = held.take i ++ held[i] :: held.drop (i + 1) := by rw [← List.drop_eq_getElem_cons hi, List.take_append_drop]
  have hd := h.dist
  rw [hsplit, List.pairwise_append] at hd
  obtain ⟨d1, d2, d3⟩ := hd
  rw [List.pairwise_cons] at d2
  refine ⟨h1, h2, ea, hal, b1, hh, ⟨slotsOk_set h.ok (by simp) (by omega) (by omega), by simp [h.len], ?_, ?_, ?_, ?_, ?_, by have := h.glen; simp; omega⟩⟩
  · intro j hj
    simp at hj
    rw [List.getElem_set]
    split
    · omega
    · have := h.age j hj; omega
  · intro x hx
    have hne : x.1 ≠ (k' : Int) := by
      rcases List.mem_append.1 hx with hx | hx
      · have := d3 x hx held[i] List.mem_cons_self
        rw [he] at this
        exact this
      · have := d2.1 x hx
        rw [he] at this
        exact fun e => this e.symm
    have hxm : x ∈ held := by
      rcases List.mem_append.1 hx with hx | hx
      · exact List.mem_of_mem_take hx
      · exact List.mem_of_mem_drop hx
    obtain ⟨_, j, ej, j1, j2, f1, f2, _, _⟩ := holds_yes (h.hold x hxm)
    have hjk : k' ≠ j := fun e => hne (by rw [ej, e])
    rw [ej, holds_in j x.2 (slotsOk_set h.ok (by simp) (by omega) (by omega)) (by simpa using j1) (by simpa using j2)]
    simp [List.getElem_set_ne hjk, f1, f2]
  · rw [List.pairwise_append]
    exact ⟨d1, d2.2, fun x hx y hy => d3 x hx y (List.mem_cons_of_mem _ hy)⟩
  · rw [hc, h.cnt]
    simp
    omega
  · intro g hg
    rcases List.mem_append.1 hg with hg | hg
    · obtain ⟨j, ej, j1, jl⟩ := h.past g hg
      refine ⟨j, ej, by simpa using j1, ?_⟩
      rw [List.getElem_set]
      split
      · rename_i e
        subst e
        omega
      · exact jl
    · simp at hg
      subst hg
      refine ⟨k', rfl, by simpa using h1, ?_⟩
      rw [List.getElem_set_self]
      show a < a + 1
      omega
end Go.Proofs.Ytgminepgldfdfaa
