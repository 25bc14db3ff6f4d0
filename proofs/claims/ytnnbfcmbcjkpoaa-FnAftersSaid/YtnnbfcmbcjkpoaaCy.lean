/- The program's has, find, remove and shown, said of afters whose functions lie in memory; condition: valid afters. -/
import Derived.Test.YtnnbfcmbcjkpoaaCx
namespace Go.Proofs.Ytnnbfcmbcjkpoaa
open Go.RowKit Go.Sort

/-- The afters a lie in memory as deferred functions; below lo nothing has turned since w1. -/
def Shows (w1 : World) (lo g : Nat) (a : Afs) (wx : World) : Prop := ∃ m D1 d1 D2 d2 D3 d3 qs, Dfr wx lo g m D1 d1 D2 d2 D3 d3 a.slots (qs.map fun p => hnd p.1) qs ∧ (qs.map fun p => hnd p.1).Nodup ∧ (∀ p ∈ qs, 0 ≤ p.1.node) ∧ qs.length ≤ 1000 ∧ qs.map Prod.fst = a.list ∧ Below lo w1 wx ∧ lo ≤ w1.heap.size
section
variable {w1 wx w' : World} {lo g : Nat} {a : Afs}
theorem Shows.kept (h : Shows w1 lo g a wx) (hk : Kept 0 0 wx w') : Shows w1 lo g a w' := by
  obtain ⟨m, D1, d1, D2, d2, D3, d3, qs, h1, h2, h3, h4, h5, h6, h7⟩ := h
  exact ⟨m, D1, d1, D2, d2, D3, d3, qs, h1.kept hk, h2, h3, h4, h5, h6.trans (hk.below (by have := h6.size; omega) (.inl (Nat.le_refl _))), h7⟩
theorem Shows.below (h : Shows w1 lo g a wx) : Below lo w1 wx := by
  obtain ⟨m, D1, d1, D2, d2, D3, d3, qs, _, _, _, _, _, h6, _⟩ := h
  exact h6
theorem Shows.size (h : Shows w1 lo g a wx) : lo ≤ wx.heap.size := by
  obtain ⟨m, D1, d1, D2, d2, D3, d3, qs, _, _, _, _, _, h6, h7⟩ := h
  have := h6.size; omega
theorem shown_s (h : Shows w1 lo g a wx) : Calls Try.prog 36 #[.pointer (some ⟨g, 0, none⟩)] wx fun e w' => ∃ z, e = .returned z ∧ OwnAs w' lo w'.heap.size z a ∧ Kept 0 0 wx w' := by
  have hz := h.size
  obtain ⟨m, D1, d1, D2, d2, D3, d3, qs, h1, h2, h3, h4, h5, h6, h7⟩ := h
  have := shown_any h1 h2 h3 h4 hz
  rwa [h5] at this
theorem at_of {qs : List (Aft × Nat)} {l : List Aft} (h5 : qs.map Prod.fst = l) {i : Nat} (hi : i < qs.length) (hl : i < l.length) : qs[i].1 = l[i] := by
  have := congrArg (fun l => l[i]?) h5
  simp only [List.getElem?_map, List.getElem?_eq_getElem hi, List.getElem?_eq_getElem hl, Option.map_some] at this
  injection this
theorem has_s_yes (h : Shows w1 lo g a wx) {i : Nat} (hi : i < a.list.length) : Calls Try.prog 39 #[.pointer (some ⟨g, 0, none⟩), hkey (hnd a.list[i])] wx fun e w' => e = .returned (.bool true) ∧ Kept 0 0 wx w' := by
  obtain ⟨m, D1, d1, D2, d2, D3, d3, qs, h1, h2, h3, h4, h5, h6, h7⟩ := h
  have hq : i < qs.length := by have := congrArg List.length h5; simp at this; omega
  have := AtH.of_nodup h2 hq
  rw [at_of h5 hq hi] at this
  exact has_yes h1 _ i this.key
theorem has_s_no (h : Shows w1 lo g a wx) {b : Int × Int} (hn : ∀ x ∈ a.list, hnd x ≠ b) : Calls Try.prog 39 #[.pointer (some ⟨g, 0, none⟩), hkey b] wx fun e w' => e = .returned (.bool false) ∧ Kept 0 0 wx w' := by
  obtain ⟨m, D1, d1, D2, d2, D3, d3, qs, h1, h2, h3, h4, h5, h6, h7⟩ := h
  refine has_no h1 b fun p hp => ?_
  obtain ⟨y, hy, rfl⟩ := List.mem_map.1 hp
  exact hn y.1 (by rw [← h5]; exact List.mem_map_of_mem hy)
theorem find_s (h : Shows w1 lo g a wx) {i : Nat} (hi : i < a.list.length) : Calls Try.prog 37 #[.pointer (some ⟨g, 0, none⟩), hkey (hnd a.list[i])] wx fun e w' => e = .returned (.agg (afC a.list[i])) ∧ Kept 0 0 wx w' := by
  obtain ⟨m, D1, d1, D2, d2, D3, d3, qs, h1, h2, h3, h4, h5, h6, h7⟩ := h
  have hq : i < qs.length := by have := congrArg List.length h5; simp at this; omega
  have hat := AtH.of_nodup h2 hq
  rw [at_of h5 hq hi] at hat
  have := find_any h1 _ i hat.key hq (h3 _ (List.getElem_mem hq))
  rwa [at_of h5 hq hi] at this
theorem remove_s_no (h : Shows w1 lo g a wx) {b : Int × Int} (hb : dropSB a.slots b.1 b.2 = false) : Calls Try.prog 38 #[.pointer (some ⟨g, 0, none⟩), hkey b] wx fun e w' => e = .returned (.bool false) ∧ Kept 0 0 wx w' := by
  have hz := h.size
  obtain ⟨m, D1, d1, D2, d2, D3, d3, qs, h1, h2, h3, h4, h5, h6, h7⟩ := h
  exact remove_no h1 b hz hb
theorem remove_s_yes (h : Shows w1 lo g a wx) {i : Nat} (hi : i < a.list.length) (hb : dropSB a.slots a.list[i].slot a.list[i].age = true) : Calls Try.prog 38 #[.pointer (some ⟨g, 0, none⟩), hkey (hnd a.list[i])] wx fun e w' => e = .returned (.bool true) ∧ Shows w1 lo g (awayA a i) w' ∧ Off offR wx w' := by
  have hz := h.size
  obtain ⟨m, D1, d1, D2, d2, D3, d3, qs, h1, h2, h3, h4, h5, h6, h7⟩ := h
  have hq : i < qs.length := by have := congrArg List.length h5; simp at this; omega
  have hat := AtH.of_nodup h2 hq
  rw [at_of h5 hq hi] at hat
  refine (remove_yes h1 _ i hat rfl h2 (by simpa using h4) hz hb).mono ?_
  rintro e w' ⟨rfl, E1, k1, E2, k2, E3, k3, hd, hbl, hof⟩
  have e1 : (qs.map fun p => hnd p.1).eraseIdx i = (qs.eraseIdx i).map fun p => hnd p.1 := (map_erase _ _ _).symm
  have e2 : (awayA a i).slots = dropST a.slots a.list[i].slot a.list[i].age := by simp [awayA, hi]
  rw [e1] at hd
  refine ⟨rfl, ⟨m, E1, k1, E2, k2, E3, k3, qs.eraseIdx i, by rw [e2]; exact hd, ?_, ?_, ?_, ?_, h6.trans hbl, h7⟩, hof⟩
  · rw [← e1]; exact (List.eraseIdx_sublist _ i).nodup h2
  · exact fun p hp => h3 p ((List.eraseIdx_sublist qs i).subset hp)
  · have := (List.eraseIdx_sublist qs i).length_le; omega
  · rw [map_erase, h5, List.eraseIdx_eq_take_drop_succ]; rfl
theorem Shows.start (o : AftersP a) {m c1 c2 c3 : Nat} {A1 A2 A3 : Option Addr} {ps : List (Aft × Nat)} (h : Dfr wx lo g m A1 c1 A2 c2 A3 c3 a.slots (ps.map fun p => hnd p.1) ps) (he : ps.map Prod.fst = a.list) (hz : lo ≤ wx.heap.size) : Shows wx lo g a wx := by
  obtain ⟨h1, h2, h3⟩ := dfr_facts o he
  exact ⟨m, _, _, _, _, _, _, ps, h, h1, h2, by have := o.len; omega, he, Below.refl _ _, hz⟩
end
/-- Whether the slots drop the handle of a function. -/
theorem drop_of_after {a : Afs} (o : AftersP a) {i : Nat} (hi : i < a.list.length) : dropSB a.slots a.list[i].slot a.list[i].age = decide (a.list[i].age < 1000000) := by
  have h1 := o.each i hi
  rw [aftB_eq] at h1
  simp only [Bool.and_eq_true] at h1
  have h2 : holdsB a.slots.ages a.slots.used a.list[i].slot a.list[i].age = true := h1.1
  obtain ⟨_, k, e, g1, g2, he, _, b1, b2⟩ := holds_yes h2
  unfold dropSB
  rw [h1.1, Bool.true_and]
  by_cases h : a.list[i].age < 1000000
  · rw [decide_eq_true h, decide_eq_true (by omega)]
  · rw [decide_eq_false h, decide_eq_false (by omega)]
end Go.Proofs.Ytnnbfcmbcjkpoaa
