/- A map from reasons to slices of int64 in memory: what it holds, a look-up, an entry for an append, its store, and a delete; no condition beyond what each theorem states. -/
import Derived.Test.YtfpnpjpcjbndoaaIl
import Derived.Test.YtfpnpjpcjbndoaaIb
namespace Go.Proofs.Ytfpnpjpcjbndoaa
open Go.RowKit Go.Sort

/-- An entry: its key, where its slice lies, what it reads as, and its stamp. -/
structure WEnt where
  key : Int × Int
  D : Option Addr
  d : Nat
  ks : List Int
  born : Nat
def WEnt.val (e : WEnt) : Value := .slice e.D e.ks.length e.d
def WEnt.trip (e : WEnt) : Value × Value × Nat := (rkey e.key, e.val, e.born)
def trip (x : MapEntry) : Value × Value × Nat := (x.key, x.val, x.born)
/-- Block m is a map with these entries, in this order, each with a stamp of its own. -/
def RMap (w : World) (m : Nat) (E : List WEnt) : Prop := ∃ es clock, w.heap[m]? = some (.map es clock) ∧ es.toList.map trip = E.map WEnt.trip ∧ (∀ e ∈ E, e.born < clock) ∧ (E.map WEnt.born).Nodup
/-- No key is h. -/
def NoK (E : List WEnt) (h : Int × Int) : Prop := ∀ p ∈ E, p.key ≠ h
/-- The first key that is h is number i. -/
def KAt (E : List WEnt) (h : Int × Int) (i : Nat) : Prop := ∃ hi : i < E.length, E[i].key = h ∧ ∀ k (hk : k < i), (E[k]'(by omega)).key ≠ h
theorem k_or (E : List WEnt) (h : Int × Int) : NoK E h ∨ ∃ i, KAt E h i := by
  induction E with
  | nil => exact .inl (by intro p hp; cases hp)
  | cons e r ih =>
    by_cases he : e.key = h
    · exact .inr ⟨0, by simp, by simpa using he, by intro k hk; omega⟩
    · rcases ih with ih | ⟨i, hi, h1, h2⟩
      · refine .inl ?_
        intro p hp
        rcases List.mem_cons.1 hp with rfl | hp
        · exact he
        · exact ih p hp
      · refine .inr ⟨i + 1, by simp; omega, by simpa using h1, ?_⟩
        intro k hk
        cases k with
        | zero => simpa using he
        | succ k => simpa using h2 k (by omega)
section
variable {w w' : World} {m : Nat} {E : List WEnt}
theorem RMap.lt (h : RMap w m E) : m < w.heap.size := by
  obtain ⟨es, clock, hb, _⟩ := h
  exact (Array.getElem?_eq_some_iff.1 hb).1
theorem RMap.made (w : World) : RMap (w.alloc (.map #[] 0)) w.heap.size [] := ⟨#[], 0, (MapKept.heap_alloc w _).1, rfl, by simp, by simp⟩
theorem RMap.block (h : RMap w m E) (e : w'.heap[m]? = w.heap[m]?) : RMap w' m E := by
  obtain ⟨es, clock, hb, he⟩ := h
  exact ⟨es, clock, e.trans hb, he⟩
theorem RMap.kept {lo hi : Nat} (h : RMap w m E) (hk : Kept lo hi w w') (hr : hi ≤ lo ∨ m < lo ∨ hi ≤ m) : RMap w' m E := h.block (hk.block m h.lt (by omega))
theorem RMap.ne (h : RMap w m E) {g t : Nat} {cs : Array Value} (hb : Blk w g t cs) : m ≠ g := by
  rintro rfl
  obtain ⟨es, clock, h1, _⟩ := h
  unfold Blk at hb
  rw [h1] at hb
  cases hb
theorem RMap.row_ne (h : RMap w m E) {lo e k n c : Nat} {D : Option Addr} {xs : List Value} (ho : w.ownsRow lo e k (.slice D n c) n xs) : rowAt D ≠ some m := by
  rcases ho.2 with ⟨hv, _⟩ | ⟨g, cap, cur, hv, hb, hg, _⟩
  · injection hv with h1
    subst h1
    exact by simp [rowAt]
  · injection hv with h1
    subst h1
    obtain ⟨es, clock, h2, _⟩ := h
    intro q
    have : g = m := by simpa [rowAt] using q
    subst this
    rw [h2] at hg
    cases hg
theorem ent_of {es : Array MapEntry} (he : es.toList.map trip = E.map WEnt.trip) {j : Nat} {e : MapEntry} (hj : es.toList[j]? = some e) : ∃ hl : j < E.length, e.key = rkey E[j].key ∧ e.val = E[j].val ∧ e.born = E[j].born := by
  have h1 := congrArg (fun l => l[j]?) he
  simp only [List.getElem?_map, hj, Option.map_some] at h1
  by_cases hl : j < E.length
  · rw [List.getElem?_eq_getElem hl] at h1
    simp only [Option.map_some, Option.some.injEq, trip, WEnt.trip, Prod.mk.injEq] at h1
    exact ⟨hl, h1.1, h1.2.1, h1.2.2⟩
  · rw [List.getElem?_eq_none (by omega)] at h1
    cases h1
theorem ent_at {es : Array MapEntry} (he : es.toList.map trip = E.map WEnt.trip) {j : Nat} (hj : j < E.length) : ∃ e, es.toList[j]? = some e ∧ e.key = rkey E[j].key ∧ e.val = E[j].val ∧ e.born = E[j].born := by
  have hl : es.toList.length = E.length := by simpa using congrArg List.length he
  refine ⟨es.toList[j]'(by omega), List.getElem?_eq_getElem (by omega), ?_⟩
  obtain ⟨_, h1, h2⟩ := ent_of he (List.getElem?_eq_getElem (show j < es.toList.length by omega))
  exact ⟨h1, h2⟩
theorem entkeys {es : Array MapEntry} (he : es.toList.map trip = E.map WEnt.trip) : ∀ e ∈ es.toList, ∃ h, e.key = rkey h := by
  intro e hm
  obtain ⟨j, hj⟩ := List.mem_iff_getElem?.1 hm
  obtain ⟨_, h1, _⟩ := ent_of he hj
  exact ⟨_, h1⟩
theorem rfind_no {es : Array MapEntry} (he : es.toList.map trip = E.map WEnt.trip) {h : Int × Int} (hn : NoK E h) (w : World) : (Instr.findKey 57 (rkey h) es.toList).run Try.prog w = .ok none w := by
  rw [rkey_findKey]
  rcases rkey_find w h es.toList 0 (entkeys he) with ⟨h1, _⟩ | ⟨j, e, _, h2, h3, _⟩
  · exact h1
  · obtain ⟨hl, k1, _⟩ := ent_of he h2
    exact absurd (rkey_inj (k1.symm.trans h3)) (hn _ (List.getElem_mem hl))
theorem rfind_at {es : Array MapEntry} (he : es.toList.map trip = E.map WEnt.trip) {h : Int × Int} {i : Nat} (hk : KAt E h i) (w : World) : ∃ hi : i < E.length, (Instr.findKey 57 (rkey h) es.toList).run Try.prog w = .ok (some (i, E[i].val)) w := by
  obtain ⟨hi, hki, hbef⟩ := hk
  refine ⟨hi, ?_⟩
  rw [rkey_findKey]
  obtain ⟨e, h4, h5, _⟩ := ent_at he hi
  rcases rkey_find w h es.toList 0 (entkeys he) with ⟨_, h2⟩ | ⟨j, e', h1, h2, h3, hb⟩
  · exact absurd (h5.trans (by rw [hki])) (h2 e (List.mem_of_getElem? h4))
  · obtain ⟨hl, k1, k2, _⟩ := ent_of he h2
    have hj : j = i := by
      rcases Nat.lt_trichotomy j i with hlt | heq | hgt
      · exact absurd (rkey_inj (k1.symm.trans h3)) (hbef j hlt)
      · exact heq
      · exact absurd (h5.trans (by rw [hki])) (hb i e hgt h4)
    subst hj
    rw [h1, k2]
    simp
set_option maxRecDepth 100000 in
theorem RMap.look_no (h : RMap w m E) {a : Int × Int} (hn : NoK E a) : (Instr.lookup 53 (.map (some m)) (rkey a) false).run Try.prog w = .ok (.slice none 0 0) w := by
  obtain ⟨es, clock, hb, he, _⟩ := h
  simp [Instr.lookup, run_underlying Try.underlying53, MapKept.run_getObj_map hb, rkey_check, rfind_no he hn, Result.andThen]
set_option maxRecDepth 100000 in
theorem RMap.look_at (h : RMap w m E) {a : Int × Int} {i : Nat} (hk : KAt E a i) (hi : i < E.length) : (Instr.lookup 53 (.map (some m)) (rkey a) false).run Try.prog w = .ok E[i].val w := by
  obtain ⟨es, clock, hb, he, _⟩ := h
  obtain ⟨_, hf⟩ := rfind_at he hk w
  simp [Instr.lookup, run_underlying Try.underlying53, MapKept.run_getObj_map hb, rkey_check, hf, Result.andThen]
set_option maxRecDepth 100000 in
theorem RMap.entry_no (h : RMap w m E) {a : Int × Int} (hn : NoK E a) : ∃ (c : Nat) (w' : World), (Instr.mapEntry 53 (.map (some m)) (rkey a)).run Try.prog w = .ok (.tuple #[.slice none 0 0, goInt c]) w' ∧ RMap w' m (E ++ [⟨a, none, 0, [], c⟩]) ∧ Kept m (m + 1) w w' := by
  obtain ⟨es, clock, hb, he, hs, hd⟩ := h
  refine ⟨clock, { w with heap := w.heap.setIfInBounds m (.map (es.push { key := rkey a, val := .slice none 0 0, born := clock }) (clock + 1)) }, ?_, ?_, ?_⟩
  · simp [Instr.mapEntry, run_underlying Try.underlying53, MapKept.run_getObj_map hb, rkey_check, rfind_no he hn, MapKept.run_setObj_map _ hb, Result.andThen]
  · refine ⟨_, _, (MapKept.heap_set hb).1, ?_, ?_, ?_⟩
    · simp [he, trip, WEnt.trip, WEnt.val]
    · intro e hm
      rcases List.mem_append.1 hm with hm | hm
      · have := hs e hm; omega
      · simp only [List.mem_singleton] at hm
        subst hm
        exact Nat.lt_succ_self _
    · rw [List.map_append, List.nodup_append]
      refine ⟨hd, by simp, ?_⟩
      intro x hx y hy e
      simp at hy
      obtain ⟨p, hp, rfl⟩ := List.mem_map.1 hx
      have := hs p hp
      omega
  · exact ⟨rfl, rfl, rfl, by simp, fun k hk hr => (MapKept.heap_set hb).2 k (by omega)⟩
theorem set_sameL {α : Type} : ∀ (l : List α) (j : Nat) (a : α), l[j]? = some a → l.set j a = l
  | [], _, _, h => by simp at h
  | b :: r, 0, a, h => by simp at h; subst h; rfl
  | b :: r, j + 1, a, h => by simp at h; simp [set_sameL r j a h]
theorem modify_setL {α : Type} (f : α → α) : ∀ (l : List α) (j : Nat) (a : α), l[j]? = some a → l.modify j f = l.set j (f a)
  | [], _, _, h => by simp at h
  | b :: r, 0, a, h => by simp at h; subst h; rfl
  | b :: r, j + 1, a, h => by simp at h; simp [List.modify_succ_cons, modify_setL f r j a h]
set_option maxRecDepth 100000 in
theorem RMap.entry_at (h : RMap w m E) {a : Int × Int} {i : Nat} (hk : KAt E a i) (hi : i < E.length) : ∃ w' : World, (Instr.mapEntry 53 (.map (some m)) (rkey a)).run Try.prog w = .ok (.tuple #[E[i].val, goInt E[i].born]) w' ∧ RMap w' m E ∧ Kept m (m + 1) w w' := by
  obtain ⟨es, clock, hb, he, hs, hd⟩ := h
  obtain ⟨_, hf⟩ := rfind_at he hk w
  obtain ⟨x, hx, k1, k2, k3⟩ := ent_at he hi
  have hj : es[i]? = some x := by simpa using hx
  have ka : x.key = rkey a := by rw [k1, hk.2.1]
  have hsame : es.modify i (fun e => { e with key := rkey a }) = es := by
    apply Array.ext'
    rw [Array.toList_modify, modify_setL _ _ _ _ hx]
    have : ({ x with key := rkey a } : MapEntry) = x := by rw [← ka]
    rw [this]
    exact set_sameL _ _ _ hx
  refine ⟨{ w with heap := w.heap.setIfInBounds m (.map es clock) }, ?_, ⟨es, clock, (MapKept.heap_set hb).1, he, hs, hd⟩, ⟨rfl, rfl, rfl, by simp, fun k hk hr => (MapKept.heap_set hb).2 k (by omega)⟩⟩
  simp [Instr.mapEntry, run_underlying Try.underlying53, MapKept.run_getObj_map hb, rkey_check, hf, hj, ka, k3, rkey_stays, hsame, MapKept.run_setObj_map _ hb, Result.andThen]
theorem findIdx_bornL {l : List MapEntry} (hn : (l.map (·.born)).Nodup) {j : Nat} {e0 : MapEntry} (h : l[j]? = some e0) : l.findIdx? (fun e => ((e.born : Nat) : Int) == ((e0.born : Nat) : Int)) = some j := by
  induction l generalizing j with
  | nil => simp at h
  | cons a r ih =>
    simp only [List.map_cons, List.nodup_cons] at hn
    cases j with
    | zero =>
      simp only [List.getElem?_cons_zero, Option.some.injEq] at h
      subst h
      simp [List.findIdx?_cons]
    | succ j =>
      simp only [List.getElem?_cons_succ] at h
      have hne : a.born ≠ e0.born := fun e1 => hn.1 (List.mem_map.2 ⟨e0, List.mem_of_getElem? h, e1.symm⟩)
      have hb : (((a.born : Nat) : Int) == ((e0.born : Nat) : Int)) = false := by
        simp only [beq_eq_false_iff_ne, ne_eq, Int.natCast_inj]
        exact hne
      rw [List.findIdx?_cons, hb]
      simp [ih hn.2 h]
set_option maxRecDepth 100000 in
theorem RMap.store (h : RMap w m E) {i : Nat} (hi : i < E.length) (D : Option Addr) (d : Nat) (ks : List Int) : ∃ w' : World, (Instr.entryStore 53 (.map (some m)) (goInt E[i].born) (.slice D ks.length d)).run Try.prog w = .ok () w' ∧ RMap w' m (E.set i ⟨E[i].key, D, d, ks, E[i].born⟩) ∧ Kept m (m + 1) w w' := by
  obtain ⟨es, clock, hb, he, hs, hd⟩ := h
  obtain ⟨x, hx, k1, k2, k3⟩ := ent_at he hi
  have hd2 : (es.toList.map (·.born)).Nodup := by
    have := congrArg (fun l => l.map (fun p => p.2.2)) he
    simp only [List.map_map] at this
    have e1 : ((fun p : Value × Value × Nat => p.2.2) ∘ trip) = (·.born) := rfl
    have e2 : ((fun p : Value × Value × Nat => p.2.2) ∘ WEnt.trip) = WEnt.born := rfl
    rw [e1, e2] at this
    rw [this]
    exact hd
  have hidx : es.findIdx? (fun e => ((e.born : Nat) : Int) == ((E[i].born : Nat) : Int)) = some i := by
    have : es.findIdx? (fun e => ((e.born : Nat) : Int) == ((E[i].born : Nat) : Int)) = es.toList.findIdx? (fun e => ((e.born : Nat) : Int) == ((E[i].born : Nat) : Int)) := by cases es; simp
    rw [this, ← k3]
    exact findIdx_bornL hd2 hx
  refine ⟨{ w with heap := w.heap.setIfInBounds m (.map (es.modify i fun e => { e with val := .slice D ks.length d }) clock) }, ?_, ?_, ⟨rfl, rfl, rfl, by simp, fun k hk hr => (MapKept.heap_set hb).2 k (by omega)⟩⟩
  · simp [Instr.entryStore, MapKept.run_getObj_map hb, asInt, asIntOf, goInt, hidx, MapKept.run_setObj_map _ hb, Result.andThen]
  · refine ⟨_, _, (MapKept.heap_set hb).1, ?_, ?_, ?_⟩
    · rw [Array.toList_modify, modify_setL _ _ _ _ hx, List.map_set, he, List.map_set]
      simp [trip, WEnt.trip, WEnt.val, k1, k3]
    · intro e hm
      rcases List.mem_or_eq_of_mem_set hm with hm | rfl
      · exact hs e hm
      · exact hs E[i] (List.getElem_mem hi)
    · have : (E.set i ⟨E[i].key, D, d, ks, E[i].born⟩).map WEnt.born = E.map WEnt.born := by
        rw [List.map_set]
        exact set_sameL _ _ _ (by simp [hi])
      rw [this]
      exact hd
set_option maxRecDepth 100000 in
theorem RMap.del (h : RMap w m E) (a : Int × Int) (ty : TypeId) : ∃ w', (Builtin.delete_ #[53, 57] ty #[.map (some m), rkey a]).run Try.prog w = .ok (.tuple #[]) w' ∧ Kept m (m + 1) w w' := by
  obtain ⟨es, clock, hb, he, _⟩ := h
  rcases k_or E a with hn | ⟨i, hk⟩
  · refine ⟨{ w with heap := w.heap.setIfInBounds m (.map es clock) }, ?_, ⟨rfl, rfl, rfl, by simp, fun k hk hr => (MapKept.heap_set hb).2 k (by omega)⟩⟩
    simp [Builtin.delete_, run_underlying Try.underlying53, MapKept.run_getObj_map hb, rkey_check, rfind_no he hn, MapKept.run_setObj_map _ hb, Result.andThen]
  · obtain ⟨hi, hf⟩ := rfind_at he hk w
    refine ⟨{ w with heap := w.heap.setIfInBounds m (.map (es.eraseIdxIfInBounds i) clock) }, ?_, ⟨rfl, rfl, rfl, by simp, fun k hk hr => (MapKept.heap_set hb).2 k (by omega)⟩⟩
    simp [Builtin.delete_, run_underlying Try.underlying53, MapKept.run_getObj_map hb, rkey_check, hf, MapKept.run_setObj_map _ hb, Result.andThen]
end
end Go.Proofs.Ytfpnpjpcjbndoaa
