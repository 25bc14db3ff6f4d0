/- A map from handles to functions in memory: what it holds, a look-up, a store of a new key and a delete, at the operation; no condition beyond what each theorem states. -/
import Derived.Test.YtnnbfcmbcjkpoaaCm
namespace Go.Proofs.Ytnnbfcmbcjkpoaa
open Go.RowKit Go.Sort

/-- Block m is a map from these handles to these values, in this order. -/
def MapAt (w : World) (m : Nat) (kvs : List ((Int × Int) × Value)) : Prop := ∃ es clock, w.heap[m]? = some (.map es clock) ∧ (es.toList.map fun e => (e.key, e.val)) = kvs.map fun p => (hkey p.1, p.2)
theorem map_erase {α β : Type} (f : α → β) : ∀ (l : List α) (i : Nat), (l.eraseIdx i).map f = (l.map f).eraseIdx i
  | [], _ => by simp
  | _ :: _, 0 => by simp
  | x :: l, i + 1 => by simp [map_erase f l i]
section
variable {w w' : World} {m : Nat} {kvs : List ((Int × Int) × Value)}
theorem MapAt.lt (h : MapAt w m kvs) : m < w.heap.size := by
  obtain ⟨es, clock, hb, _⟩ := h
  exact (Array.getElem?_eq_some_iff.1 hb).1
theorem MapAt.made (w : World) : MapAt (w.alloc (.map #[] 0)) w.heap.size [] := ⟨#[], 0, (MapKept.heap_alloc w _).1, rfl⟩
theorem MapAt.block (h : MapAt w m kvs) (e : w'.heap[m]? = w.heap[m]?) : MapAt w' m kvs := by
  obtain ⟨es, clock, hb, he⟩ := h
  exact ⟨es, clock, e.trans hb, he⟩
theorem MapAt.kept {lo hi : Nat} (h : MapAt w m kvs) (hk : Kept lo hi w w') (hr : hi ≤ lo ∨ m < lo ∨ hi ≤ m) : MapAt w' m kvs := h.block (hk.block m h.lt (by omega))
theorem MapAt.ne (h : MapAt w m kvs) {g t : Nat} {cs : Array Value} (hb : Blk w g t cs) : m ≠ g := by
  rintro rfl
  obtain ⟨es, clock, h1, _⟩ := h
  unfold Blk at hb
  rw [h1] at hb
  cases hb
theorem entry_of {es : Array MapEntry} (he : (es.toList.map fun e => (e.key, e.val)) = kvs.map fun p => (hkey p.1, p.2)) {j : Nat} {e : MapEntry} (hj : es.toList[j]? = some e) : ∃ hl : j < kvs.length, e.key = hkey kvs[j].1 ∧ e.val = kvs[j].2 := by
  have h1 := congrArg (fun l => l[j]?) he
  simp only [List.getElem?_map, hj, Option.map_some] at h1
  by_cases hl : j < kvs.length
  · rw [List.getElem?_eq_getElem hl] at h1
    simp only [Option.map_some, Option.some.injEq, Prod.mk.injEq] at h1
    exact ⟨hl, h1.1, h1.2⟩
  · rw [List.getElem?_eq_none (by omega)] at h1
    cases h1
theorem entry_at {es : Array MapEntry} (he : (es.toList.map fun e => (e.key, e.val)) = kvs.map fun p => (hkey p.1, p.2)) {j : Nat} (hj : j < kvs.length) : ∃ e, es.toList[j]? = some e ∧ e.key = hkey kvs[j].1 ∧ e.val = kvs[j].2 := by
  have hl : es.toList.length = kvs.length := by simpa using congrArg List.length he
  refine ⟨es.toList[j]'(by omega), List.getElem?_eq_getElem (by omega), ?_⟩
  obtain ⟨_, h1, h2⟩ := entry_of he (List.getElem?_eq_getElem (show j < es.toList.length by omega))
  exact ⟨h1, h2⟩
theorem keys_of {es : Array MapEntry} (he : (es.toList.map fun e => (e.key, e.val)) = kvs.map fun p => (hkey p.1, p.2)) : ∀ e ∈ es.toList, ∃ h, e.key = hkey h := by
  intro e hm
  obtain ⟨j, hj⟩ := List.mem_iff_getElem?.1 hm
  obtain ⟨_, h1, _⟩ := entry_of he hj
  exact ⟨_, h1⟩
/-- No key is h. -/
def NoKey (kvs : List ((Int × Int) × Value)) (h : Int × Int) : Prop := ∀ p ∈ kvs, p.1 ≠ h
/-- The first key that is h is number i. -/
def KeyAt (kvs : List ((Int × Int) × Value)) (h : Int × Int) (i : Nat) : Prop := ∃ hi : i < kvs.length, kvs[i].1 = h ∧ ∀ k (hk : k < i), (kvs[k]'(by omega)).1 ≠ h
theorem find_no {es : Array MapEntry} (he : (es.toList.map fun e => (e.key, e.val)) = kvs.map fun p => (hkey p.1, p.2)) {h : Int × Int} (hn : NoKey kvs h) (w : World) : (Instr.findKey 40 (hkey h) es.toList).run Try.prog w = .ok none w := by
  rw [hkey_findKey]
  rcases hkey_find w h es.toList 0 (keys_of he) with ⟨h1, _⟩ | ⟨j, e, _, h2, h3, _⟩
  · exact h1
  · obtain ⟨hl, k1, _⟩ := entry_of he h2
    exact absurd (hkey_inj (k1.symm.trans h3)) (hn _ (List.getElem_mem hl))
theorem find_at {es : Array MapEntry} (he : (es.toList.map fun e => (e.key, e.val)) = kvs.map fun p => (hkey p.1, p.2)) {h : Int × Int} {i : Nat} (hk : KeyAt kvs h i) (w : World) : ∃ hi : i < kvs.length, (Instr.findKey 40 (hkey h) es.toList).run Try.prog w = .ok (some (i, kvs[i].2)) w := by
  obtain ⟨hi, hki, hbef⟩ := hk
  refine ⟨hi, ?_⟩
  rw [hkey_findKey]
  obtain ⟨e, h4, h5, _⟩ := entry_at he hi
  rcases hkey_find w h es.toList 0 (keys_of he) with ⟨_, h2⟩ | ⟨j, e', h1, h2, h3, hb⟩
  · exact absurd (h5.trans (by rw [hki])) (h2 e (List.mem_of_getElem? h4))
  · obtain ⟨hl, k1, k2⟩ := entry_of he h2
    have hj : j = i := by
      rcases Nat.lt_trichotomy j i with hlt | heq | hgt
      · exact absurd (hkey_inj (k1.symm.trans h3)) (hbef j hlt)
      · exact heq
      · exact absurd (h5.trans (by rw [hki])) (hb i e hgt h4)
    subst hj
    rw [h1, k2]
    simp
set_option maxRecDepth 100000 in
theorem MapAt.look_no (h : MapAt w m kvs) {a : Int × Int} (hn : NoKey kvs a) : (Instr.lookup 75 (.map (some m)) (hkey a) false).run Try.prog w = .ok .nilFunc w := by
  obtain ⟨es, clock, hb, he⟩ := h
  simp [Instr.lookup, run_underlying Try.underlying75, MapKept.run_getObj_map hb, hkey_check, find_no he hn, Result.andThen]
set_option maxRecDepth 100000 in
theorem MapAt.look_at (h : MapAt w m kvs) {a : Int × Int} {i : Nat} (hk : KeyAt kvs a i) (hi : i < kvs.length) : (Instr.lookup 75 (.map (some m)) (hkey a) false).run Try.prog w = .ok kvs[i].2 w := by
  obtain ⟨es, clock, hb, he⟩ := h
  obtain ⟨_, hf⟩ := find_at he hk w
  simp [Instr.lookup, run_underlying Try.underlying75, MapKept.run_getObj_map hb, hkey_check, hf, Result.andThen]
set_option maxRecDepth 100000 in
theorem MapAt.put (h : MapAt w m kvs) {a : Int × Int} (hn : NoKey kvs a) (v : Value) : ∃ w', (Instr.mapUpdate 75 (.map (some m)) (hkey a) v).run Try.prog w = .ok () w' ∧ MapAt w' m (kvs ++ [(a, v)]) ∧ Kept m (m + 1) w w' := by
  obtain ⟨es, clock, hb, he⟩ := h
  refine ⟨{ w with heap := w.heap.setIfInBounds m (.map (es.push { key := hkey a, val := v, born := clock }) (clock + 1)) }, ?_, ?_, ?_⟩
  · simp [Instr.mapUpdate, run_underlying Try.underlying75, MapKept.run_getObj_map hb, hkey_check, find_no he hn, MapKept.run_setObj_map _ hb, Result.andThen]
  · exact ⟨_, _, (MapKept.heap_set hb).1, by simp [he]⟩
  · exact ⟨rfl, rfl, rfl, by simp, fun k hk hr => (MapKept.heap_set hb).2 k (by omega)⟩
set_option maxRecDepth 100000 in
theorem MapAt.del (h : MapAt w m kvs) {a : Int × Int} {i : Nat} (hk : KeyAt kvs a i) (ty : TypeId) : ∃ w', (Builtin.delete_ #[75, 40] ty #[.map (some m), hkey a]).run Try.prog w = .ok (.tuple #[]) w' ∧ MapAt w' m (kvs.eraseIdx i) ∧ Kept m (m + 1) w w' := by
  obtain ⟨es, clock, hb, he⟩ := h
  obtain ⟨hi, hf⟩ := find_at he hk w
  have hl : es.toList.length = kvs.length := by simpa using congrArg List.length he
  have hi2 : i < es.size := by simpa using (show i < es.toList.length by omega)
  refine ⟨{ w with heap := w.heap.setIfInBounds m (.map (es.eraseIdxIfInBounds i) clock) }, ?_, ?_, ?_⟩
  · simp [Builtin.delete_, run_underlying Try.underlying75, MapKept.run_getObj_map hb, hkey_check, hf, MapKept.run_setObj_map _ hb, Result.andThen]
  · refine ⟨_, _, (MapKept.heap_set hb).1, ?_⟩
    rw [Array.eraseIdxIfInBounds, dif_pos hi2]
    simp only [Array.toList_eraseIdx]
    rw [map_erase, he, map_erase]
  · exact ⟨rfl, rfl, rfl, by simp, fun k hk hr => (MapKept.heap_set hb).2 k (by omega)⟩
end
theorem wpList_lookM {P : Program} (w : World) {ops : Array Oper} {rest : List Oper} {o : Oper} {a : Act} {Q : Exit → Act → World → Prop} (hg : o.guard = none) (m x : Operand) (t : TypeId) (hop : o.op = Op.lookup t m x false)
    (vm vx v : Value) (hm : a.eval m = vm) (hx : a.eval x = vx) (hrun : (Instr.lookup t vm vx false).run P w = .ok v w) (hK : wpList P ops Q rest (a.put o.dst v) w) : wpList P ops Q (o :: rest) a w := by
  refine wpList_plain hg fun K' hK' => ?_
  unfold Oper.wp
  simp [execOp, hop, hm, hx, hrun, Result.andThen]
  exact hK' _ _ hK
theorem wpList_putM {P : Program} (w w' : World) {ops : Array Oper} {rest : List Oper} {o : Oper} {a : Act} {Q : Exit → Act → World → Prop} (hg : o.guard = none) (m x v : Operand) (t : TypeId) (hop : o.op = Op.mapUpdate t m x v)
    (vm vx vv : Value) (hm : a.eval m = vm) (hx : a.eval x = vx) (hv : a.eval v = vv) (hrun : (Instr.mapUpdate t vm vx vv).run P w = .ok () w') (hK : wpList P ops Q rest (a.put o.dst undef) w') : wpList P ops Q (o :: rest) a w := by
  refine wpList_plain hg fun K' hK' => ?_
  unfold Oper.wp
  simp [execOp, hop, hm, hx, hv, hrun, Result.andThen]
  exact hK' _ _ hK
end Go.Proofs.Ytnnbfcmbcjkpoaa
