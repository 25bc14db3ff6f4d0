/- On paper: timers that were armed one after the other, some of them stopped or fired; what the law of firing asks of them; no function of the program is named here. -/
import Derived.Test.YtgphakpcenlplaaRb
namespace Go.Proofs.Ytgphakpcenlplaa
open Go.RowKit Go.Sort

/-- Timers that were made in order: the k-th has the Seq k, the Due dues[k], and is armed as lives[k] says. -/
structure Fir (T : Tms) (dues : List Int) (lives : List Bool) : Prop where
  ok : TmsOk T
  next : T.next = dues.length
  len : T.list.length = dues.length
  len' : lives.length = dues.length
  each : ∀ k (hk : k < T.list.length) (h1 : k < dues.length) (h2 : k < lives.length), T.list[k] = ⟨k, dues[k], 2, 3, lives[k]⟩
theorem Fir.zero : Fir zeroT [] [] := ⟨zero_ok, rfl, rfl, rfl, fun k hk => by simp [zeroT] at hk⟩
theorem Fir.okB {T : Tms} {dues : List Int} {lives : List Bool} (h : Fir T dues lives) : timersOkB T = true := timersOk_yes h.ok
theorem Fir.at_ {T : Tms} {dues : List Int} {lives : List Bool} (h : Fir T dues lives) {k : Nat} (hk : k < dues.length) : atL T.list k = some k := by
  have hl := h.len
  have hl' := h.len'
  refine atL_first (by omega) (by rw [h.each k (by omega) hk (by omega)]) ?_
  intro j hj
  rw [h.each j (by omega) (by omega) (by omega)]
  simp only
  omega
/-- Arming one more. -/
theorem Fir.arm {T : Tms} {dues : List Int} {lives : List Bool} (h : Fir T dues lives) (hn : dues.length < 64) (v : Int) : armI T v 2 3 = dues.length ∧ Fir (armL T v 2 3) (dues ++ [v]) (lives ++ [true]) := by
  have hl := h.len
  have hl' := h.len'
  have hx := h.next
  have ha : armOk T v 2 3 = true := by
    rw [armOk_eq T v 2 3 h.ok.next.1, decide_eq_false (by omega), decide_eq_false (by omega)]
    rfl
  have e : armL T v 2 3 = ⟨putL T.heap v T.next, T.list ++ [⟨T.next, v, 2, 3, true⟩], T.next + 1⟩ := by simp [armL, h.okB, ha]
  refine ⟨by simp [armI, h.okB, ha, hx], ?_⟩
  rw [e]
  refine ⟨arm_ok h.ok ha, by simp [hx], by simp [hl], by simp [hl'], ?_⟩
  intro k hk h1 h2
  simp only [List.length_append, List.length_cons, List.length_nil] at hk h1 h2
  rcases Nat.lt_or_ge k dues.length with hlt | hge
  · rw [List.getElem_append_left (by omega), List.getElem_append_left (by omega), List.getElem_append_left (by omega)]
    exact h.each k (by omega) hlt (by omega)
  · obtain rfl : k = dues.length := by omega
    simp [List.getElem_append_right, hl, hl', hx]
/-- Stopping one. -/
theorem Fir.stop {T : Tms} {dues : List Int} {lives : List Bool} (h : Fir T dues lives) {k : Nat} (hk : k < dues.length) (hk' : k < lives.length) : stopB T k = lives[k] ∧ Fir (stopL T k) dues (lives.set k false) := by
  have hl := h.len
  have ha := h.at_ hk
  have hkl : k < T.list.length := by omega
  have e : stopL T k = ⟨withoutL T.heap k, T.list.modify k disarm, T.next⟩ := by simp [stopL, h.okB, stoppedT, ha]
  refine ⟨?_, ?_⟩
  · rw [stopB, h.okB, armedAt_at ha hkl, h.each k hkl hk hk']
    rfl
  · rw [e]
    refine ⟨stop_ok h.ok ha, h.next, by simp [hl], by simp [h.len'], ?_⟩
    intro j hj h1 h2
    simp only [List.length_modify, List.length_set] at hj h2
    simp only [modify_set hkl]
    rw [List.getElem_set, List.getElem_set]
    split
    · rename_i hjk
      subst hjk
      rw [h.each k hkl hk hk']
      rfl
    · exact h.each j hj h1 h2
/-- The root is ahead of every other element. -/
theorem root_first {h : List Tw} {x : Tw} {r : List Tw} (ho : heapOkB h = true) (hx : h = x :: r) {y : Tw} (hy : y ∈ h) : x.due < y.due ∨ (x.due = y.due ∧ x.seq ≤ y.seq) := by
  obtain ⟨h1, h2, h3⟩ := heapOk_iff.1 ho
  have hp := treeOf_pre h3
  have hok := treeOf_ok h3
  cases ht : treeOf h with
  | nil => rw [ht, hx] at hp; cases hp
  | node d s l r' =>
    have hd : (⟨d, s, l.size⟩ : Tw) = x := by
      rw [ht, hx] at hp
      simp only [HTree.pre] at hp
      injection hp
    rw [ht] at hok hp
    obtain ⟨a1, a2, _, a4, a5⟩ := ok_node hok
    have hz : zero y ∈ (HTree.node d s l r').els := by rw [els_pre, hp]; exact List.mem_map.2 ⟨y, hy, rfl⟩
    have hdx : d = x.due := by rw [← hd]
    have hsx : s = x.seq := by rw [← hd]
    simp only [HTree.els, List.mem_cons, List.mem_append] at hz
    rcases hz with e | hz | hz
    · unfold zero at e
      injection e with e1 e2 _
      omega
    · have := ahead_iff.1 (under_all l d s a4 a1 _ hz)
      simp only [zero] at this
      omega
    · have := ahead_iff.1 (under_all r' d s a5 a2 _ hz)
      simp only [zero] at this
      omega
/-- A timer that is armed is in the heap. -/
theorem Fir.inHeap {T : Tms} {dues : List Int} {lives : List Bool} (h : Fir T dues lives) {j : Nat} (hj : j < dues.length) (hj' : j < lives.length) (hl : lives[j] = true) : ∃ y ∈ T.heap, y.due = dues[j] ∧ y.seq = j := by
  have hlen := h.len
  have hjl : j < T.list.length := by omega
  have e := h.each j hjl hj hj'
  have ha : T.list[j].armed = true := by rw [e]; exact hl
  obtain ⟨y, hy, ey⟩ := List.mem_map.1 ((in_heap h.ok hjl).2 ha)
  obtain ⟨x, hx, f1, f2, f3⟩ := h.ok.armed y hy
  obtain ⟨i, hi, rfl⟩ := List.getElem_of_mem hx
  obtain rfl := rise_same h.ok.rise hi hjl (by rw [f1, ey])
  rw [e] at f3 ey
  exact ⟨y, hy, f3.symm, ey⟩
/-- Nothing is fired: nothing that is armed is due. -/
theorem Fir.fired_no {T : Tms} {dues : List Int} {lives : List Bool} (h : Fir T dues lives) {now : Int} (hf : firedB T now = false) (hd : ∀ x ∈ dues, x < 9223372036854775807) : firedL T now = T ∧ ∀ j (hj : j < dues.length) (hj' : j < lives.length), lives[j] = true → now < dues[j] := by
  have hn : firedAt T now = none := by
    cases hc : firedAt T now with
    | none => rfl
    | some k => simp [firedB, h.okB, hc] at hf
  refine ⟨by simp [firedL, h.okB, firedT, hn], ?_⟩
  intro j hj hj' hl
  obtain ⟨y, hy, e1, e2⟩ := h.inHeap hj hj' hl
  cases hh : T.heap with
  | nil => rw [hh] at hy; cases hy
  | cons x r =>
    have hx : x ∈ T.heap := by rw [hh]; simp
    have hr := root_first h.ok.heap hh hy
    obtain ⟨k, hk, _⟩ := root_at h.ok hx
    rw [firedAt, hh] at hn
    simp only at hn
    split at hn
    · rw [hk] at hn; cases hn
    · rename_i hdue
      have hdj := hd _ (List.getElem_mem hj)
      have : ¬ (x.due ≤ now ∧ x.due ≠ 9223372036854775807) := fun ⟨a, b⟩ => hdue (by simp [isDueB, a, b])
      omega
/-- One is fired: the first one of those that are armed, and it is due. -/
theorem Fir.fired_yes {T : Tms} {dues : List Int} {lives : List Bool} (h : Fir T dues lives) {now : Int} (hf : firedB T now = true) :
    ∃ (k : Nat) (hk : k < dues.length) (hk' : k < lives.length), lives[k] = true ∧ firedX T now = ⟨k, dues[k], 2, 3, true⟩ ∧ dues[k] ≤ now ∧ Fir (firedL T now) dues (lives.set k false) ∧
      ∀ j (hj : j < dues.length) (hj' : j < lives.length), lives[j] = true → dues[k] < dues[j] ∨ (dues[k] = dues[j] ∧ k ≤ j) := by
  cases hh : T.heap with
  | nil => simp [firedB, firedAt, hh] at hf
  | cons x r =>
    have hx : x ∈ T.heap := by rw [hh]; simp
    obtain ⟨k, hk, hkl, t1, t2, t3⟩ := root_at h.ok hx
    have hlen := h.len
    have hlen' := h.len'
    have hkd : k < dues.length := by omega
    have hkv : k < lives.length := by omega
    have e := h.each k hkl hkd hkv
    have hdue : isDueB now x.due = true := by
      cases hd : isDueB now x.due
      · simp [firedB, firedAt, hh, hd] at hf
      · rfl
    have fa : firedAt T now = some k := by simp [firedAt, hh, hdue, hk]
    have hxs : x.seq = k := by rw [← t1, e]
    have hxd : x.due = dues[k] := by rw [← t3, e]
    have hlv : lives[k] = true := by rw [e] at t2; exact t2
    refine ⟨k, hkd, hkv, hlv, ?_, ?_, ?_, ?_⟩
    · simp [firedX, h.okB, fa, List.getD, List.getElem?_eq_getElem hkl, e, hlv]
    · simp [isDueB] at hdue
      omega
    · have hs := h.stop hkd hkv
      have e2 : firedL T now = stopL T k := by
        rw [hxs] at hk
        simp only [firedL, h.okB, if_true, firedT, fa, stopL, stoppedT, hk]
        rw [shift_without h.ok.heap hh, hxs]
      rw [e2]
      exact hs.2
    · intro j hj hj' hl
      obtain ⟨y, hy, e1, e2⟩ := h.inHeap hj hj' hl
      have := root_first h.ok.heap hh hy
      omega
end Go.Proofs.Ytgphakpcenlplaa
