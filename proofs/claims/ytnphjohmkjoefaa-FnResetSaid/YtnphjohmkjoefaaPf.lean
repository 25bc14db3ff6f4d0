/- The program's test on number and Seqs of elements (by a map of those seen), and the library's Clone, Grow and Concat at slices of elements; no condition beyond that the slices can be read (Concat: together at most 100000 elements). -/
import Derived.Test.YtnphjohmkjoefaaLv
import Derived.Maps.OwnOps
import Derived.MapKept
import Derived.Lib.AppendZerosOnto
namespace Go.Proofs.Ytnphjohmkjoefaa
open Go.RowKit Go.Sort

/-- Block b is a map from these numbers to true. -/
def SetIn (w : World) (b : Nat) (qs : List Int) : Prop := ∃ es clock, w.heap[b]? = some (.map es clock) ∧ (es.toList.map fun e => (e.key, e.val)) = qs.map fun q => (Value.int .i64 q, Value.bool true)
section
variable {w w' : World} {b : Nat} {qs : List Int}
theorem SetIn.lt (h : SetIn w b qs) : b < w.heap.size := by
  obtain ⟨es, clock, hb, _⟩ := h
  exact (Array.getElem?_eq_some_iff.1 hb).1
theorem SetIn.made (w : World) : SetIn (w.alloc (.map #[] 0)) w.heap.size [] := ⟨#[], 0, (MapKept.heap_alloc w _).1, rfl⟩
theorem SetIn.kept {lo hi : Nat} (h : SetIn w b qs) (hk : Kept lo hi w w') (hr : hi ≤ lo ∨ b < lo ∨ hi ≤ b) : SetIn w' b qs := by
  have hlt := h.lt
  obtain ⟨es, clock, hb, he⟩ := h
  exact ⟨es, clock, (hk.block b hlt (by omega)).trans hb, he⟩
theorem SetIn.keys {es : Array MapEntry} (he : (es.toList.map fun e => (e.key, e.val)) = qs.map fun q => (Value.int .i64 q, Value.bool true)) : ∀ e ∈ es.toList, ∃ q ∈ qs, e.key = .int .i64 q ∧ e.val = .bool true := by
  intro e hm
  have : (e.key, e.val) ∈ es.toList.map fun e => (e.key, e.val) := List.mem_map_of_mem (f := fun e : MapEntry => (e.key, e.val)) hm
  rw [he, List.mem_map] at this
  obtain ⟨q, hq, h⟩ := this
  injection h with h1 h2
  exact ⟨q, hq, h1.symm, h2.symm⟩
theorem SetIn.has {es : Array MapEntry} (he : (es.toList.map fun e => (e.key, e.val)) = qs.map fun q => (Value.int .i64 q, Value.bool true)) {q : Int} (hq : q ∈ qs) : ∃ e ∈ es.toList, e.key = .int .i64 q := by
  have : (Value.int .i64 q, Value.bool true) ∈ qs.map fun q => (Value.int .i64 q, Value.bool true) := List.mem_map_of_mem (f := fun q => (Value.int .i64 q, Value.bool true)) hq
  rw [← he, List.mem_map] at this
  obtain ⟨e, hm, h⟩ := this
  injection h with h1 h2
  exact ⟨e, hm, h1⟩
theorem isKeyI (q : Int) : MapKept.IsKey (.int .i64) (.int .i64 q) := rfl
set_option maxRecDepth 100000 in
theorem SetIn.look (h : SetIn w b qs) (q : Int) : (Instr.lookup 108 (.map (some b)) (.int .i64 q) false).run Try.prog w = .ok (.bool (decide (q ∈ qs))) w := by
  obtain ⟨es, clock, hb, he⟩ := h
  have hks : ∀ x ∈ es.toList, MapKept.IsKey (.int .i64) x.key := fun x hx => by obtain ⟨q, _, h1, _⟩ := SetIn.keys he x hx; rw [h1]; rfl
  rcases MapKept.findNow_spec (isKeyI q) es.toList 0 hks with ⟨h1, h2⟩ | ⟨j, e, h1, h2, h3⟩
  · have hno : q ∉ qs := fun hq => by obtain ⟨e, hm, hk⟩ := SetIn.has he hq; exact h2 e hm hk
    rw [decide_eq_false hno]
    simp [Instr.lookup, run_underlying Try.underlying108, MapKept.run_getObj_map hb, MapKept.run_checkKey Try.underlying2 (isKeyI q), MapKept.run_findKey Try.underlying2 h1, Result.andThen]
  · have hm : e ∈ es.toList := List.mem_of_getElem? h2
    obtain ⟨q', hq, k1, k2⟩ := SetIn.keys he e hm
    rw [h3] at k1
    injection k1 with _ k1
    subst k1
    rw [decide_eq_true hq]
    simp [Instr.lookup, run_underlying Try.underlying108, MapKept.run_getObj_map hb, MapKept.run_checkKey Try.underlying2 (isKeyI q), MapKept.run_findKey Try.underlying2 h1, k2, Result.andThen]
set_option maxRecDepth 100000 in
theorem SetIn.put (h : SetIn w b qs) {q : Int} (hq : q ∉ qs) : ∃ w', (Instr.mapUpdate 108 (.map (some b)) (.int .i64 q) (.bool true)).run Try.prog w = .ok () w' ∧ SetIn w' b (qs ++ [q]) ∧ Kept b (b + 1) w w' := by
  obtain ⟨es, clock, hb, he⟩ := h
  have hks : ∀ x ∈ es.toList, MapKept.IsKey (.int .i64) x.key := fun x hx => by obtain ⟨q, _, h1, _⟩ := SetIn.keys he x hx; rw [h1]; rfl
  rcases MapKept.findNow_spec (isKeyI q) es.toList 0 hks with ⟨h1, h2⟩ | ⟨j, e, h1, h2, h3⟩
  · refine ⟨{ w with heap := w.heap.setIfInBounds b (.map (es.push { key := .int .i64 q, val := .bool true, born := clock }) (clock + 1)) }, ?_, ?_, ?_⟩
    · simp [Instr.mapUpdate, run_underlying Try.underlying108, MapKept.run_getObj_map hb, MapKept.run_checkKey Try.underlying2 (isKeyI q), MapKept.run_findKey Try.underlying2 h1, MapKept.run_setObj_map _ hb, Result.andThen]
    · exact ⟨_, _, (MapKept.heap_set hb).1, by simp [he]⟩
    · exact ⟨rfl, rfl, rfl, by simp, fun k hk hr => (MapKept.heap_set hb).2 k (by omega)⟩
  · have hm : e ∈ es.toList := List.mem_of_getElem? h2
    obtain ⟨q', hq', k1, k2⟩ := SetIn.keys he e hm
    rw [h3] at k1
    injection k1 with _ k1
    subst k1
    exact absurd hq' hq
end
theorem wpList_look {P : Program} (w : World) {ops : Array Oper} {rest : List Oper} {o : Oper} {a : Act} {Q : Exit → Act → World → Prop} (hg : o.guard = none) (m x : Operand) (t : TypeId) (hop : o.op = Op.lookup t m x false)
    (vm vx v : Value) (hm : a.eval m = vm) (hx : a.eval x = vx) (hrun : (Instr.lookup t vm vx false).run P w = .ok v w) (hK : wpList P ops Q rest (a.put o.dst v) w) : wpList P ops Q (o :: rest) a w := by
  refine wpList_plain hg fun K' hK' => ?_
  unfold Oper.wp
  simp [execOp, hop, hm, hx, hrun, Result.andThen]
  exact hK' _ _ hK
theorem wpList_put {P : Program} (w w' : World) {ops : Array Oper} {rest : List Oper} {o : Oper} {a : Act} {Q : Exit → Act → World → Prop} (hg : o.guard = none) (m x v : Operand) (t : TypeId) (hop : o.op = Op.mapUpdate t m x v)
    (vm vx vv : Value) (hm : a.eval m = vm) (hx : a.eval x = vx) (hv : a.eval v = vv) (hrun : (Instr.mapUpdate t vm vx vv).run P w = .ok () w') (hK : wpList P ops Q rest (a.put o.dst undef) w') : wpList P ops Q (o :: rest) a w := by
  refine wpList_plain hg fun K' hK' => ?_
  unfold Oper.wp
  simp [execOp, hop, hm, hx, hv, hrun, Result.andThen]
  exact hK' _ _ hK

/-- As many as there may be, and no Seq twice. -/
def fitB (xs : List Tw) : Bool := decide (xs.length ≤ 64) && !twiceB xs
theorem nodup_take {xs : List Tw} {k : Nat} (h : ((xs.take k).map Tw.seq).Nodup) (hk : k < xs.length) (hq : xs[k].seq ∉ (xs.take k).map Tw.seq) : ((xs.take (k + 1)).map Tw.seq).Nodup := by
  rw [List.take_succ_eq_append_getElem hk, List.map_append, List.nodup_append]
  refine ⟨h, by simp, ?_⟩
  intro a ha b hb e
  simp at hb
  subst hb
  subst e
  exact hq ha
theorem not_nodup {xs : List Tw} {k : Nat} (hk : k < xs.length) (hq : xs[k].seq ∈ (xs.take k).map Tw.seq) : twiceB xs = true := by
  rw [List.mem_map] at hq
  obtain ⟨x, hx, e⟩ := hq
  obtain ⟨j, hj, rfl⟩ := List.mem_take_iff_getElem.1 hx
  exact twice_yes (a := k) (b := j) hk (by omega) e.symm

set_option maxHeartbeats 800000 in
set_option maxRecDepth 100000 in
theorem fit_any (xs : List Tw) (v : Value) (w : World) (h : RdT w w.heap.size v xs) :
    Calls Try.prog 61 #[v] w fun e w' => e = .returned (.bool (fitB xs)) ∧ Kept 0 0 w w' := by
  obtain ⟨A, c, rfl, h⟩ := h
  have hm := h.rd.1
  unfold maxLen at hm
  have H := Lib.hid h
  clear h
  by_cases hl : xs.length ≤ 64
  · have E : Hid (fitB xs = !twiceB xs) := by show _ = _; simp [fitB, hl]
    have hl' : (xs.length : Int) ≤ 64 := by omega
    have hmm := @run_makeMap Try.prog
    go_enter Try.func61, Try.ntmps61
    go_wp2
    obtain ⟨V, hV⟩ : ∃ V, V = w.alloc (.map #[] 0) := ⟨_, rfl⟩
    have SV : Hid (SetIn V w.heap.size []) := by show SetIn _ _ _; rw [hV]; exact SetIn.made w
    have KV : Hid (Kept 0 0 w V) := by show Kept _ _ _ _; rw [hV]; exact Kept.alloc0 _ _
    rw [← hV]
    clear hV
    go_loopw [12] (fun i wr => ∃ k : Nat, k ≤ xs.length ∧ i = .int .i64 k ∧ Hid (SetIn wr w.heap.size ((xs.take k).map Tw.seq)) ∧ Hid (((xs.take k).map Tw.seq).Nodup) ∧ Hid (Kept 0 0 w wr)) (fun i _ => xs.length - (intOf i).toNat)
    case atStart => exact ⟨0, Nat.zero_le _, rfl, SV, Lib.hid (by simp), KV⟩
    case round =>
      clear SV KV
      obtain ⟨k, hk, rfl, HS, HN, HK⟩ := hrel
      by_cases hlt : k < xs.length
      · have i1 : (k : Int) < (xs.length : Int) := by omega
        have R := Lib.hid (H.out.rd.kept (Nat.le_refl _) HK.out (.inl (Nat.le_refl _)))
        obtain ⟨ad, e1, _, c0, c1, c2⟩ := R.out.tw hlt
        subst e1
        obtain ⟨V2, hV2⟩ : ∃ V2, V2 = wr.alloc (.cells #[.int .i64 xs[k].due, .int .i64 xs[k].seq, .int .i64 xs[k].lefts] 77) := ⟨_, rfl⟩
        have K2 : Hid (Kept 0 0 wr V2) := by show Kept _ _ _ _; rw [hV2]; exact Kept.alloc0 _ _
        have S2 := Lib.hid (HS.out.kept K2.out (.inl (Nat.le_refl _)))
        have L2 := Lib.hid (S2.out.look xs[k].seq)
        by_cases hq : xs[k].seq ∈ (xs.take k).map Tw.seq
        · have E2 : Hid (fitB xs = false) := by show _ = _; rw [E.out, not_nodup hlt hq]; rfl
          have LK := Lib.hid ((show _ = _ from L2.out).trans (by rw [decide_eq_true hq]))
          rw [hV2] at LK
          clear hq L2 hV2
          go_wp2_with (at_lookup; refine wpList_look _ rfl _ _ _ rfl _ _ _ rfl rfl LK.out ?_)
          go_ret
          exact ⟨ret_bool E2.out.symm, HK.out.alloc _⟩
        · have LK := Lib.hid ((show _ = _ from L2.out).trans (by rw [decide_eq_false hq]))
          obtain ⟨w3, hp, s3, k3⟩ := S2.out.put hq
          have PU := Lib.hid hp
          have HS3 : Hid (SetIn w3 w.heap.size ((xs.take (k + 1)).map Tw.seq)) := by
            show SetIn _ _ _
            rw [List.take_succ_eq_append_getElem hlt, List.map_append]
            exact s3
          have HN3 := Lib.hid (nodup_take HN.out hlt hq)
          have HK3 := Lib.hid ((HK.out.trans K2.out).trans2 k3 (.inr (Nat.le_refl _)))
          rw [hV2] at LK PU
          clear hq L2 hV2 hp s3 k3
          go_wp2_with (first | (at_lookup; refine wpList_look _ rfl _ _ _ rfl _ _ _ rfl rfl LK.out ?_) | (at_mapUpdate; refine wpList_put _ _ rfl _ _ _ _ rfl _ _ _ rfl rfl rfl PU.out ?_))
          go_roundw
          case rel => exact ⟨k + 1, by omega, by go_num, HS3, HN3, HK3⟩
          case measure => simp [intOf]; omega
      · have E2 : Hid (fitB xs = true) := by
          show _ = _
          rw [E.out]
          have := HN.out
          rw [List.take_of_length_le (by omega)] at this
          simp [twiceB, this]
        go_wp2
        go_ret
        exact ⟨ret_bool E2.out.symm, HK.out⟩
  · have E : Hid (fitB xs = false) := by show _ = _; simp [fitB, hl]
    have hl' : (64 : Int) < (xs.length : Int) := by omega
    clear hl
    go_enter Try.func61, Try.ntmps61
    go_wp2
    go_ret
    exact ⟨ret_bool E.out.symm, Kept.refl _ _ _⟩
end Go.Proofs.Ytnphjohmkjoefaa
