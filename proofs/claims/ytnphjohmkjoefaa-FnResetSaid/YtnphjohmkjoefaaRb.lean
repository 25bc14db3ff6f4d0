/- On paper: what the plain functions of timers make of valid timers is valid; no function of the program is named here. -/
/- On paper: what the law of resetting asks of the plain functions of timers; no function of the program is named here. -/
import Derived.Test.YtnphjohmkjoefaaQm
namespace Go.Proofs.Ytnphjohmkjoefaa
open Go.RowKit Go.Sort

/-- The elements of a heap without the one of a Seq. -/
theorem wl_els {h : List Tw} {q : Int} (ho : heapOkB h = true) : ((withoutL h q).map zero).Perm ((h.map zero).filter fun x => decide (x.seq ≠ q)) ∧ heapOkB (withoutL h q) = true := by
  obtain ⟨h1, h2, h3⟩ := heapOk_iff.1 ho
  have hp := treeOf_pre h3
  have hok := treeOf_ok h3
  have hu : uniq (treeOf h) := uniq_pre (by rw [hp]; exact h2)
  have he := without_els (treeOf h) q hok hu
  have hw : (withoutL h q).map zero = (withoutT (treeOf h) q).1.els ∧ (withoutL h q) = (withoutT (treeOf h) q).1.pre := by
    rw [withoutL, ho, if_pos rfl]
    cases hb : (withoutT (treeOf h) q).2
    · have hn := without_not (treeOf h) q hok (fun x hx e => by
        have := (without_found (treeOf h) q).2 ⟨x, hx, e⟩
        rw [hb] at this
        cases this)
      rw [if_neg (by simp), hn]
      exact ⟨by rw [els_pre, hp], hp.symm⟩
    · rw [if_pos rfl]
      exact ⟨by rw [els_pre], rfl⟩
  refine ⟨?_, ?_⟩
  · rw [hw.1]
    have : h.map zero = (treeOf h).els := by rw [els_pre, hp]
    rw [this]
    exact he
  · rw [hw.2]
    refine heapOk_of (without_ok _ _ hok hu) ?_ ?_
    · unfold uniq at hu ⊢
      rw [List.Perm.nodup_iff (he.map Tw.seq)]
      exact List.Nodup.sublist (List.Sublist.map _ List.filter_sublist) hu
    · have := without_size_le (treeOf h) q hok hu
      have hsz : (treeOf h).size = h.length := by rw [← HTree.pre_len, hp]
      omega
theorem wl_mem {h : List Tw} {q : Int} (ho : heapOkB h = true) {y : Tw} (hy : y ∈ withoutL h q) : y.seq ≠ q ∧ ∃ z ∈ h, z.due = y.due ∧ z.seq = y.seq := by
  have := (wl_els (q := q) ho).1.mem_iff.1 (List.mem_map.2 ⟨y, hy, rfl⟩)
  obtain ⟨h1, h2⟩ := List.mem_filter.1 this
  obtain ⟨z, hz, e⟩ := List.mem_map.1 h1
  unfold zero at e
  injection e with e1 e2 _
  exact ⟨of_decide_eq_true h2, z, hz, e1, e2⟩
theorem wl_len {h : List Tw} {q : Int} (ho : heapOkB h = true) : (withoutL h q).length = (h.filter fun x => decide (x.seq ≠ q)).length := by
  have := (wl_els (q := q) ho).1.length_eq
  rw [List.length_map] at this
  rw [this, List.filter_map, List.length_map]
  congr 1
/-- How many are left without one Seq. -/
theorem filter_one {h : List Tw} (hn : (h.map Tw.seq).Nodup) (q : Int) : (h.filter fun x => decide (x.seq ≠ q)).length + (if q ∈ h.map Tw.seq then 1 else 0) = h.length := by
  induction h with
  | nil => simp
  | cons x r ih =>
    rw [List.map_cons, List.nodup_cons] at hn
    have ih := ih hn.2
    by_cases hx : x.seq = q
    · have hq : q ∉ r.map Tw.seq := by rw [← hx]; exact hn.1
      rw [if_neg hq] at ih
      simp [hx]
      simpa using ih
    · have hx' : ¬ q = x.seq := fun e => hx e.symm
      simp only [List.filter_cons, hx, ne_eq, not_false_eq_true, decide_true, if_true, List.map_cons, List.mem_cons, hx', false_or, List.length_cons]
      simp only [ne_eq] at ih
      omega
/-- In valid timers the heap has a Seq just when its timer is armed. -/
theorem in_heap {T : Tms} (o : TmsOk T) {k : Nat} (hk : k < T.list.length) : T.list[k].seq ∈ T.heap.map Tw.seq ↔ T.list[k].armed = true := by
  constructor
  · intro hm
    obtain ⟨y, hy, e⟩ := List.mem_map.1 hm
    obtain ⟨x, hx, e1, e2, _⟩ := o.armed y hy
    obtain ⟨j, hj, rfl⟩ := List.getElem_of_mem hx
    obtain rfl := rise_same o.rise hj hk (by rw [e1, e])
    exact e2
  · intro ha
    have hp := treeOf_pre (heapOk_iff.1 o.heap).2.2
    have hA := cover (T.heap.map Tw.seq) ((T.list.filter fun x => x.armed).map Tm.seq) (heap_nd o.heap) ?_ (by simp only [List.length_map]; exact Nat.le_of_eq o.count) T.list[k].seq (List.mem_map.2 ⟨_, List.mem_filter.2 ⟨List.getElem_mem hk, ha⟩, rfl⟩)
    · exact hA
    · intro a ha
      obtain ⟨y, hy, rfl⟩ := List.mem_map.1 ha
      obtain ⟨x', hx', e1, e2, e3⟩ := o.armed y hy
      exact List.mem_map.2 ⟨x', List.mem_filter.2 ⟨hx', e2⟩, e1⟩
theorem armedN_set {l : List Tm} {k : Nat} (hk : k < l.length) (x : Tm) : armedN (l.set k x) + (if l[k].armed then 1 else 0) = armedN l + (if x.armed then 1 else 0) := by
  induction l generalizing k with
  | nil => simp at hk
  | cons y r ih =>
    unfold armedN at ih ⊢
    cases k with
    | zero =>
      simp only [List.set_cons_zero, List.getElem_cons_zero, List.filter_cons]
      by_cases hx : x.armed = true <;> by_cases hy : y.armed = true <;> simp [hx, hy]
    | succ k =>
      have := ih (k := k) (by simpa using hk)
      simp only [List.set_cons_succ, List.getElem_cons_succ, List.filter_cons]
      by_cases hy : y.armed = true <;> simp [hy] <;> omega
theorem rise_set {l : List Tm} (hr : l.Pairwise fun x y => x.seq < y.seq) {k : Nat} (hk : k < l.length) {x : Tm} (hx : x.seq = l[k].seq) : (l.set k x).Pairwise fun x y => x.seq < y.seq := by
  rw [List.pairwise_iff_getElem] at hr ⊢
  intro i j hi hj hij
  have hi' : i < l.length := by simpa using hi
  have hj' : j < l.length := by simpa using hj
  have := hr i j hi' hj' hij
  rw [List.getElem_set, List.getElem_set]
  split <;> split <;> rename_i h1 h2
  · omega
  · subst h1; rw [hx]; exact this
  · subst h2; rw [hx]; exact this
  · exact this
theorem each_set {l : List Tm} {n : Int} (he : ∀ x ∈ l, tmOk x n = true) {k : Nat} {x : Tm} (hx : tmOk x n = true) : ∀ y ∈ l.set k x, tmOk y n = true := by
  intro y hy
  rcases List.mem_or_eq_of_mem_set hy with h | h
  · exact he y h
  · rw [h]; exact hx
/-- Stopping keeps timers valid. -/
theorem stop_ok {T : Tms} (o : TmsOk T) {q : Int} {k : Nat} (hq : atL T.list q = some k) : TmsOk ⟨withoutL T.heap q, T.list.modify k disarm, T.next⟩ := by
  obtain ⟨hk, hs⟩ := atL_some hq
  have ew := wl_els (q := q) o.heap
  have hm : T.list.modify k disarm = T.list.set k (disarm T.list[k]) := modify_set hk _
  refine ⟨ew.2, by rw [hm, List.length_set]; exact o.len, o.next, ?_, ?_, ?_, ?_⟩
  · rw [hm]
    exact each_set o.each (show tmOk (disarm T.list[k]) T.next = true from o.each T.list[k] (List.getElem_mem hk))
  · rw [hm]
    exact rise_set o.rise hk rfl
  · intro y hy
    obtain ⟨hne, z, hz, e1, e2⟩ := wl_mem o.heap hy
    obtain ⟨x, hx, f1, f2, f3⟩ := o.armed z hz
    refine ⟨x, ?_, by rw [f1, e2], f2, by rw [f3, e1]⟩
    obtain ⟨j, hj, rfl⟩ := List.getElem_of_mem hx
    have hjk : k ≠ j := fun e => by subst e; exact hne (by rw [← e2, ← f1, hs])
    rw [hm]
    exact List.mem_iff_getElem.2 ⟨j, by simpa using hj, by rw [List.getElem_set, if_neg hjk]⟩
  · show armedN (T.list.modify k disarm) = (withoutL T.heap q).length
    have h1 := armedN_set hk (disarm T.list[k])
    have h2 := filter_one (heap_nd o.heap) q
    have h3 := in_heap o hk
    have h4 : armedN T.list = T.heap.length := o.count
    rw [hs] at h3
    rw [hm, wl_len o.heap]
    have h5 : (disarm T.list[k]).armed = false := rfl
    rw [h5] at h1
    simp only [Bool.false_eq_true, if_false, Nat.add_zero] at h1
    by_cases ha : T.list[k].armed = true
    · rw [if_pos ha] at h1
      rw [if_pos (h3.2 ha)] at h2
      omega
    · rw [if_neg ha] at h1
      rw [if_neg (fun hh => ha (h3.1 hh))] at h2
      omega
/-- The elements of a heap with one more. -/
theorem pl_els {h : List Tw} {d q : Int} (ho : heapOkB h = true) (hl : h.length + 1 ≤ 64) (hn : ∀ y ∈ h, y.seq ≠ q) : ((putL h d q).map zero).Perm (h.map zero ++ [⟨d, q, 0⟩]) ∧ heapOkB (putL h d q) = true := by
  have hm := merged_one (due := d) ho hl hn
  obtain ⟨h1, h2, h3⟩ := heapOk_iff.1 ho
  have hp := treeOf_pre h3
  have hok := treeOf_ok h3
  have hu : uniq (treeOf h) := uniq_pre (by rw [hp]; exact h2)
  have e1 : treeOf [⟨d, q, 0⟩] = .node d q .nil .nil := by rw [← one_pre]; exact treeOf_of _ (one_ok d q)
  have ha : apart (treeOf h) (.node d q .nil .nil) := by
    intro x hx y hy e
    simp [HTree.els] at hy
    subst hy
    rw [els_pre, hp] at hx
    obtain ⟨z, hz, rfl⟩ := List.mem_map.1 hx
    exact hn z hz e
  have e2 : putL h d q = (mergeT (treeOf h) (.node d q .nil .nil)).pre := by rw [putL, mergedL, if_pos hm, e1]
  have he := merge_els (treeOf h) (.node d q .nil .nil)
  refine ⟨?_, ?_⟩
  · rw [e2, ← els_pre]
    refine he.trans ?_
    rw [els_pre, hp]
    simp [HTree.els]
  · rw [e2]
    refine heapOk_of (merge_ok _ _ hok (one_ok d q) ha) (uniq_merge hu (by simp [uniq, HTree.els]) ha) ?_
    rw [merge_size, ← HTree.pre_len, hp]
    simp only [HTree.size]
    omega
theorem pl_mem {h : List Tw} {d q : Int} (ho : heapOkB h = true) (hl : h.length + 1 ≤ 64) (hn : ∀ y ∈ h, y.seq ≠ q) {y : Tw} (hy : y ∈ putL h d q) : (y.due = d ∧ y.seq = q) ∨ ∃ z ∈ h, z.due = y.due ∧ z.seq = y.seq := by
  have := (pl_els (d := d) ho hl hn).1.mem_iff.1 (List.mem_map.2 ⟨y, hy, rfl⟩)
  rcases List.mem_append.1 this with h1 | h1
  · obtain ⟨z, hz, e⟩ := List.mem_map.1 h1
    unfold zero at e
    injection e with e1 e2 _
    exact .inr ⟨z, hz, e1, e2⟩
  · simp [zero] at h1
    exact .inl h1
theorem pl_len {h : List Tw} {d q : Int} (ho : heapOkB h = true) (hl : h.length + 1 ≤ 64) (hn : ∀ y ∈ h, y.seq ≠ q) : (putL h d q).length = h.length + 1 := by
  have := (pl_els (d := d) ho hl hn).1.length_eq
  simpa using this
/-- Arming a new timer keeps timers valid. -/
theorem arm_ok {T : Tms} (o : TmsOk T) {due what whom : Int} (ha : armOk T due what whom = true) : TmsOk ⟨putL T.heap due T.next, T.list ++ [⟨T.next, due, what, whom, true⟩], T.next + 1⟩ := by
  rw [armOk_eq T due what whom o.next.1] at ha
  simp only [Bool.and_eq_true, Bool.not_eq_true', decide_eq_false_iff_not] at ha
  have hle := heap_le o
  have hlen := o.len
  have hn := next_new o
  have hl : T.heap.length + 1 ≤ 64 := by omega
  refine ⟨(pl_els o.heap hl hn).2, by simp; omega, ⟨by have := o.next.1; simp only; omega, by have := o.next.2; simp only; omega⟩, ?_, ?_, ?_, ?_⟩
  · intro x hx
    rcases List.mem_append.1 hx with h | h
    · have := tmOk_iff.1 (o.each x h)
      exact tmOk_iff.2 ⟨⟨this.1.1, by simp only; omega⟩, this.2⟩
    · simp at h
      subst h
      rw [tmOk_purpose]
      have := o.next.1
      simp [ha.2]
      omega
  · rw [List.pairwise_append]
    refine ⟨o.rise, by simp, ?_⟩
    intro x hx y hy
    simp at hy
    subst hy
    have := (tmOk_iff.1 (o.each x hx)).1.2
    simp only
    omega
  · intro y hy
    rcases pl_mem o.heap hl hn hy with ⟨e1, e2⟩ | ⟨z, hz, e1, e2⟩
    · exact ⟨⟨T.next, due, what, whom, true⟩, by simp, e2.symm, rfl, e1.symm⟩
    · obtain ⟨x, hx, f1, f2, f3⟩ := o.armed z hz
      exact ⟨x, List.mem_append_left _ hx, by rw [f1, e2], f2, by rw [f3, e1]⟩
  · show armedN (T.list ++ [⟨T.next, due, what, whom, true⟩]) = (putL T.heap due T.next).length
    rw [pl_len o.heap hl hn, ← o.count]
    unfold armedN
    simp
theorem off_lt {T : Tms} (o : TmsOk T) {q : Int} {k : Nat} (hq : atL T.list q = some k) : (withoutL T.heap q).length + 1 ≤ 64 := by
  obtain ⟨hk, _⟩ := atL_some hq
  have s := stop_ok o hq
  have hm : T.list.modify k disarm = T.list.set k (disarm T.list[k]) := modify_set hk _
  have hl : ((T.list.modify k disarm).filter fun x => x.armed).length < (T.list.modify k disarm).length :=
    List.length_filter_lt_length_iff_exists.2 ⟨disarm T.list[k], by rw [hm]; exact List.mem_iff_getElem.2 ⟨k, by simpa using hk, by simp⟩, by simp [disarm]⟩
  have h1 := s.count
  have h2 := s.len
  simp only at h1 h2
  omega
theorem off_ne {T : Tms} (o : TmsOk T) (q : Int) : ∀ y ∈ withoutL T.heap q, y.seq ≠ q := fun _ hy => (wl_mem o.heap hy).1
/-- Resetting keeps timers valid. -/
theorem reset_ok {T : Tms} (o : TmsOk T) {q due : Int} {k : Nat} (hq : atL T.list q = some k) : TmsOk ⟨putL (withoutL T.heap q) due q, T.list.modify k (rearm due), T.next⟩ := by
  obtain ⟨hk, hs⟩ := atL_some hq
  have s := stop_ok o hq
  have hl := off_lt o hq
  have hn := off_ne o q
  have hh : heapOkB (withoutL T.heap q) = true := s.heap
  have hm : T.list.modify k (rearm due) = T.list.set k (rearm due T.list[k]) := modify_set hk _
  have hd : T.list.modify k disarm = T.list.set k (disarm T.list[k]) := modify_set hk _
  refine ⟨(pl_els hh hl hn).2, by rw [hm, List.length_set]; exact o.len, o.next, ?_, ?_, ?_, ?_⟩
  · rw [hm]
    exact each_set o.each (show tmOk (rearm due T.list[k]) T.next = true from o.each T.list[k] (List.getElem_mem hk))
  · rw [hm]
    exact rise_set o.rise hk rfl
  · intro y hy
    rw [hm]
    rcases pl_mem hh hl hn hy with ⟨e1, e2⟩ | ⟨z, hz, e1, e2⟩
    · exact ⟨rearm due T.list[k], List.mem_iff_getElem.2 ⟨k, by simpa using hk, by simp⟩, by rw [e2]; exact hs, rfl, e1.symm⟩
    · obtain ⟨x, hx, f1, f2, f3⟩ := s.armed z hz
      have hx' : x ∈ T.list.set k (disarm T.list[k]) := by rw [← hd]; exact hx
      obtain ⟨j, hj, rfl⟩ := List.getElem_of_mem hx'
      have hjl : j < T.list.length := by simpa using hj
      have hjk : k ≠ j := fun e => by
        subst e
        have : ((T.list.set k (disarm T.list[k]))[k]).armed = true := f2
        simp [disarm] at this
      refine ⟨_, List.mem_iff_getElem.2 ⟨j, by simpa using hjl, rfl⟩, ?_, ?_, ?_⟩
      · rw [List.getElem_set, if_neg hjk]; rw [List.getElem_set, if_neg hjk] at f1; rw [f1, e2]
      · rw [List.getElem_set, if_neg hjk]; rw [List.getElem_set, if_neg hjk] at f2; exact f2
      · rw [List.getElem_set, if_neg hjk]; rw [List.getElem_set, if_neg hjk] at f3; rw [f3, e1]
  · show armedN (T.list.modify k (rearm due)) = (putL (withoutL T.heap q) due q).length
    have h1 := armedN_set hk (rearm due T.list[k])
    have h2 := armedN_set hk (disarm T.list[k])
    have h3 : armedN (T.list.modify k disarm) = (withoutL T.heap q).length := s.count
    have h4 : (rearm due T.list[k]).armed = true := rfl
    have h5 : (disarm T.list[k]).armed = false := rfl
    rw [h4] at h1
    rw [h5] at h2
    rw [hd] at h3
    rw [pl_len hh hl hn, hm]
    simp only [if_true, Bool.false_eq_true, if_false] at h1 h2
    omega
/-- Forgetting keeps timers valid. -/
theorem forget_ok {T : Tms} (o : TmsOk T) {q : Int} {k : Nat} (hq : atL T.list q = some k) : TmsOk ⟨withoutL T.heap q, T.list.take k ++ T.list.drop (k + 1), T.next⟩ := by
  obtain ⟨hk, hs⟩ := atL_some hq
  have s := stop_ok o hq
  have hd : T.list.modify k disarm = T.list.set k (disarm T.list[k]) := modify_set hk _
  have he : T.list.take k ++ T.list.drop (k + 1) = (T.list.modify k disarm).eraseIdx k := (erase_modify hk disarm).symm
  have hk' : k < (T.list.modify k disarm).length := by simpa using hk
  have hu : ((T.list.modify k disarm)[k]).armed = false := by simp [hd, disarm]
  rw [he]
  refine ⟨s.heap, ?_, s.next, fun x hx => s.each x (List.mem_of_mem_eraseIdx hx), s.rise.sublist (List.eraseIdx_sublist _ _), ?_, ?_⟩
  · have := s.len
    simp only at this ⊢
    rw [List.length_eraseIdx]
    split <;> omega
  · intro y hy
    obtain ⟨x, hx, f1, f2, f3⟩ := s.armed y hy
    refine ⟨x, ?_, f1, f2, f3⟩
    obtain ⟨j, hj, rfl⟩ := List.getElem_of_mem hx
    refine List.mem_eraseIdx_iff_getElem.2 ⟨j, hj, fun e => ?_, rfl⟩
    subst e
    simp only at f2 hu
    rw [hu] at f2
    cases f2
  · have h1 := s.count
    simp only at h1 ⊢
    rw [← h1]
    have hsplit : T.list.modify k disarm = (T.list.modify k disarm).take k ++ (T.list.modify k disarm)[k] :: (T.list.modify k disarm).drop (k + 1) := by
      rw [List.getElem_cons_drop, List.take_append_drop]
    rw [List.eraseIdx_eq_take_drop_succ]
    conv => rhs; rw [hsplit]
    rw [List.filter_append, List.filter_append, List.filter_cons, if_neg (by rw [hu]; simp)]
/-- Without its root a heap is what shifting leaves. -/
theorem shift_without {h : List Tw} {x : Tw} {r : List Tw} (ho : heapOkB h = true) (hx : h = x :: r) : shiftedL h = withoutL h x.seq := by
  obtain ⟨h1, h2, h3⟩ := heapOk_iff.1 ho
  have hp := treeOf_pre h3
  have hs : shiftOk h = true := by rw [shiftOk, ho, hx]; rfl
  cases ht : treeOf h with
  | nil => rw [ht, hx] at hp; cases hp
  | node d s l r' =>
    have hd : (⟨d, s, l.size⟩ : Tw) = x := by
      rw [ht, hx] at hp
      simp only [HTree.pre] at hp
      injection hp
    have hsx : s = x.seq := by rw [← hd]
    rw [shiftedL, if_pos hs, ht, withoutL, ho, if_pos rfl, ht]
    simp [withoutT, hsx, shiftRest]
/-- Firing keeps timers valid. -/
theorem fired_ok {T : Tms} (o : TmsOk T) (now : Int) : TmsOk (firedT T now) := by
  unfold firedT
  cases hf : firedAt T now with
  | none => exact o
  | some k =>
    unfold firedAt at hf
    cases hh : T.heap with
    | nil => rw [hh] at hf; cases hf
    | cons x r =>
      rw [hh] at hf
      simp only at hf
      split at hf
      · have := stop_ok o hf
        rw [← shift_without o.heap hh, hh] at this
        exact this
      · cases hf
end Go.Proofs.Ytnphjohmkjoefaa
namespace Go.Proofs.Ytnphjohmkjoefaa
open Go.RowKit Go.Sort

/-- No element is due ahead of the root. -/
theorem root_min {h : List Tw} {x : Tw} {r : List Tw} (ho : heapOkB h = true) (hx : h = x :: r) {y : Tw} (hy : y ∈ h) : x.due ≤ y.due := by
  obtain ⟨h1, h2, h3⟩ := heapOk_iff.1 ho
  have hp := treeOf_pre h3
  have hok := treeOf_ok h3
  cases ht : treeOf h with
  | nil => rw [ht, hx] at hp; cases hp
  | node d s l r' =>
    have hd : (⟨d, s, l.size⟩ : Tw) = x := by
      rw [ht, hx] at hp
      simp only [HTree.pre] at hp
      injection hp
    rw [ht] at hok hp
    obtain ⟨a1, a2, _, a4, a5⟩ := ok_node hok
    have hz : zero y ∈ (HTree.node d s l r').els := by rw [els_pre, hp]; exact List.mem_map.2 ⟨y, hy, rfl⟩
    have hdx : d = x.due := by rw [← hd]
    simp only [HTree.els, List.mem_cons, List.mem_append] at hz
    rcases hz with e | hz | hz
    · unfold zero at e
      injection e with e1 _ _
      omega
    · have := ahead_iff.1 (under_all l d s a4 a1 _ hz)
      simp only [zero] at this
      omega
    · have := ahead_iff.1 (under_all r' d s a5 a2 _ hz)
      simp only [zero] at this
      omega
theorem zero_ok : TmsOk zeroT := by
  refine ⟨?_, by simp [zeroT], by simp [zeroT], by simp [zeroT], by simp [zeroT], by simp [zeroT], by simp [zeroT]⟩
  refine heapOk_iff.2 ⟨by simp [zeroT], by simp [zeroT, twiceB], ?_⟩
  simp only [zeroT]
  rw [rankL_nil]
  omega
theorem zero_okB : timersOkB zeroT = true := timersOk_yes zero_ok
theorem atL_modify {l : List Tm} {q : Int} {f : Tm → Tm} (hf : ∀ x, (f x).seq = x.seq) (k : Nat) : atL (l.modify k f) q = atL l q := by
  induction l generalizing k with
  | nil => cases k <;> simp
  | cons x r ih =>
    cases k with
    | zero => simp only [List.modify_zero_cons, atL, hf]
    | succ k => simp only [List.modify_succ_cons, atL, ih]
/-- The law of resetting, on paper. -/
theorem reset_law (T : Tms) (q d : Int) : forgetB (resetL T q d) q = forgetB T q ∧ (forgetB T q = false → resetB T q d = false) ∧
    (forgetB T q = true → timersOkB (resetL T q d) = true ∧ timersOkB (forgetL (resetL T q d) q) = true ∧ (forgetL (resetL T q d) q).list.length + 1 = T.list.length ∧ nextDueI (resetL T q d) ≤ d) := by
  cases ho : timersOkB T
  · have e : resetL T q d = zeroT := by simp [resetL, ho]
    have e2 : forgetB T q = false := by simp [forgetB, ho]
    refine ⟨?_, fun _ => by simp [resetB, ho], fun h => by rw [e2] at h; cases h⟩
    rw [e, e2]
    simp [forgetB, zeroT, atL]
  · have o := timersOk_iff.1 ho
    cases hq : atL T.list q with
    | none =>
      have e : resetL T q d = T := by simp [resetL, ho, resetT, hq]
      have e2 : forgetB T q = false := by simp [forgetB, hq]
      exact ⟨by rw [e], fun _ => by simp [resetB, armedAt, hq], fun h => by rw [e2] at h; cases h⟩
    | some k =>
      have e : resetL T q d = ⟨putL (withoutL T.heap q) d q, T.list.modify k (rearm d), T.next⟩ := by simp [resetL, ho, resetT, hq]
      have r := reset_ok o (due := d) hq
      have hr : timersOkB (resetL T q d) = true := by rw [e]; exact timersOk_yes r
      have ha : atL (resetL T q d).list q = some k := by rw [e]; simp only; rw [atL_modify (f := rearm d) (fun _ => rfl), hq]
      have e2 : forgetB T q = true := by simp [forgetB, ho, hq]
      have e3 : forgetB (resetL T q d) q = true := by simp [forgetB, hr, ha]
      have hk := (atL_some hq).1
      refine ⟨by rw [e2, e3], (fun h => by rw [e2] at h; cases h), fun _ => ⟨hr, ?_, ?_, ?_⟩⟩
      · have := forget_ok (timersOk_iff.1 hr) ha
        rw [forgetL, hr, if_pos rfl, forgetT, ha]
        exact timersOk_yes this
      · rw [forgetL, hr, if_pos rfl, forgetT, ha, e]
        simp
        omega
      · rw [nextDueI, hr, if_pos rfl, nextDueN, e]
        have hl := off_lt o hq
        have hn := off_ne o q
        have hh : heapOkB (withoutL T.heap q) = true := (stop_ok o hq).heap
        have hm := (pl_els (d := d) hh hl hn).1.mem_iff.2 (List.mem_append_right _ (List.mem_singleton.2 rfl))
        obtain ⟨y, hy, ey⟩ := List.mem_map.1 hm
        unfold zero at ey
        injection ey with e5 _ _
        simp only
        cases hp : putL (withoutL T.heap q) d q with
        | nil => rw [hp] at hy; cases hy
        | cons x r' =>
          simp only
          have := root_min (pl_els (d := d) hh hl hn).2 hp hy
          omega
end Go.Proofs.Ytnphjohmkjoefaa
