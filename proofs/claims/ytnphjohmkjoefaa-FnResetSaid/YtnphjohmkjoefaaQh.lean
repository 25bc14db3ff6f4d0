/- The program's TimersOk, NextDue and Armed; no condition beyond that the timers can be read. -/
import Derived.Test.YtnphjohmkjoefaaQg
namespace Go.Proofs.Ytnphjohmkjoefaa
open Go.RowKit Go.Sort

/-! ### On paper -/
theorem one_tree (g : Nat) (d s : Int) : (oneP g d s).tree = .node d s .nil .nil := rfl
theorem one_ok (d s : Int) : (HTree.node d s .nil .nil).ok = true := by simp [HTree.ok, HTree.under, HTree.rank]
theorem one_pre (d s : Int) : (HTree.node d s .nil .nil).pre = [⟨d, s, 0⟩] := by simp [HTree.pre, HTree.size]
theorem heap_one (d s : Int) : heapOkB [⟨d, s, 0⟩] = true := by
  refine heapOk_iff.2 ⟨by simp, by simp [twiceB], ?_⟩
  rw [← one_pre, rankL_pre _ (one_ok d s)]
  omega
theorem merged_one {xs : List Tw} {due q : Int} (ho : heapOkB xs = true) (hl : xs.length + 1 ≤ 64) (hn : ∀ y ∈ xs, y.seq ≠ q) : mergedOk xs [⟨due, q, 0⟩] = true := by
  refine mergedOk_iff.2 ⟨ho, heap_one _ _, by simpa using hl, ?_⟩
  have hu := heap_nd ho
  simp only [twiceB, Bool.not_eq_false', decide_eq_true_eq, List.map_append, List.nodup_append]
  refine ⟨hu, by simp, ?_⟩
  intro a ha c hc e
  simp at hc
  obtain ⟨y, hy, rfl⟩ := List.mem_map.1 ha
  exact hn y hy (by rw [e, hc])
/-- One element more. -/
theorem put_pre {t : PT} {xs : List Tw} {due q : Int} (g : Nat) (hp : t.tree.pre = xs) (hok : t.tree.ok = true) (ho : heapOkB xs = true) (hl : xs.length + 1 ≤ 64) (hn : ∀ y ∈ xs, y.seq ≠ q) : (mergeP t (oneP g due q)).tree.pre = putL xs due q := by
  have hm := merged_one (due := due) ho hl hn
  have ht : treeOf xs = t.tree := by rw [← hp]; exact treeOf_of _ hok
  have h1 : treeOf [⟨due, q, 0⟩] = .node due q .nil .nil := by rw [← one_pre]; exact treeOf_of _ (one_ok due q)
  have ha : apart t.tree (oneP g due q).tree := by
    intro x hx y hy e
    rw [one_tree] at hy
    simp [HTree.els] at hy
    subst hy
    rw [els_pre, hp] at hx
    obtain ⟨z, hz, rfl⟩ := List.mem_map.1 hx
    exact hn z hz e
  rw [putL, mergedL, if_pos hm, ht, h1, mergeP_tree _ _ ha, one_tree]
theorem next_new {T : Tms} (o : TmsOk T) : ∀ y ∈ T.heap, y.seq ≠ T.next := by
  intro y hy e
  obtain ⟨x, hx, e1, _⟩ := o.armed y hy
  have := (tmOk_iff.1 (o.each x hx)).1.2
  omega
theorem heap_le {T : Tms} (o : TmsOk T) : T.heap.length ≤ T.list.length := by rw [← o.count]; exact List.length_filter_le _ _
theorem armOk_eq (T : Tms) (due what whom : Int) (h0 : 0 ≤ T.next) : armOk T due what whom = (!(decide (T.list.length = 64)) && !(decide (T.next = 1000000)) && purposeB what whom) := by
  unfold armOk
  rw [tmOk_purpose]
  have h1 : decide (0 ≤ T.next) = true := by simpa using h0
  have h2 : decide (T.next ≤ T.next + 1 - 1) = true := by simp
  simp only [h1, h2, Bool.true_and]

/-! ### The program -/
set_option maxHeartbeats 400000 in
theorem implTimersOk (T : Tms) (v : Value) (w : World) (h : RdM w w.heap.size v T) :
    Calls Try.prog 10 #[v] w fun e w' => e = .returned (.bool (timersOkB T)) ∧ Kept 0 0 w w' := by
  obtain ⟨hv, lv, rfl, ⟨A1, c1, rfl, s2⟩, ⟨A2, c2, rfl, s3⟩⟩ := h
  have H : Hid (RdM w w.heap.size (.agg #[.slice A1 T.heap.length c1, .slice A2 T.list.length c2, .int .i64 T.next]) T) := ⟨_, _, rfl, ⟨A1, c1, rfl, s2⟩, ⟨A2, c2, rfl, s3⟩⟩
  obtain ⟨W, hW⟩ : ∃ W, W = w.alloc (.cells #[.slice A1 T.heap.length c1, .slice A2 T.list.length c2, .int .i64 T.next] 27) := ⟨_, rfl⟩
  have KV : Hid (Kept 0 0 w W) := by show Kept _ _ _ _; rw [hW]; exact Kept.alloc0 _ _
  have CA := Lib.hid (alarmsOf_any T _ W (H.out.up KV.out))
  have HW := Lib.hid hW
  clear s2 s3 hW
  go_enter Try.func10, Try.ntmps10
  go_wp2_with fail
  rw [← HW.out]
  with_reducible refine CA.out.mono ?_
  rintro e w1 ⟨k1, p, rfl, h1⟩
  have K1 := Lib.hid k1
  clear k1 h1 CA HW
  go_wp2_with fail
  go_ret
  exact ⟨rfl, KV.out.trans K1.out⟩
set_option maxHeartbeats 800000 in
theorem implNextDue (T : Tms) (v : Value) (w : World) (h : RdM w w.heap.size v T) :
    Calls Try.prog 11 #[v] w fun e w' => e = .returned (.int .i64 (nextDueI T)) ∧ Kept 0 0 w w' := by
  obtain ⟨hv, lv, rfl, ⟨A1, c1, rfl, s2⟩, ⟨A2, c2, rfl, s3⟩⟩ := h
  have H : Hid (RdM w w.heap.size (.agg #[.slice A1 T.heap.length c1, .slice A2 T.list.length c2, .int .i64 T.next]) T) := ⟨_, _, rfl, ⟨A1, c1, rfl, s2⟩, ⟨A2, c2, rfl, s3⟩⟩
  obtain ⟨W, hW⟩ : ∃ W, W = w.alloc (.cells #[.slice A1 T.heap.length c1, .slice A2 T.list.length c2, .int .i64 T.next] 27) := ⟨_, rfl⟩
  have KV : Hid (Kept 0 0 w W) := by show Kept _ _ _ _; rw [hW]; exact Kept.alloc0 _ _
  have CA := Lib.hid (alarmsOf_any T _ W (H.out.up KV.out))
  have HW := Lib.hid hW
  clear s2 s3 hW
  go_enter Try.func11, Try.ntmps11
  go_wp2_with fail
  rw [← HW.out]
  with_reducible refine CA.out.mono ?_
  rintro e w1 ⟨k1, p, rfl, h1⟩
  have K1 := Lib.hid k1
  have H1 := Lib.hid h1
  clear k1 h1 CA HW
  cases ho : timersOkB T
  · have E : Hid (nextDueI T = 9223372036854775807) := by show _ = _; simp [nextDueI, ho]
    clear ho
    go_wp2_with fail
    go_ret
    exact ⟨ret_int E.out.symm, KV.out.trans K1.out⟩
  · obtain ⟨b, t, D, d, zs, rfl, A, eq, hp, hok, inT⟩ := H1.out ho
    cases t with
    | nil =>
      have E : Hid (nextDueI T = 9223372036854775807) := by show _ = _; rw [nextDueI, ho, if_pos rfl, nextDueN, ← hp]; rfl
      have b0 : w1.cell? ⟨b, 0, none⟩ = some (.pointer none) := bx0 A.blk
      clear ho A eq hp hok inT H1
      go_wp2_with fail
      go_ret
      exact ⟨ret_int E.out.symm, KV.out.trans K1.out⟩
    | node g du s l r =>
      have E : Hid (nextDueI T = du) := by show _ = _; rw [nextDueI, ho, if_pos rfl, nextDueN, ← hp]; rfl
      have c0 := (A.lay.el (g, du, s) (by simp [PT.elems])).c0
      simp only at c0
      have b0 : w1.cell? ⟨b, 0, none⟩ = some (toBlk g) := bx0 A.blk
      clear ho A eq hp hok inT H1
      go_wp2_with fail
      go_ret
      exact ⟨ret_int E.out.symm, KV.out.trans K1.out⟩
end Go.Proofs.Ytnphjohmkjoefaa
