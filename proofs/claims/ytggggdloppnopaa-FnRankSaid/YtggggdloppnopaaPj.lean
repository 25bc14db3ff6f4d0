/- The program's functions of heaps: validity, rank, union, putting, removing; each returns the plain function of the lists, in new memory. No condition beyond that the slices can be read. -/
import Derived.Test.YtggggdloppnopaaPi
namespace Go.Proofs.Ytggggdloppnopaa
open Go.RowKit Go.Sort

theorem heapOk_fit (xs : List Tw) : heapOkB xs = (fitB xs && decide (0 ≤ rankL xs)) := rfl
def HeapPost (xs : List Tw) (w : World) (e : Ending) (w' : World) : Prop :=
  Kept 0 0 w w' ∧ ∃ p, e = .returned (.tuple #[.pointer p, .bool (heapOkB xs)]) ∧ (heapOkB xs = true → ∃ t : PT, p = t.adr ∧ Linked t w w' xs)
set_option maxHeartbeats 800000 in
theorem heapOf_any (xs : List Tw) (v : Value) (w : World) (h : RdT w w.heap.size v xs) : Calls Try.prog 40 #[v] w (HeapPost xs w) := by
  have H := Lib.hid h
  have CF := Lib.hid (fit_any xs v w h)
  obtain ⟨A, c, rfl, h⟩ := h
  clear h
  have E := Lib.hid (heapOk_fit xs)
  go_enter Try.func40, Try.ntmps40
  go_wp2_with fail
  with_reducible refine CF.out.mono ?_
  rintro e w1 ⟨rfl, hk⟩
  have K1 := Lib.hid hk
  clear hk CF
  cases hf : fitB xs
  · rw [hf] at E
    clear hf
    go_wp2_with fail
    go_ret2
    exact ⟨K1.out, none, ret_pb (by rw [E.out]; rfl), fun hh => by rw [E.out] at hh; cases hh⟩
  · rw [hf] at E
    have hl : xs.length ≤ 64 := by simp only [fitB, Bool.and_eq_true, decide_eq_true_eq] at hf; exact hf.1
    obtain ⟨A', c', e0, sl⟩ := H.out.up K1.out
    injection e0 with e1 e2 e3
    subst e1 e3
    have CL := Lib.hid (linked_any xs _ _ _ w1 (by omega) (Nat.le_refl _) sl)
    clear hf sl e2
    go_wp2_with fail
    with_reducible refine CL.out.mono ?_
    rintro e w2 ⟨k2, p, rfl, h2⟩
    have K2 := Lib.hid k2
    have H2 := Lib.hid h2
    clear k2 h2 CL
    go_wp2_with fail
    go_ret2
    refine ⟨K1.out.trans K2.out, p, ret_pb (by rw [E.out]; rfl), fun hh => ?_⟩
    rw [E.out] at hh
    obtain ⟨t, rfl, L⟩ := H2.out (by simpa using hh)
    exact ⟨t, rfl, L.lay, L.pre, L.ok, L.nd, fun g hg => Nat.le_trans K1.out.size (L.new g hg)⟩
theorem Linked.tree {t : PT} {w w' : World} {xs : List Tw} (h : Linked t w w' xs) : treeOf xs = t.tree := by rw [← h.pre]; exact treeOf_of _ h.ok
theorem Linked.uniq {t : PT} {w w' : World} {xs : List Tw} (h : Linked t w w' xs) (ho : heapOkB xs = true) : uniq t.tree := uniq_pre (by rw [h.pre]; exact (heapOk_iff.1 ho).2.1)
theorem Linked.small {t : PT} {w w' : World} {xs : List Tw} (h : Linked t w w' xs) (ho : heapOkB xs = true) : t.size ≤ 64 := by rw [h.size]; exact (heapOk_iff.1 ho).1

set_option maxHeartbeats 400000 in
theorem implHeapOk : DoesB 17 heapOkB := by
  intro xs v w h
  have CH := Lib.hid (heapOf_any xs v w h)
  clear h
  go_enter Try.func17, Try.ntmps17
  go_wp2_with fail
  with_reducible refine CH.out.mono ?_
  rintro e w1 ⟨k1, p, rfl, h1⟩
  have K1 := Lib.hid k1
  clear k1 h1
  go_wp2_with fail
  go_ret
  exact ⟨rfl, K1.out⟩

set_option maxHeartbeats 400000 in
theorem implRankOf : DoesI 23 rankOfL := by
  intro xs v w h
  have CH := Lib.hid (heapOf_any xs v w h)
  clear h
  go_enter Try.func23, Try.ntmps23
  go_wp2_with fail
  with_reducible refine CH.out.mono ?_
  rintro e w1 ⟨k1, p, rfl, h1⟩
  have K1 := Lib.hid k1
  have H1 := Lib.hid h1
  clear k1 h1
  cases ho : heapOkB xs
  · have E : Hid (rankOfL xs = -1) := by show _ = _; simp [rankOfL, ho]
    clear ho
    go_wp2_with fail
    go_ret
    exact ⟨ret_int E.out.symm, K1.out⟩
  · obtain ⟨t, rfl, L⟩ := H1.out ho
    have E : Hid (rankOfL xs = t.rank) := by show _ = _; rw [rankOfL, if_pos ho, L.rank]
    have hr : t.rank ≤ 1000 := by have := t.rank_size; have := L.small ho; omega
    have CR := Lib.hid (rankP_any t _ w1 L.lay hr)
    clear ho L H1
    go_wp2_with fail
    with_reducible refine CR.out.mono ?_
    rintro e w' ⟨rfl, rfl⟩
    go_wp2_with fail
    go_ret
    exact ⟨ret_int E.out.symm, K1.out⟩

theorem mergedOk_fit {xs ys : List Tw} (h1 : heapOkB xs = true) (h2 : heapOkB ys = true) : mergedOk xs ys = fitB (xs ++ ys) := by
  simp [mergedOk, fitB, h1, h2]
theorem ret_sb {D : Value} {b b' : Bool} (h : b = b') : Ending.returned (.tuple #[D, .bool b]) = .returned (.tuple #[D, .bool b']) := by rw [h]

set_option maxHeartbeats 3200000 in
theorem implMerged : DoesTT 21 mergedL mergedOk := by
  intro xs ys v v' w h h'
  have CH := Lib.hid (heapOf_any xs v w h)
  have HX := Lib.hid h
  have HY := Lib.hid h'
  obtain ⟨A, c, rfl, h⟩ := h
  obtain ⟨A', c', rfl, h'⟩ := h'
  clear h h'
  go_enter Try.func21, Try.ntmps21
  go_wp2_with fail
  with_reducible refine CH.out.mono ?_
  rintro e w1 ⟨k1, p, rfl, h1⟩
  have K1 := Lib.hid k1
  have H1 := Lib.hid h1
  clear k1 h1 CH
  have CH := Lib.hid (heapOf_any ys _ w1 (HY.out.up K1.out))
  go_wp2_with fail
  with_reducible refine CH.out.mono ?_
  rintro e w2 ⟨k2, q, rfl, h2⟩
  have K2 := Lib.hid k2
  have H2 := Lib.hid h2
  clear k2 h2 CH
  have K12 := Lib.hid (K1.out.trans K2.out)
  cases o1 : heapOkB xs
  · have E : Hid (mergedOk xs ys = false) := by show _ = _; simp [mergedOk, o1]
    have E2 : Hid (mergedL xs ys = []) := by show _ = _; simp [mergedL, E.out]
    clear o1
    go_wp2_with fail
    go_ret2
    exact ⟨_, ret_sb E.out.symm, by rw [E2.out]; exact OwnT.nil _ _ _, K12.out⟩
  · cases o2 : heapOkB ys
    · have E : Hid (mergedOk xs ys = false) := by show _ = _; simp [mergedOk, o2]
      have E2 : Hid (mergedL xs ys = []) := by show _ = _; simp [mergedL, E.out]
      clear o1 o2
      go_wp2_with fail
      go_ret2
      exact ⟨_, ret_sb E.out.symm, by rw [E2.out]; exact OwnT.nil _ _ _, K12.out⟩
    · obtain ⟨t1, rfl, L1⟩ := H1.out o1
      obtain ⟨t2, rfl, L2⟩ := H2.out o2
      have LA := Lib.hid L1
      have LB := Lib.hid L2
      have m1 := L1.small o1
      have m2 := L2.small o2
      have n1 := (heapOk_iff.1 o1).1
      have n2 := (heapOk_iff.1 o2).1
      have EM := Lib.hid (mergedOk_fit o1 o2)
      obtain ⟨V, hV⟩ : ∃ V, V = w2.alloc (.cells #[.slice A xs.length c, .slice A' ys.length c'] 29) := ⟨_, rfl⟩
      have KV : Hid (Kept 0 0 w2 V) := by show Kept _ _ _ _; rw [hV]; exact Kept.alloc0 _ _
      have MV : Hid (Many V w2.heap.size [.slice A xs.length c, .slice A' ys.length c'] [xs, ys]) := by
        refine ⟨by rw [hV]; exact Blk.new _ _ _, rfl, ?_⟩
        have r1 := HX.out.up (K12.out.trans KV.out)
        have r2 := HY.out.up (K12.out.trans KV.out)
        intro k hk
        match k, hk with
        | 0, _ =>
          obtain ⟨B1, d1, e1, s1⟩ := r1
          injection e1 with e1 e2 e3
          subst e1 e3
          exact ⟨_, _, rfl, s1⟩
        | 1, _ =>
          obtain ⟨B1, d1, e1, s1⟩ := r2
          injection e1 with e1 e2 e3
          subst e1 e3
          exact ⟨_, _, rfl, s1⟩
      have CC : Hid (Calls Try.prog 48 #[.slice (some ⟨w2.heap.size, 0, none⟩) 2 2] V fun e w' => ∃ u, e = .returned u ∧ OwnT w' V.heap.size w'.heap.size u (xs ++ ys) ∧ Kept 0 0 V w') := by
        have h0 := concat_any _ _ w2.heap.size 2 V MV.out (by simp; omega) (by simp)
        rw [show ([xs, ys] : List (List Tw)).flatten = xs ++ ys by simp] at h0
        exact h0
      clear L1 L2 H1 H2 o1 o2 MV
      go_wp2_with fail
      rw [← hV]
      with_reducible refine CC.out.mono ?_
      rintro e w3 ⟨u3, rfl, ho, hk⟩
      have O3 := Lib.hid ho
      have K23 := Lib.hid (KV.out.trans hk)
      have K3 := Lib.hid (K12.out.trans K23.out)
      clear ho hk hV CC KV
      have CF := Lib.hid (fit_any (xs ++ ys) u3 w3 (O3.out.rdW (Nat.le_refl _)))
      go_wp2_with fail
      with_reducible refine CF.out.mono ?_
      rintro e w4 ⟨rfl, hk⟩
      have K24 := Lib.hid (K23.out.trans hk)
      have K4 := Lib.hid (K12.out.trans K24.out)
      clear hk CF O3 K23 K3
      cases hf : fitB (xs ++ ys)
      · rw [hf] at EM
        have E2 : Hid (mergedL xs ys = []) := by show _ = _; simp [mergedL, EM.out]
        clear hf
        go_wp2_with fail
        go_ret2
        exact ⟨_, ret_sb EM.out.symm, by rw [E2.out]; exact OwnT.nil _ _ _, K4.out⟩
      · rw [hf] at EM
        have AP : Hid (apart t1.tree t2.tree) := by
          refine apart_pre ?_
          rw [LA.out.pre, LB.out.pre]
          exact (mergedOk_iff.1 EM.out).2.2.2
        have E2 : Hid (mergedL xs ys = (mergeP t1 t2).tree.pre) := by
          show _ = _
          rw [mergedL, if_pos EM.out, LA.out.tree, LB.out.tree, mergeP_tree _ _ AP.out]
        have ND : Hid ((t1.blocks ++ t2.blocks).Nodup) := by
          refine List.nodup_append.2 ⟨LA.out.nd, LB.out.nd, ?_⟩
          intro a ha b hb e
          subst e
          have := LA.out.lay.lt a ha
          have := LB.out.new a hb
          omega
        have y1 := LA.out.lay.kept (K2.out.trans K24.out) (.inl (Nat.le_refl _))
        have y2 := LB.out.lay.kept K24.out (.inl (Nat.le_refl _))
        have CU := Lib.hid (unionP_any t1 t2 _ _ w4 (by omega) y1 y2 ND.out)
        have zm : (mergeP t1 t2).size ≤ 1000 := by rw [mergeP_size]; omega
        clear hf y1 y2
        go_wp2_with fail
        with_reducible refine CU.out.mono ?_
        rintro e w5 ⟨rfl, ⟨par, l5⟩, t5⟩
        have CL := Lib.hid (listOf_any (mergeP t1 t2) par w5 zm l5)
        have K5 : Hid (Kept 0 0 w w5) := by
          refine K4.out.turned t5 ?_
          intro x hx
          have z1 := K1.out.size
          rcases List.mem_append.1 hx with hx | hx
          · exact LA.out.new x hx
          · have := LB.out.new x hx; omega
        clear l5 t5 CU
        go_wp2_with fail
        with_reducible refine CL.out.mono ?_
        rintro e w6 ⟨u6, rfl, ho, hk⟩
        have O6 := Lib.hid ho
        have K6 := Lib.hid (K5.out.trans hk)
        have z5 := K5.out.size
        clear ho hk CL
        go_wp2_with fail
        go_ret2
        exact ⟨u6, ret_sb EM.out.symm, by rw [E2.out]; exact O6.out.wide z5 (Nat.le_refl _), K6.out⟩

set_option maxHeartbeats 800000 in
theorem implPut : DoesTII 36 putL putOk := by
  intro xs p q v w h
  have HX := Lib.hid h
  obtain ⟨A, c, rfl, h⟩ := h
  clear h
  obtain ⟨V, hV⟩ : ∃ V, V = w.alloc (.cells #[.int .i64 p, .int .i64 q, .int .i64 0] 35) := ⟨_, rfl⟩
  have KV : Hid (Kept 0 0 w V) := by show Kept _ _ _ _; rw [hV]; exact Kept.alloc0 _ _
  have RV : Hid (RdT V V.heap.size (.slice (some ⟨w.heap.size, 0, none⟩) 1 1) [⟨p, q, 0⟩]) := by
    show RdT _ _ _ _
    rw [hV]
    exact ⟨_, _, rfl, (OwnZ.sl (R := twR) (OwnZ.of_row (own_lit3 w ⟨p, q, 0⟩))).2⟩
  have CM := Lib.hid (implMerged.at_ xs [⟨p, q, 0⟩] _ _ V (HX.out.up KV.out) RV.out)
  have zV := KV.out.size
  go_enter Try.func36, Try.ntmps36
  go_wp2_with fail
  rw [← hV]
  with_reducible refine CM.out.mono ?_
  rintro e w1 ⟨u, rfl, ho, hk⟩
  have O1 := Lib.hid ho
  have K1 := Lib.hid (KV.out.trans hk)
  clear ho hk hV CM
  go_wp2_with fail
  go_ret2
  exact ⟨u, rfl, O1.out.wide zV (Nat.le_refl _), K1.out⟩
end Go.Proofs.Ytggggdloppnopaa
