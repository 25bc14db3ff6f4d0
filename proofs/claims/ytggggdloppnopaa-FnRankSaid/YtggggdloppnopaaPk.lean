/- The program's functions of heaps: removing the root, removing an element, sorting; each returns the plain function of the lists, in new memory. No condition beyond that the slices can be read. -/
import Derived.Test.YtggggdloppnopaaPj
namespace Go.Proofs.Ytggggdloppnopaa
open Go.RowKit Go.Sort

theorem shiftOk_cons {xs : List Tw} {t : PT} {w w' : World} (L : Linked t w w' xs) (ho : heapOkB xs = true) {g : Nat} {d s : Int} {l r : PT} (ht : t = .node g d s l r) :
    shiftOk xs = true ∧ shiftedX xs = ⟨d, s, 0⟩ ∧ shiftedL xs = (mergeP l r).tree.pre := by
  have hs : shiftOk xs = true := by
    have hp := L.pre
    subst ht
    rw [shiftOk, ho, ← hp]
    rfl
  have hu := uniq_node (by have := L.uniq ho; rw [ht] at this; exact this)
  refine ⟨hs, ?_, ?_⟩
  · rw [shiftedX, if_pos hs, L.tree, ht]; rfl
  · rw [shiftedL, if_pos hs, L.tree, ht, mergeP_tree _ _ hu.2.2.1]; rfl
theorem shiftOk_nil {xs : List Tw} {t : PT} {w w' : World} (L : Linked t w w' xs) (ht : t = .nil) : shiftOk xs = false := by
  have hp := L.pre
  subst ht
  rw [shiftOk, ← hp]
  rfl

set_option maxHeartbeats 3200000 in
theorem implShifted : DoesS 19 shiftedX shiftedL shiftOk := by
  intro xs v w h
  have HX := Lib.hid h
  obtain ⟨A, c, rfl, h⟩ := h
  clear h
  obtain ⟨V, hV⟩ : ∃ V, V = w.alloc (.cells #[.int .i64 0, .int .i64 0, .int .i64 0] 35) := ⟨_, rfl⟩
  have KV : Hid (Kept 0 0 w V) := by show Kept _ _ _ _; rw [hV]; exact Kept.alloc0 _ _
  have BV : Hid (Blk V w.heap.size 35 #[.int .i64 0, .int .i64 0, .int .i64 0]) := by show Blk _ _ _ _; rw [hV]; exact Blk.new _ _ _
  have CH := Lib.hid (heapOf_any xs _ V (HX.out.up KV.out))
  have zV := KV.out.size
  have yV := BV.out.lt
  go_enter Try.func19, Try.ntmps19
  go_wp2_with fail
  rw [← hV]
  with_reducible refine CH.out.mono ?_
  rintro e w1 ⟨k1, p, rfl, h1⟩
  have K1 := Lib.hid k1
  have H1 := Lib.hid h1
  have z1 := k1.size
  clear k1 h1 CH hV
  have B1 := Lib.hid (BV.out.kept K1.out (.inl (Nat.le_refl _)))
  have K01 := Lib.hid (KV.out.trans K1.out)
  have c0 : w1.cell? ⟨w.heap.size, 0, none⟩ = some (.int .i64 0) := B1.out.cell 0
  have c1 : w1.cell? ⟨w.heap.size, 1, none⟩ = some (.int .i64 0) := B1.out.cell 1
  have c2 : w1.cell? ⟨w.heap.size, 2, none⟩ = some (.int .i64 0) := B1.out.cell 2
  have f0 := B1.out.frozen 0
  have f1 := B1.out.frozen 1
  have f2 := B1.out.frozen 2
  have hfin : ∀ d s : Int, Kept 0 0 w (((w1.setCell ⟨w.heap.size, 0, none⟩ (.int .i64 d)).setCell ⟨w.heap.size, 1, none⟩ (.int .i64 s)).setCell ⟨w.heap.size, 2, none⟩ (.int .i64 0)) := fun d s =>
    ((K01.out.setCell (.inl (Nat.le_refl _)) _).setCell (.inl (Nat.le_refl _)) _).setCell (.inl (Nat.le_refl _)) _
  have HF := Lib.hid hfin
  clear hfin
  cases ho : heapOkB xs
  · have E : Hid (shiftOk xs = false) := by show _ = _; simp [shiftOk, ho]
    have E1 : Hid (shiftedX xs = ⟨0, 0, 0⟩) := by show _ = _; simp [shiftedX, E.out]
    have E2 : Hid (shiftedL xs = []) := by show _ = _; simp [shiftedL, E.out]
    clear ho
    go_wp2_with fail
    refine bodyPost_ret (v := .tuple #[.agg #[.int .i64 0, .int .i64 0, .int .i64 0], .slice none 0 0, .bool false]) (by simp [results, Try.results19, go_sem, c0, c1, c2]) rfl ⟨_, by rw [E.out, E1.out], by rw [E2.out]; exact OwnT.nil _ _ _, HF.out 0 0⟩
  · obtain ⟨t, rfl, L⟩ := H1.out ho
    clear H1
    cases ht : t with
    | nil =>
      have E := Lib.hid (shiftOk_nil L ht)
      have E1 : Hid (shiftedX xs = ⟨0, 0, 0⟩) := by show _ = _; simp [shiftedX, E.out]
      have E2 : Hid (shiftedL xs = []) := by show _ = _; simp [shiftedL, E.out]
      simp only [PT.adr]
      clear ho ht L
      go_wp2_with fail
      refine bodyPost_ret (v := .tuple #[.agg #[.int .i64 0, .int .i64 0, .int .i64 0], .slice none 0 0, .bool false]) (by simp [results, Try.results19, go_sem, c0, c1, c2]) rfl ⟨_, by rw [E.out, E1.out], by rw [E2.out]; exact OwnT.nil _ _ _, HF.out 0 0⟩
    | node g d s l r =>
      obtain ⟨s1, s2, s3⟩ := shiftOk_cons L ho ht
      have E := Lib.hid s1
      have E1 := Lib.hid s2
      have E2 := Lib.hid s3
      have hsm := L.small ho
      have LY := L.lay
      have ND := L.nd
      have NW := Lib.hid L.new
      rw [ht] at LY ND NW hsm
      have CA := Lib.hid (aloneP_any g d s _ _ _ w1 LY.1)
      have LL := Lib.hid LY
      have NN := Lib.hid ND
      have zm : (mergeP l r).size ≤ 1000 := by rw [mergeP_size]; simp only [PT.size] at hsm; omega
      have gs : (PT.node g d s l r).size ≤ 1000 := by omega
      simp only [PT.adr]
      clear ho ht L s1 s2 s3 LY ND hsm c0 c1 c2 f0 f1 f2 HF
      go_wp2_with fail
      with_reducible refine CA.out.mono ?_
      rintro e w2 ⟨rfl, k2⟩
      have K2 := Lib.hid k2
      clear k2 CA
      have CR := Lib.hid (removedP_any [] g d s l r w2 (LL.out.kept K2.out (.inl (Nat.le_refl _))) NN.out gs)
      go_wp2_with fail
      with_reducible refine CR.out.mono ?_
      rintro e w3 ⟨rfl, l3, t3⟩
      have CL := Lib.hid (listOf_any (mergeP l r) _ w3 zm l3)
      have K3 : Hid (Kept 0 0 w w3) := (K01.out.trans K2.out).turned t3 (fun x hx => Nat.le_trans zV (NW.out x hx))
      have B3 := Lib.hid ((B1.out.kept K2.out (.inl (Nat.le_refl _))).turned t3 (fun hx => by have := NW.out _ hx; omega))
      clear l3 t3 CR
      simp only [plugJ]
      go_wp2_with fail
      with_reducible refine CL.out.mono ?_
      rintro e w4 ⟨u4, rfl, ho, hk⟩
      have O4 := Lib.hid ho
      have K4 := Lib.hid (K3.out.trans hk)
      have B4 := Lib.hid (B3.out.kept hk (.inl (Nat.le_refl _)))
      have z3 := K3.out.size
      have y3 := B3.out.lt
      clear ho hk CL
      have c0 : w4.cell? ⟨w.heap.size, 0, none⟩ = some (.int .i64 0) := B4.out.cell 0
      have c1 : w4.cell? ⟨w.heap.size, 1, none⟩ = some (.int .i64 0) := B4.out.cell 1
      have c2 : w4.cell? ⟨w.heap.size, 2, none⟩ = some (.int .i64 0) := B4.out.cell 2
      have f0 := B4.out.frozen 0
      have f1 := B4.out.frozen 1
      have f2 := B4.out.frozen 2
      go_wp2_with fail
      refine bodyPost_ret (v := .tuple #[.agg #[.int .i64 d, .int .i64 s, .int .i64 0], u4, .bool true]) (by simp [results, Try.results19, go_sem, c0, c1, c2]) rfl ⟨u4, by rw [E.out, E1.out], ?_, ((K4.out.setCell (.inl (Nat.le_refl _)) _).setCell (.inl (Nat.le_refl _)) _).setCell (.inl (Nat.le_refl _)) _⟩
      rw [E2.out]
      have kf : Kept w.heap.size (w.heap.size + 1) w4 (((w4.setCell ⟨w.heap.size, 0, none⟩ (.int .i64 d)).setCell ⟨w.heap.size, 1, none⟩ (.int .i64 s)).setCell ⟨w.heap.size, 2, none⟩ (.int .i64 0)) :=
        (((Kept.refl w.heap.size (w.heap.size + 1) w4).setCell (.inr ⟨Nat.le_refl _, Nat.lt_succ_self _⟩) _).setCell (.inr ⟨Nat.le_refl _, Nat.lt_succ_self _⟩) _).setCell (.inr ⟨Nat.le_refl _, Nat.lt_succ_self _⟩) _
      exact (O4.out.kept kf (by omega)).wide z3 kf.size

theorem findP_none {t : PT} {q : Int} {xs : List Tw} {w w' : World} (L : Linked t w w' xs) (ho : heapOkB xs = true) (h : findP t q [] = none) : withoutOk xs q = false ∧ withoutL xs q = xs := by
  have hf := findP_without t q [] L.ok (L.uniq ho)
  rw [h] at hf
  simp only at hf
  rw [withoutOk, withoutL, L.tree, ho, hf]
  exact ⟨rfl, rfl⟩
theorem findP_some {t : PT} {q : Int} {xs : List Tw} {w w' : World} (L : Linked t w w' xs) (ho : heapOkB xs = true) {c : List Step} {g : Nat} {d s : Int} {l r : PT} (h : findP t q [] = some (c, .node g d s l r)) : withoutOk xs q = true ∧ withoutL xs q = (plugJ c (mergeP l r)).tree.pre := by
  have hf := findP_without t q [] L.ok (L.uniq ho)
  rw [h] at hf
  obtain ⟨h1, u, h2, h3⟩ := hf
  simp only [leftOver, plugJ] at h2
  rw [withoutOk, withoutL, L.tree, ho, h1, h2, h3]
  exact ⟨rfl, rfl⟩

set_option maxHeartbeats 1600000 in
theorem implWithout : DoesTI 26 withoutL withoutOk := by
  intro xs q v w h
  have HX := Lib.hid h
  have CH := Lib.hid (heapOf_any xs v w h)
  obtain ⟨A, c, rfl, h⟩ := h
  clear h
  go_enter Try.func26, Try.ntmps26
  go_wp2_with fail
  with_reducible refine CH.out.mono ?_
  rintro e w1 ⟨k1, p, rfl, h1⟩
  have K1 := Lib.hid k1
  have H1 := Lib.hid h1
  have z1 := k1.size
  clear k1 h1 CH
  cases ho : heapOkB xs
  · have E : Hid (withoutOk xs q = false) := by show _ = _; simp [withoutOk, ho]
    have E2 : Hid (withoutL xs q = []) := by show _ = _; simp [withoutL, ho]
    clear ho
    go_wp2_with fail
    go_ret2
    exact ⟨_, ret_sb E.out.symm, by rw [E2.out]; exact OwnT.nil _ _ _, K1.out⟩
  · obtain ⟨t, rfl, L⟩ := H1.out ho
    have CF := Lib.hid (findP_any t q [] _ w1 L.lay)
    have LA := Lib.hid L
    have hsm := L.small ho
    have hl := (heapOk_iff.1 ho).1
    have HO := Lib.hid ho
    clear H1 L ho
    go_wp2_with fail
    with_reducible refine CF.out.mono ?_
    rintro e w' ⟨rfl, rfl⟩
    cases hf : findP t q [] with
    | none =>
      obtain ⟨e1, e2⟩ := findP_none LA.out HO.out hf
      have E := Lib.hid e1
      have E2 := Lib.hid e2
      have CC := Lib.hid (clone_any xs _ w1 (HX.out.up K1.out) (by omega))
      simp only [foundAt]
      clear hf e1 e2 CF
      go_wp2_with fail
      with_reducible refine CC.out.mono ?_
      rintro e w2 ⟨u, rfl, ho, hk⟩
      have O2 := Lib.hid ho
      have K2 := Lib.hid (K1.out.trans hk)
      clear ho hk CC
      go_wp2_with fail
      go_ret2
      exact ⟨u, ret_sb E.out.symm, by rw [E2.out]; exact O2.out.wide z1 (Nat.le_refl _), K2.out⟩
    | some x =>
      obtain ⟨hp, g, d, s, l, r, hx⟩ := findP_plug t q [] x hf
      obtain ⟨k, u⟩ := x
      simp only at hx hp
      subst hx
      simp only [plug] at hp
      obtain ⟨e1, e2⟩ := findP_some LA.out HO.out hf
      have E := Lib.hid e1
      have E2 := Lib.hid e2
      have l0 := LA.out.lay
      have n0 := LA.out.nd
      have NW := Lib.hid LA.out.new
      rw [← hp] at l0 n0 hsm NW
      have CR := Lib.hid (removedP_any k g d s l r w1 l0 n0 (by omega))
      have zm : (plugJ k (mergeP l r)).size ≤ 1000 := by
        rw [plugJ_size, mergeP_size]
        rw [plug_size] at hsm
        simp only [PT.size] at hsm
        omega
      rw [show foundAt (some (k, PT.node g d s l r)) = some ⟨g, 0, none⟩ from rfl]
      clear hf e1 e2 CF l0 n0 hp hsm
      go_wp2_with fail
      with_reducible refine CR.out.mono ?_
      rintro e w3 ⟨rfl, l3, t3⟩
      have CL := Lib.hid (listOf_any _ _ w3 zm l3)
      have K3 : Hid (Kept 0 0 w w3) := K1.out.turned t3 (fun y hy => NW.out y hy)
      have z3 := K3.out.size
      clear l3 t3 CR
      go_wp2_with fail
      with_reducible refine CL.out.mono ?_
      rintro e w4 ⟨u4, rfl, ho, hk⟩
      have O4 := Lib.hid ho
      have K4 := Lib.hid (K3.out.trans hk)
      clear ho hk CL
      go_wp2_with fail
      go_ret2
      exact ⟨u4, ret_sb E.out.symm, by rw [E2.out]; exact O4.out.wide z3 (Nat.le_refl _), K4.out⟩
end Go.Proofs.Ytggggdloppnopaa
