/- The reference's Merged, Put and Shifted return plain functions of the lists, in new memory; no condition beyond that the slices can be read. -/
import Derived.Test.YtnphjohmkjoefaaSr
namespace Go.Proofs.Ytnphjohmkjoefaa
open Go.RowKit Go.Sort

/-- The tree of a heap. -/
noncomputable def treeOf (h : List Tw) : HTree := if hr : 0 ≤ rankL h then Classical.choose (tree_of_rank h.length h (Nat.le_refl _) hr) else .nil
theorem treeOf_pre {h : List Tw} (hr : 0 ≤ rankL h) : (treeOf h).pre = h := by
  rw [treeOf, dif_pos hr]; exact (Classical.choose_spec (tree_of_rank h.length h (Nat.le_refl _) hr)).1
theorem treeOf_ok {h : List Tw} (hr : 0 ≤ rankL h) : (treeOf h).ok = true := by
  rw [treeOf, dif_pos hr]; exact (Classical.choose_spec (tree_of_rank h.length h (Nat.le_refl _) hr)).2
theorem treeOf_of (t : HTree) (h : t.ok = true) : treeOf t.pre = t := by
  have hr : 0 ≤ rankL t.pre := by rw [rankL_pre t h]; omega
  exact pre_inj _ _ (treeOf_pre hr)
theorem seqs_pre (t : HTree) : t.els.map Tw.seq = t.pre.map Tw.seq := by rw [els_pre, List.map_map]; rfl
theorem uniq_pre {t : HTree} (h : twiceB t.pre = false) : uniq t := by
  unfold uniq; rw [seqs_pre]; simpa [twiceB] using h
theorem apart_pre {a b : HTree} (h : twiceB (a.pre ++ b.pre) = false) : apart a b := by
  have hn : ((a.pre ++ b.pre).map Tw.seq).Nodup := by simpa [twiceB] using h
  rw [List.map_append, ← seqs_pre, ← seqs_pre, List.nodup_append] at hn
  intro x hx y hy e
  exact hn.2.2 _ (List.mem_map_of_mem hx) _ (List.mem_map_of_mem hy) e

def mergedOk (a b : List Tw) : Bool := heapOkB a && heapOkB b && decide (a.length + b.length ≤ 64) && !twiceB (a ++ b)
noncomputable def mergedL (a b : List Tw) : List Tw := if mergedOk a b then (mergeT (treeOf a) (treeOf b)).pre else []
theorem mergedOk_iff {a b : List Tw} : mergedOk a b = true ↔ heapOkB a = true ∧ heapOkB b = true ∧ a.length + b.length ≤ 64 ∧ twiceB (a ++ b) = false := by
  simp [mergedOk, and_assoc]
/-- New elements and whether there are any. -/
def NewTwB (xs : List Tw) (b : Bool) (w : World) (e : Ending) (w' : World) : Prop :=
  ∃ (D : Option Addr) (d : Nat), e = .returned (.tuple #[.slice D xs.length d, .bool b]) ∧ OwnZ w' w.heap.size w'.heap.size 77 3 D xs.length d (twR.flat xs) ∧ Kept 0 0 w w'
theorem newTwB_none {w w' : World} (hk : Kept 0 0 w w') : NewTwB [] false w (.returned (.tuple #[.slice (some ⟨w'.heap.size, 0, none⟩) 0 0, .bool false])) (w'.alloc (.cells #[] 77)) :=
  ⟨_, 0, rfl, (OwnZ.of_row (own_empty3 w')).wide hk.size (Nat.le_refl _), hk.alloc _⟩

set_option maxHeartbeats 1600000 in
theorem mergedSpec_any (a b : List Tw) (A A' : Option Addr) (c c' B : Nat) (w : World) (hB : B ≤ w.heap.size) (h : SL twR w B A c a) (h' : SL twR w B A' c' b) :
    Calls Try.prog 43 #[.slice A a.length c, .slice A' b.length c'] w (NewTwB (mergedL a b) (mergedOk a b) w) := by
  have m1 := h.rd.1
  have m2 := h'.rd.1
  have H := Lib.hid h
  have H' := Lib.hid h'
  have HS := Lib.hid twSlice
  clear h h'
  unfold maxLen at m1 m2
  cases ho : mergedOk a b
  · have E : Hid (mergedL a b = []) := by show _ = _; simp [mergedL, ho]
    rw [E.out]
    go_enter Try.func43, Try.ntmps43
    go_wp2_with fail
    with_reducible refine (okSpec_any a _ _ B _ hB H.out).mono ?_
    rintro e w1 ⟨rfl, hk⟩
    have K1 := Lib.hid hk
    clear hk
    cases oa : heapOkB a
    · clear ho oa
      go_wp2
      go_ret2
      exact newTwB_none K1.out
    have z1 := K1.out.size
    go_wp2_with fail
    with_reducible refine (okSpec_any b _ _ B _ (by omega) (H'.out.kept hB K1.out (.inl (Nat.le_refl _)))).mono ?_
    rintro e w2 ⟨rfl, hk⟩
    have K2 := Lib.hid (K1.out.trans hk)
    clear hk K1 z1
    cases ob : heapOkB b
    · clear ho oa ob
      go_wp2
      go_ret2
      exact newTwB_none K2.out
    have a1 := (heapOk_iff.1 oa).1
    have b1 := (heapOk_iff.1 ob).1
    by_cases hl : a.length + b.length ≤ 64
    · have hl' : decide (64 < (a.length : Int) + b.length) = false := by simp; omega
      have z2 := K2.out.size
      go_wp2_with fail
      with_reducible refine (copySpec_any a _ _ B _ (by omega) (H.out.kept hB K2.out (.inl (Nat.le_refl _))) (by omega)).mono ?_
      rintro e w3 ⟨D, d, rfl, hown, hk⟩
      have K3 := Lib.hid (K2.out.trans hk)
      have O3 := Lib.hid hown
      have z3 := hk.size
      clear hk hown K2
      go_wp2_with (at_builtin; refine wpList_appG (R := twR) rfl (.tmp 24) (.tmp 25) rfl HS.out w2.heap.size D d a rfl O3.out.1 B A' c' b rfl (by exact H'.out.rd.kept hB K3.out (.inl (Nat.le_refl _))) (by unfold maxLen; omega) (by omega) (by omega) ?_; intro D4 d4 w4 hown hgrow hat)
      have K4 := Lib.hid (K3.out.app hgrow (fun g hg => Nat.le_trans z2 (own_row_lo O3.out.1 g hg).1))
      have S4 := Lib.hid (OwnZ.sl (R := twR) (OwnZ.of_row hown)).2
      clear hown hgrow hat
      rw [← List.length_append]
      with_reducible refine (twice_any (a ++ b) _ _ w4.heap.size _ (Nat.le_refl _) S4.out).mono ?_
      rintro e w5 ⟨rfl, hk⟩
      have K5 := Lib.hid (K4.out.trans hk)
      clear hk
      have et : twiceB (a ++ b) = true := by
        cases ht : twiceB (a ++ b)
        · have := mergedOk_iff.2 ⟨oa, ob, hl, ht⟩
          rw [ho] at this; cases this
        · rfl
      rw [et]
      clear et ho oa ob
      go_wp2
      go_ret2
      exact newTwB_none K5.out
    · have hl' : decide (64 < (a.length : Int) + b.length) = true := by simp; omega
      clear ho oa ob
      go_wp2
      go_ret2
      exact newTwB_none K2.out
  · obtain ⟨oa, ob, hl, ht⟩ := mergedOk_iff.1 ho
    have E : Hid (mergedL a b = (mergeT (treeOf a) (treeOf b)).pre) := by show _ = _; simp [mergedL, ho]
    rw [E.out]
    have hl' : decide (64 < (a.length : Int) + b.length) = false := by simp; omega
    obtain ⟨a1, a2, a3⟩ := heapOk_iff.1 oa
    obtain ⟨b1, b2, b3⟩ := heapOk_iff.1 ob
    have TA := Lib.hid (treeOf_pre a3)
    have TB := Lib.hid (treeOf_pre b3)
    have OKA := Lib.hid (treeOf_ok a3)
    have OKB := Lib.hid (treeOf_ok b3)
    have AP : Hid (apart (treeOf a) (treeOf b)) := apart_pre (by rw [TA.out, TB.out]; exact ht)
    have OA := Lib.hid oa
    have OB := Lib.hid ob
    have HT := Lib.hid ht
    clear a2 a3 b2 b3 ho oa ob ht
    go_enter Try.func43, Try.ntmps43
    go_wp2_with fail
    with_reducible refine (okSpec_any a _ _ B _ hB H.out).mono ?_
    rintro e w1 ⟨rfl, hk⟩
    have K1 := Lib.hid hk
    clear hk
    rw [OA.out]
    have z1 := K1.out.size
    go_wp2_with fail
    with_reducible refine (okSpec_any b _ _ B _ (by omega) (H'.out.kept hB K1.out (.inl (Nat.le_refl _)))).mono ?_
    rintro e w2 ⟨rfl, hk⟩
    have K2 := Lib.hid (K1.out.trans hk)
    clear hk K1 z1
    rw [OB.out]
    have z2 := K2.out.size
    go_wp2_with fail
    with_reducible refine (copySpec_any a _ _ B _ (by omega) (H.out.kept hB K2.out (.inl (Nat.le_refl _))) (by omega)).mono ?_
    rintro e w3 ⟨D, d, rfl, hown, hk⟩
    have K3 := Lib.hid (K2.out.trans hk)
    have O3 := Lib.hid hown
    have z3 := hk.size
    clear hk hown K2
    go_wp2_with (at_builtin; refine wpList_appG (R := twR) rfl (.tmp 24) (.tmp 25) rfl HS.out w2.heap.size D d a rfl O3.out.1 B A' c' b rfl (by exact H'.out.rd.kept hB K3.out (.inl (Nat.le_refl _))) (by unfold maxLen; omega) (by omega) (by omega) ?_; intro D4 d4 w4 hown hgrow hat)
    have K4 := Lib.hid (K3.out.app hgrow (fun g hg => Nat.le_trans z2 (own_row_lo O3.out.1 g hg).1))
    have S4 := Lib.hid (OwnZ.sl (R := twR) (OwnZ.of_row hown)).2
    clear hown hgrow hat
    rw [← List.length_append]
    with_reducible refine (twice_any (a ++ b) _ _ w4.heap.size _ (Nat.le_refl _) S4.out).mono ?_
    rintro e w5 ⟨rfl, hk⟩
    have K5 := Lib.hid (K4.out.trans hk)
    clear hk
    rw [HT.out]
    have z5 := K5.out.size
    have L1 : Hid (a.length = (treeOf a).pre.length) := by show _ = _; rw [TA.out]
    have L2 : Hid (b.length = (treeOf b).pre.length) := by show _ = _; rw [TB.out]
    have SZ : Hid ((treeOf a).size + (treeOf b).size ≤ 1000) := by show _ ≤ _; rw [← HTree.pre_len, ← HTree.pre_len, TA.out, TB.out]; omega
    go_wp2_with fail
    rw [L1.out, L2.out]
    with_reducible refine (merge_any (treeOf a) (treeOf b) _ _ _ _ B _ SZ.out OKA.out OKB.out AP.out (by omega) (by rw [TA.out]; exact H.out.kept hB K5.out (.inl (Nat.le_refl _))) (by rw [TB.out]; exact H'.out.kept hB K5.out (.inl (Nat.le_refl _)))).mono ?_
    rintro e w6 ⟨D6, d6, rfl, hown, hk⟩
    have K6 := Lib.hid (K5.out.trans hk)
    have O6 := Lib.hid (hown.wide z5 (Nat.le_refl _))
    clear hown hk
    go_wp2
    go_ret2
    exact ⟨D6, d6, rfl, O6.out, K6.out⟩

set_option maxHeartbeats 800000 in
theorem putSpec_any (a : List Tw) (due seq : Int) (A : Option Addr) (c B : Nat) (w : World) (hB : B ≤ w.heap.size) (h : SL twR w B A c a) :
    Calls Try.prog 24 #[.slice A a.length c, .int .i64 due, .int .i64 seq] w (NewTwB (mergedL a [⟨due, seq, 0⟩]) (mergedOk a [⟨due, seq, 0⟩]) w) := by
  have H := Lib.hid h
  clear h
  have K0 := Lib.hid (Kept.alloc0 w (.cells #[.int .i64 due, .int .i64 seq, .int .i64 0] 77))
  have S0 := Lib.hid (OwnZ.sl (R := twR) (OwnZ.of_row (own_lit3 w ⟨due, seq, 0⟩))).2
  go_enter Try.func24, Try.ntmps24
  go_wp2_with fail
  have C := mergedSpec_any a [⟨due, seq, 0⟩] A (some ⟨w.heap.size, 0, none⟩) c 1 _ _ (Nat.le_refl _) ((H.out.kept hB K0.out (.inl (Nat.le_refl _))).wide (by simp; omega)) S0.out
  rw [List.length_singleton] at C
  with_reducible refine C.mono ?_
  clear C
  rintro e w1 ⟨D, d, rfl, ho, hk⟩
  have O := Lib.hid (ho.wide K0.out.size (Nat.le_refl _))
  have K := Lib.hid (K0.out.trans hk)
  clear ho hk
  go_wp2
  go_ret2
  exact ⟨D, d, rfl, O.out, K.out⟩

/-- What Shifted leaves. -/
def ShiftEnd (x : Tw) (xs : List Tw) (b : Bool) (w : World) (e : Ending) (w' : World) : Prop :=
  ∃ (D : Option Addr) (d : Nat), e = .returned (.tuple #[.agg #[.int .i64 x.due, .int .i64 x.seq, .int .i64 x.lefts], .slice D xs.length d, .bool b]) ∧ OwnZ w' w.heap.size w'.heap.size 77 3 D xs.length d (twR.flat xs) ∧ Kept 0 0 w w'
def shiftOk (h : List Tw) : Bool := !h.isEmpty && heapOkB h
def shiftRoot : HTree → Tw
  | .nil => ⟨0, 0, 0⟩
  | .node d s _ _ => ⟨d, s, 0⟩
def shiftRest : HTree → HTree
  | .nil => .nil
  | .node _ _ l r => mergeT l r
noncomputable def shiftedX (h : List Tw) : Tw := if shiftOk h then shiftRoot (treeOf h) else ⟨0, 0, 0⟩
noncomputable def shiftedL (h : List Tw) : List Tw := if shiftOk h then (shiftRest (treeOf h)).pre else []

set_option maxHeartbeats 1600000 in
theorem shiftedSpec_bad (h : List Tw) (A : Option Addr) (c B : Nat) (w : World) (hB : B ≤ w.heap.size) (hs : SL twR w B A c h) (ho : shiftOk h = false) :
    Calls Try.prog 76 #[.slice A h.length c] w (ShiftEnd ⟨0, 0, 0⟩ [] false w) := by
  have m1 := hs.rd.1
  have H := Lib.hid hs
  clear hs
  unfold maxLen at m1
  cases h with
  | nil =>
    go_enter Try.func76, Try.ntmps76
    go_wp2
    refine bodyPost_ret (v := .tuple #[.agg #[.int .i64 0, .int .i64 0, .int .i64 0], .slice (some ⟨w.heap.size + 1, 0, none⟩) 0 0, .bool false]) (by simp [results, Try.results76, go_sem]) rfl ?_
    refine ⟨_, 0, rfl, ?_, (Kept.alloc0 _ _).alloc _⟩
    have O := OwnZ.of_row (own_empty3 (w.alloc (.cells #[.int .i64 0, .int .i64 0, .int .i64 0] 77)))
    have z : (w.alloc (.cells #[.int .i64 0, .int .i64 0, .int .i64 0] 77)).heap.size = w.heap.size + 1 := by simp
    rw [z] at O
    exact O.wide (by omega) (Nat.le_refl _)
  | cons x r =>
    have ho' : heapOkB (x :: r) = false := by simpa [shiftOk] using ho
    have g1 : (((r.length : Int) + 1) == 0) = false := by simp; omega
    have HO := Lib.hid ho'
    have K0 := Lib.hid (Kept.alloc0 w (.cells #[.int .i64 0, .int .i64 0, .int .i64 0] 77))
    have B0 := Lib.hid (Blk.new w 77 #[.int .i64 0, .int .i64 0, .int .i64 0])
    have C := okSpec_any (x :: r) A c B _ (by simp; omega) (H.out.kept hB K0.out (.inl (Nat.le_refl _)))
    rw [HO.out, List.length_cons] at C
    clear ho ho'
    have CC := Lib.hid C
    clear C
    go_enter Try.func76, Try.ntmps76
    go_wp2_with fail
    with_reducible refine CC.out.mono ?_
    rintro e w1 ⟨rfl, hk⟩
    have K1 := Lib.hid (K0.out.trans hk)
    have b1 := B0.out.kept hk (.inl (Nat.le_refl _))
    have c0 := b1.cell 0
    have c1 := b1.cell 1
    have c2 := b1.cell 2
    have f0 := b1.frozen 0
    have f1 := b1.frozen 1
    have f2 := b1.frozen 2
    have z1 := b1.lt
    have BB := Lib.hid ((b1.set3 (.int .i64 0) (.int .i64 0) (.int .i64 0)).alloc (.cells #[] 77))
    clear hk b1
    go_wp2
    clear c0 c1 c2 f0 f1 f2
    have r0 := BB.out.cell 0
    have r1 := BB.out.cell 1
    have r2 := BB.out.cell 2
    refine bodyPost_ret (v := .tuple #[.agg #[.int .i64 0, .int .i64 0, .int .i64 0], .slice (some ⟨w1.heap.size, 0, none⟩) 0 0, .bool false]) (by simp [results, Try.results76, go_sem, r0, r1, r2]) rfl ?_
    have O := OwnZ.of_row (own_empty3 (((w1.setCell ⟨w.heap.size, 0, none⟩ (.int .i64 0)).setCell ⟨w.heap.size, 1, none⟩ (.int .i64 0)).setCell ⟨w.heap.size, 2, none⟩ (.int .i64 0)))
    have e : (((w1.setCell ⟨w.heap.size, 0, none⟩ (.int .i64 0)).setCell ⟨w.heap.size, 1, none⟩ (.int .i64 0)).setCell ⟨w.heap.size, 2, none⟩ (.int .i64 0)).heap.size = w1.heap.size := by simp
    rw [e] at O
    exact ⟨_, 0, rfl, O.wide (by omega) (Nat.le_refl _), (K1.out.set3 (.inl (Nat.le_refl _)) _ _ _).alloc _⟩

theorem cell_set3 {w : World} {g : Nat} {p : Addr} {u x y z : Value} (hp : p.block ≠ g) (h : w.cell? p = some u) : (((w.setCell ⟨g, 0, none⟩ x).setCell ⟨g, 1, none⟩ y).setCell ⟨g, 2, none⟩ z).cell? p = some u := by
  rw [World.cell?_setCell_other _ _ _ _ (by intro e; subst e; exact hp rfl), World.cell?_setCell_other _ _ _ _ (by intro e; subst e; exact hp rfl), World.cell?_setCell_other _ _ _ _ (by intro e; subst e; exact hp rfl)]
  exact h
set_option maxHeartbeats 3200000 in
theorem shiftedSpec_ok (d s : Int) (l r : HTree) (A : Option Addr) (c B : Nat) (w : World) (hB : B ≤ w.heap.size) (hs : SL twR w B A c (HTree.node d s l r).pre) (ho : heapOkB (HTree.node d s l r).pre = true) (ht : (HTree.node d s l r).ok = true) :
    Calls Try.prog 76 #[.slice A (HTree.node d s l r).pre.length c] w (ShiftEnd ⟨d, s, 0⟩ (mergeT l r).pre true w) := by
  obtain ⟨p1, p2, p3⟩ := heapOk_iff.1 ho
  obtain ⟨ad, rfl, hab, q0, q1, q2⟩ := hs.rd.head
  have hne : ad.block ≠ w.heap.size := by omega
  have HNE := Lib.hid hne
  clear hne
  obtain ⟨o1, o2, o3, o4, o5⟩ := ok_node ht
  have AP := Lib.hid (uniq_node (uniq_pre p2)).2.2.1
  have O4 := Lib.hid o4
  have O5 := Lib.hid o5
  have Q0 := Lib.hid q0
  have Q1 := Lib.hid q1
  have Q2 := Lib.hid q2
  have SZ : Hid (l.size + r.size ≤ 1000) := by show _ ≤ _; rw [HTree.pre_len] at p1; simp only [HTree.size] at p1; omega
  have H := Lib.hid hs
  have HO := Lib.hid ho
  have g1 : (((HTree.node d s l r).pre.length : Int) == 0) = false := by simp [HTree.pre]; omega
  have g2 : 0 < (HTree.node d s l r).pre.length := by simp [HTree.pre]
  obtain ⟨n1, hn1⟩ : ∃ n1, n1 = (HTree.node d s l r).pre.length := ⟨_, rfl⟩
  rw [← hn1]
  rw [← hn1] at g1 g2 p1
  have HN1 := Lib.hid hn1
  have K0 := Lib.hid (Kept.alloc0 w (.cells #[.int .i64 0, .int .i64 0, .int .i64 0] 77))
  have B0 := Lib.hid (Blk.new w 77 #[.int .i64 0, .int .i64 0, .int .i64 0])
  have C := okSpec_any _ (some ad) c B _ (by simp; omega) (H.out.kept hB K0.out (.inl (Nat.le_refl _)))
  rw [HO.out, ← hn1] at C
  have CC := Lib.hid C
  clear C q0 q1 q2 o1 o2 o3 o4 o5 p2 p3 hs ho ht hn1
  have g3 : (0 : Int) < (n1 : Int) := by omega
  go_enter Try.func76, Try.ntmps76
  go_wp2_with fail
  with_reducible refine CC.out.mono ?_
  rintro e w1 ⟨rfl, hk⟩
  have K1 := Lib.hid (K0.out.trans hk)
  have B1 := Lib.hid (B0.out.kept hk (.inl (Nat.le_refl _)))
  clear hk K0 B0
  go_wp2_with fail
  with_reducible refine (parts_tree d s l r n1 HN1.out _ _ B _ (Nat.le_trans hB K1.out.size) (H.out.kept hB K1.out (.inl (Nat.le_refl _)))).mono ?_
  rintro e w2 ⟨A1, A2, c1, c2, rfl, s1, s2, hk⟩
  have K2 := Lib.hid (K1.out.trans hk)
  have B2 := Lib.hid (B1.out.kept hk (.inl (Nat.le_refl _)))
  have S1 := Lib.hid s1
  have S2 := Lib.hid s2
  have z2 := K2.out.size
  have y2 := B2.out.lt
  clear hk K1 B1 s1 s2
  have t0 := cell_kept K2.out Q0.out
  have t1 := cell_kept K2.out Q1.out
  have T0 := Lib.hid t0
  have T1 := Lib.hid t1
  clear t0 t1
  go_upto_region 4 with fail
  go_region_held3 (fun w' => w'.cell? ad = some (.int .i64 d) ∧ w'.cell? ⟨ad.block, ad.off + 1, none⟩ = some (.int .i64 s))
      (first | exact ⟨T0.out, T1.out⟩ | exact ⟨cell_kept k3 T0.out, cell_kept k3 T1.out⟩ | exact ⟨cell_set3 HNE.out (cell_kept k3 T0.out), cell_set3 (p := ⟨ad.block, ad.off + 1, none⟩) HNE.out (cell_kept k3 T1.out)⟩)
      (first
        | (go_at_call 60; refine (merge_any l r A1 A2 c1 c2 B _ SZ.out O4.out O5.out AP.out (by simp; omega) (by exact S1.out.kept (by omega) ((Kept.refl 0 0 w2).drew) (.inl (Nat.le_refl _))) (by exact S2.out.kept (by omega) ((Kept.refl 0 0 w2).drew) (.inl (Nat.le_refl _)))).mono ?_; rintro e w3 ⟨D, d3, rfl, hown, hk⟩; have k3 : Kept 0 0 w2 w3 := (Kept.refl 0 0 w2).drew.trans hk; have O3 := hown; have b3 := B2.out.kept k3 (.inl (Nat.le_refl _)); have z3 := k3.size; have x0 := b3.cell 0; have x1 := b3.cell 1; have x2 := b3.cell 2; have f0 := b3.frozen 0; have f1 := b3.frozen 1; have f2 := b3.frozen 2; have y3 := b3.lt; clear hk hown))
  all_goals
    have bb := b3.set3 (.int .i64 d) (.int .i64 s) (.int .i64 0)
    clear x0 x1 x2 f0 f1 f2
    have r0 := bb.cell 0
    have r1 := bb.cell 1
    have r2 := bb.cell 2
    go_wp2_with fail
    refine bodyPost_ret (v := .tuple #[.agg #[.int .i64 d, .int .i64 s, .int .i64 0], .slice D (mergeT l r).pre.length d3, .bool true]) (by simp [results, Try.results76, go_sem, r0, r1, r2]) rfl ?_
    exact ⟨D, d3, rfl, ((O3.kept (lo' := w.heap.size) (hi' := w.heap.size + 1) ((Kept.refl _ _ _).set3 (.inr ⟨Nat.le_refl _, Nat.lt_succ_self _⟩) _ _ _) (by simp; omega)).wide (by simp; omega) (by simp)), (K2.out.trans k3).set3 (.inl (Nat.le_refl _)) _ _ _⟩

theorem treeOf_node {h : List Tw} (ho : shiftOk h = true) : ∃ d s l r, treeOf h = .node d s l r := by
  simp only [shiftOk, Bool.and_eq_true] at ho
  obtain ⟨h1, h2⟩ := ho
  have hp := treeOf_pre (heapOk_iff.1 h2).2.2
  cases e : treeOf h with
  | nil => rw [e] at hp; rw [← hp] at h1; simp [HTree.pre] at h1
  | node d s l r => exact ⟨d, s, l, r, rfl⟩
theorem shiftedSpec_any (h : List Tw) (A : Option Addr) (c B : Nat) (w : World) (hB : B ≤ w.heap.size) (hs : SL twR w B A c h) :
    Calls Try.prog 76 #[.slice A h.length c] w (ShiftEnd (shiftedX h) (shiftedL h) (shiftOk h) w) := by
  cases ho : shiftOk h
  · have e1 : shiftedX h = ⟨0, 0, 0⟩ := by simp [shiftedX, ho]
    have e2 : shiftedL h = [] := by simp [shiftedL, ho]
    rw [e1, e2]
    exact shiftedSpec_bad h A c B w hB hs ho
  · obtain ⟨d, s, l, r, e⟩ := treeOf_node ho
    have e1 : shiftedX h = ⟨d, s, 0⟩ := by simp [shiftedX, ho, e, shiftRoot]
    have e2 : shiftedL h = (mergeT l r).pre := by simp [shiftedL, ho, e, shiftRest]
    have hk : heapOkB h = true := by simp only [shiftOk, Bool.and_eq_true] at ho; exact ho.2
    have hr := (heapOk_iff.1 hk).2.2
    have hp : (HTree.node d s l r).pre = h := by rw [← e]; exact treeOf_pre hr
    have ht : (HTree.node d s l r).ok = true := by rw [← e]; exact treeOf_ok hr
    rw [e1, e2]
    subst hp
    exact shiftedSpec_ok d s l r A c B w hB hs hk ht
end Go.Proofs.Ytnphjohmkjoefaa
