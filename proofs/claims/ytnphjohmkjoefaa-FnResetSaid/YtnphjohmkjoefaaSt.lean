/- The reference's Without and Sorted return plain functions of the lists, in new memory; no condition beyond that the slices can be read. -/
import Derived.Test.YtnphjohmkjoefaaSs
namespace Go.Proofs.Ytnphjohmkjoefaa
open Go.RowKit Go.Sort

/-- The reference's removal in heaps of at most n elements. -/
def WithoutDoes (n : Nat) : Prop := ∀ (t : HTree) (q : Int) (A : Option Addr) (c B : Nat) (w : World), t.size ≤ n → n ≤ 1000 → t.ok = true → uniq t → B ≤ w.heap.size → SL twR w B A c t.pre →
  Calls Try.prog 59 #[.slice A t.pre.length c, .int .i64 q] w (NewTwB (withoutT t q).1.pre (withoutT t q).2 w)
theorem WithoutDoes.at_ {n : Nat} (h : WithoutDoes n) (t : HTree) (q : Int) (A : Option Addr) (c B : Nat) (w : World) (h1 : t.size ≤ n) (h2 : n ≤ 1000) (h3 : t.ok = true) (h4 : uniq t) (hB : B ≤ w.heap.size) (hs : SL twR w B A c t.pre) :
    Calls Try.prog 59 #[.slice A t.pre.length c, .int .i64 q] w (NewTwB (withoutT t q).1.pre (withoutT t q).2 w) := h t q A c B w h1 h2 h3 h4 hB hs

set_option maxHeartbeats 400000 in
theorem without_nil (q : Int) (A : Option Addr) (c : Nat) (w : World) :
    Calls Try.prog 59 #[.slice A 0 c, .int .i64 q] w (NewTwB [] false w) := by
  go_enter Try.func59, Try.ntmps59
  go_wp2
  go_ret2
  exact newTwB_none (Kept.refl _ _ _)

theorem without_size_le (t : HTree) (q : Int) (ho : t.ok = true) (hu : uniq t) : (withoutT t q).1.size ≤ t.size := by
  have h := (without_els t q ho hu).length_eq
  rw [els_len] at h
  rw [h, ← els_len t]
  exact List.length_filter_le _ _

set_option maxHeartbeats 3200000 in
theorem without_node {n : Nat} (ih : WithoutDoes n) (d s : Int) (l r : HTree) (q : Int) (A : Option Addr) (c B : Nat) (w : World) (hn : (HTree.node d s l r).size ≤ n + 1) (hn2 : n + 1 ≤ 1000) (ht : (HTree.node d s l r).ok = true) (hu : uniq (.node d s l r)) (hB : B ≤ w.heap.size) (hs : SL twR w B A c (HTree.node d s l r).pre) :
    Calls Try.prog 59 #[.slice A (HTree.node d s l r).pre.length c, .int .i64 q] w (NewTwB (withoutT (.node d s l r) q).1.pre (withoutT (.node d s l r) q).2 w) := by
  obtain ⟨ad, rfl, hab, q0, q1, q2⟩ := hs.rd.head
  obtain ⟨o1, o2, o3, o4, o5⟩ := ok_node ht
  obtain ⟨u1, u2, u3, u4, u5⟩ := uniq_node hu
  have AP := Lib.hid u3
  have O4 := Lib.hid o4
  have O5 := Lib.hid o5
  have U1 := Lib.hid u1
  have U2 := Lib.hid u2
  have Q0 := Lib.hid q0
  have Q1 := Lib.hid q1
  have Q2 := Lib.hid q2
  have SZ : Hid (l.size + r.size ≤ n) := by show _ ≤ _; simp only [HTree.size] at hn; omega
  have H := Lib.hid hs
  have IH := Lib.hid ih
  have g1 : (((HTree.node d s l r).pre.length : Int) == 0) = false := by simp [HTree.pre]; omega
  have g2 : 0 < (HTree.node d s l r).pre.length := by simp [HTree.pre]
  obtain ⟨n1, hn1⟩ : ∃ n1, n1 = (HTree.node d s l r).pre.length := ⟨_, rfl⟩
  rw [← hn1]
  rw [← hn1] at g1 g2
  have HN1 := Lib.hid hn1
  clear q0 q1 q2 o1 o2 o3 o4 o5 hs ht hn1 u1 u2 u3 u4 u5 ih hu
  have g3 : (0 : Int) < (n1 : Int) := by omega
  go_enter Try.func59, Try.ntmps59
  go_wp2_with fail
  with_reducible refine (parts_tree d s l r n1 HN1.out _ _ B _ hB H.out).mono ?_
  rintro e w1 ⟨A1, A2, c1, c2, rfl, s1, s2, hk⟩
  have K1 := Lib.hid hk
  have S1 := Lib.hid s1
  have S2 := Lib.hid s2
  have z1 := hk.size
  clear hk s1 s2
  have t0 := cell_kept K1.out Q0.out
  have t1 := cell_kept K1.out Q1.out
  have t2 := cell_kept K1.out Q2.out
  by_cases hsq : s = q
  · have g4 : (s == q) = true := by simpa using hsq
    have E : Hid (withoutT (.node d s l r) q = (mergeT l r, true)) := by show _ = _; simp [withoutT, hsq]
    clear hsq
    go_wp2_with fail
    with_reducible refine (merge_any l r _ _ _ _ B _ (by have := SZ.out; omega) O4.out O5.out AP.out (by omega) S1.out S2.out).mono ?_
    rintro e w2 ⟨D, d2, rfl, ho, hk⟩
    have K2 := Lib.hid (K1.out.trans hk)
    have O := Lib.hid (ho.wide z1 (Nat.le_refl _))
    clear ho hk
    go_wp2
    go_ret2
    rw [E.out]
    exact ⟨D, d2, rfl, O.out, K2.out⟩
  · have g4 : (s == q) = false := by simpa using hsq
    have E : Hid (withoutT (.node d s l r) q = if (withoutT l q).2 then (joinT d s (withoutT l q).1 r, true) else (joinT d s l (withoutT r q).1, (withoutT r q).2)) := by show _ = _; simp [withoutT, hsq]
    clear hsq
    have OL := Lib.hid (without_ok l q O4.out U1.out)
    have OR := Lib.hid (without_ok r q O5.out U2.out)
    have ZL := Lib.hid (without_size_le l q O4.out U1.out)
    have ZR := Lib.hid (without_size_le r q O5.out U2.out)
    go_wp2_with fail
    with_reducible refine (IH.out.at_ l q _ _ B _ (by have := SZ.out; omega) (by omega) O4.out U1.out (by omega) S1.out).mono ?_
    rintro e w2 ⟨D, d2, rfl, ho, hk⟩
    have K2 := Lib.hid (K1.out.trans hk)
    have k12 := Lib.hid hk
    have SD := Lib.hid (OwnZ.sl (R := twR) ho).2
    have z2 := hk.size
    clear ho hk
    have v0 := cell_kept K2.out Q0.out
    have v1 := cell_kept K2.out Q1.out
    have v2 := cell_kept K2.out Q2.out
    clear t0 t1 t2
    cases hf : (withoutT l q).2
    · rw [hf, if_neg (by simp)] at E
      clear hf SD
      go_wp2_with fail
      clear v0 v1 v2
      with_reducible refine (IH.out.at_ r q _ _ B _ (by have := SZ.out; omega) (by omega) O5.out U2.out (by omega) (S2.out.kept (by omega) k12.out (.inl (Nat.le_refl _)))).mono ?_
      rintro e w3 ⟨D3, d3, rfl, ho, hk⟩
      have K3 := Lib.hid (K2.out.trans hk)
      have k13 := Lib.hid (k12.out.trans hk)
      have SD := Lib.hid (OwnZ.sl (R := twR) ho).2
      have z3 := hk.size
      clear ho hk
      have v0 := cell_kept K3.out Q0.out
      have v1 := cell_kept K3.out Q1.out
      have v2 := cell_kept K3.out Q2.out
      have EJ := Lib.hid (join_pre d s l.size l (withoutT r q).1 O4.out OR.out)
      go_wp2_with fail
      with_reducible refine (join_any ⟨d, s, l.size⟩ l.pre (withoutT r q).1.pre _ _ _ _ w3.heap.size _ (Nat.le_refl _) ((S1.out.kept (by omega) k13.out (.inl (Nat.le_refl _))).wide (by omega)) SD.out (by rw [HTree.pre_len, HTree.pre_len]; have := ZR.out; have := SZ.out; omega)).mono ?_
      rintro e w4 ⟨D4, d4, rfl, ho, hk⟩
      have K4 := Lib.hid (K3.out.trans hk)
      have O := Lib.hid (ho.wide (show w.heap.size ≤ w3.heap.size by omega) (Nat.le_refl _))
      clear ho hk v0 v1 v2
      go_wp2
      go_ret2
      rw [E.out]
      show NewTwB (joinT d s l (withoutT r q).1).pre _ _ _ _
      rw [← EJ.out]
      exact ⟨D4, d4, rfl, O.out, K4.out⟩
    · rw [hf, if_pos rfl] at E
      clear hf
      have EJ := Lib.hid (join_pre d s l.size (withoutT l q).1 r OL.out O5.out)
      go_wp2_with fail
      with_reducible refine (join_any ⟨d, s, l.size⟩ (withoutT l q).1.pre r.pre _ _ _ _ w2.heap.size _ (Nat.le_refl _) SD.out ((S2.out.kept (by omega) k12.out (.inl (Nat.le_refl _))).wide (by omega)) (by rw [HTree.pre_len, HTree.pre_len]; have := ZL.out; have := SZ.out; omega)).mono ?_
      rintro e w4 ⟨D4, d4, rfl, ho, hk⟩
      have K4 := Lib.hid (K2.out.trans hk)
      have O := Lib.hid (ho.wide (show w.heap.size ≤ w2.heap.size by omega) (Nat.le_refl _))
      clear ho hk v0 v1 v2
      go_wp2
      go_ret2
      rw [E.out]
      show NewTwB (joinT d s (withoutT l q).1 r).pre _ _ _ _
      rw [← EJ.out]
      exact ⟨D4, d4, rfl, O.out, K4.out⟩

theorem without_does (n : Nat) : WithoutDoes n := by
  induction n with
  | zero =>
    intro t q A c B w hn hn2 ht hu hB hs
    cases t with
    | nil => exact without_nil q A c w
    | node => simp [HTree.size] at hn
  | succ n ih =>
    intro t q A c B w hn hn2 ht hu hB hs
    cases t with
    | nil => exact without_nil q A c w
    | node d s l r => exact without_node ih d s l r q A c B w hn hn2 ht hu hB hs

noncomputable def withoutOk (h : List Tw) (q : Int) : Bool := heapOkB h && (withoutT (treeOf h) q).2
noncomputable def withoutL (h : List Tw) (q : Int) : List Tw := if heapOkB h then (if (withoutT (treeOf h) q).2 then (withoutT (treeOf h) q).1.pre else h) else []

set_option maxHeartbeats 1600000 in
theorem withoutSpec_any (h : List Tw) (q : Int) (A : Option Addr) (c B : Nat) (w : World) (hB : B ≤ w.heap.size) (hs : SL twR w B A c h) :
    Calls Try.prog 42 #[.slice A h.length c, .int .i64 q] w (NewTwB (withoutL h q) (withoutOk h q) w) := by
  have H := Lib.hid hs
  clear hs
  cases ho : heapOkB h
  · have E1 : Hid (withoutL h q = []) := by show _ = _; simp [withoutL, ho]
    have E2 : Hid (withoutOk h q = false) := by show _ = _; simp [withoutOk, ho]
    rw [E1.out, E2.out]
    have HO := Lib.hid ho
    clear ho
    go_enter Try.func42, Try.ntmps42
    go_wp2_with fail
    with_reducible refine (okSpec_any h _ _ B _ hB H.out).mono ?_
    rintro e w1 ⟨rfl, hk⟩
    have K1 := Lib.hid hk
    clear hk
    rw [HO.out]
    go_wp2
    go_ret2
    exact newTwB_none K1.out
  · obtain ⟨h1, h2, h3⟩ := heapOk_iff.1 ho
    have T := Lib.hid (treeOf_pre h3)
    have OK := Lib.hid (treeOf_ok h3)
    have UN : Hid (uniq (treeOf h)) := uniq_pre (by rw [T.out]; exact h2)
    have L1 : Hid (h.length = (treeOf h).pre.length) := by show _ = _; rw [T.out]
    have SZ : Hid ((treeOf h).size ≤ 64) := by show _ ≤ _; rw [← HTree.pre_len, T.out]; exact h1
    have E1 : Hid (withoutL h q = if (withoutT (treeOf h) q).2 then (withoutT (treeOf h) q).1.pre else h) := by show _ = _; simp [withoutL, ho]
    have E2 : Hid (withoutOk h q = (withoutT (treeOf h) q).2) := by show _ = _; simp [withoutOk, ho]
    have HO := Lib.hid ho
    clear ho h2 h3
    go_enter Try.func42, Try.ntmps42
    go_wp2_with fail
    with_reducible refine (okSpec_any h _ _ B _ hB H.out).mono ?_
    rintro e w1 ⟨rfl, hk⟩
    have K1 := Lib.hid hk
    have z1 := hk.size
    clear hk
    rw [HO.out]
    go_wp2_with fail
    rw [L1.out]
    with_reducible refine (((without_does 64).at_ (treeOf h) q _ _ B _ SZ.out (by omega) OK.out UN.out (by omega) (by rw [T.out]; exact H.out.kept hB K1.out (.inl (Nat.le_refl _))))).mono ?_
    rintro e w2 ⟨D, d, rfl, hown, hk⟩
    have K2 := Lib.hid (K1.out.trans hk)
    have O := Lib.hid (hown.wide z1 (Nat.le_refl _))
    have z2 := K2.out.size
    clear hown hk
    cases hf : (withoutT (treeOf h) q).2
    · rw [hf, if_neg (by simp)] at E1
      rw [hf] at E2
      clear hf
      go_wp2_with fail
      rw [← L1.out]
      with_reducible refine (copySpec_any h _ _ B _ (by omega) (H.out.kept hB K2.out (.inl (Nat.le_refl _))) (by omega)).mono ?_
      rintro e w3 ⟨D3, d3, rfl, hown, hk⟩
      have K3 := Lib.hid (K2.out.trans hk)
      have O3 := Lib.hid (hown.wide z2 (Nat.le_refl _))
      clear hown hk
      go_wp2
      go_ret2
      rw [E1.out, E2.out]
      exact ⟨D3, d3, rfl, O3.out, K3.out⟩
    · rw [hf, if_pos rfl] at E1
      rw [hf] at E2
      clear hf
      go_wp2
      go_ret2
      rw [E1.out, E2.out]
      exact ⟨D, d, rfl, O.out, K2.out⟩
end Go.Proofs.Ytnphjohmkjoefaa
