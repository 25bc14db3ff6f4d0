/- The library's Grow, Concat and Clone at slices of nodes, and the program's Grown; no condition beyond what each theorem states. -/
import Derived.Test.YtakhegamlammcaaNq
import Derived.Lib.SliceRun
import Derived.Lib.AppendZerosOnto
namespace Go.Proofs.Ytakhegamlammcaa
open Go.RowKit Go.Sort

set_option maxHeartbeats 800000 in
theorem grow_zero (w : World) : Calls Try.prog 62 #[.slice none 0 0, .int .i64 0] w fun e w' => e = .returned (.slice none 0 0) ∧ w = w' := by
  go_enter Try.func62, Try.ntmps62
  go_wp2
  go_ret
  exact ⟨rfl, rfl⟩
set_option maxHeartbeats 1600000 in
theorem grow_pos (n : Nat) (w : World) (h0 : 0 < n) (hn : n ≤ 1048576) : Calls Try.prog 62 #[.slice none 0 0, .int .i64 n] w fun e w' =>
    ∃ G, e = .returned (.slice (some ⟨w.heap.size, 0, none⟩) 0 G) ∧ w'.ownsRow w.heap.size 32 ndR.k (.slice (some ⟨w.heap.size, 0, none⟩) 0 G) 0 [] ∧ Kept 0 0 w w' := by
  obtain ⟨i, hi, hz, hs, hb⟩ := info_parts Try.infoNd
  have hrz := fun ty => Lib.run_append_grow_zeros w 24 3 ty 32 i _ .i64 .i64 Try.underlying24 Try.underlying3 hi hz none 0 0 [] (run_firstCells_none w.drew i.size 0 0 0) n h0 (by omega) (by omega) (by omega) (by rw [hb]; omega) (by
    have := growslice_fits (need := 0 + n) (old := 0) (bytes := i.bytes) (by omega) (by rw [hb]; omega)
    exact this)
  simp only [Nat.zero_add] at hrz
  have hGn : n ≤ grownCap w n 0 32 := grownCap_ge w _ _ _
  have hGm := grownCap_le_maxLen w n 0 32 (by unfold maxLen; omega)
  obtain ⟨G, hG⟩ : ∃ G, G = grownCap w n 0 32 := ⟨_, rfl⟩
  rw [← hG] at hrz hGn hGm
  clear hG
  have OW : Hid ((w.alloc (.cells (Builtin.zeroCells #[.int .i64 0, .int .i64 0, .int .i64 0, .int .i64 0, .int .i64 0] n ++ Builtin.zeroCells #[.int .i64 0, .int .i64 0, .int .i64 0, .int .i64 0, .int .i64 0] (G - n)) 32)).drew.ownsRow w.heap.size 32 ndR.k (.slice (some ⟨w.heap.size, 0, none⟩) 0 G) 0 []) := by
    refine ⟨by simp, .inr ⟨w.heap.size, G, _, rfl, Nat.le_refl _, heap_alloc_new w _, Nat.zero_le _, hGm, ?_, by simp⟩⟩
    simp only [Array.size_append, size_zeroCells, ndR_k]
    simp
    omega
  have KW := Lib.hid (((Kept.refl 0 0 w).alloc (.cells (Builtin.zeroCells #[.int .i64 0, .int .i64 0, .int .i64 0, .int .i64 0, .int .i64 0] n ++ Builtin.zeroCells #[.int .i64 0, .int .i64 0, .int .i64 0, .int .i64 0, .int .i64 0] (G - n)) 32)).drew)
  have HR := Lib.hid hrz
  have g1 : (0 : Int) < (n : Int) := by omega
  have g2 : (n : Int) ≤ 1048576 := by omega
  have g3 : G ≤ 9223372036854775807 := by unfold maxLen at hGm; omega
  clear hrz hi hz hs hb hGn hGm
  go_enter Try.func62, Try.ntmps62
  go_wp2_with (at_builtin; refine Lib.wpList_append_run _ rfl _ _ _ _ rfl _ _ rfl rfl _ _ (HR.out _) ?_)
  all_goals go_ret
  all_goals exact ⟨G, rfl, OW.out, KW.out⟩

/-- What lies ahead of place k. -/
def upTo (xss : List (List Nd)) (k : Nat) : List Nd := (xss.take k).flatten
theorem upTo_succ {xss : List (List Nd)} {k : Nat} (h : k < xss.length) : upTo xss (k + 1) = upTo xss k ++ xss[k] := by
  unfold upTo
  rw [List.take_succ_eq_append_getElem h, List.flatten_append]
  simp
theorem upTo_le (xss : List (List Nd)) (k : Nat) : (upTo xss k).length ≤ xss.flatten.length := by
  have : xss.flatten = upTo xss k ++ (xss.drop k).flatten := by rw [upTo, ← List.flatten_append, List.take_append_drop]
  rw [this, List.length_append]
  omega
theorem upTo_all {xss : List (List Nd)} {k : Nat} (h : xss.length ≤ k) : upTo xss k = xss.flatten := by rw [upTo, List.take_of_length_le h]

/-- Slices, each in its place of a block. -/
structure Many (w : World) (b : Nat) (vs : List Value) (xss : List (List Nd)) : Prop where
  blk : Blk w b 24 vs.toArray
  len : vs.length = xss.length
  rd : ∀ k (hk : k < xss.length), ∃ A c, vs[k]? = some (.slice A xss[k].length c) ∧ SL ndR w w.heap.size A c xss[k]
theorem Many.cell {w : World} {b : Nat} {vs : List Value} {xss : List (List Nd)} (h : Many w b vs xss) {k : Nat} (hk : k < xss.length) : ∃ A c, w.cell? ⟨b, k, none⟩ = some (.slice A xss[k].length c) ∧ SL ndR w w.heap.size A c xss[k] := by
  obtain ⟨A, c, e, hs⟩ := h.rd k hk
  exact ⟨A, c, by rw [h.blk.cell k]; simpa using e, hs⟩
theorem Many.up {w w' : World} {b : Nat} {vs : List Value} {xss : List (List Nd)} (h : Many w b vs xss) (hk : Kept 0 0 w w') : Many w' b vs xss :=
  ⟨h.blk.kept hk (.inl (Nat.le_refl _)), h.len, fun k hk' => by obtain ⟨A, c, e, hs⟩ := h.rd k hk'; exact ⟨A, c, e, hs.up hk⟩⟩

set_option maxHeartbeats 1600000 in
theorem concat_any (vs : List Value) (xss : List (List Nd)) (b c0 : Nat) (w : World) (h : Many w b vs xss) (hn : xss.flatten.length ≤ 100000) (hm : xss.length ≤ 100) :
    Calls Try.prog 47 #[.slice (some ⟨b, 0, none⟩) xss.length c0] w fun e w' => ∃ u, e = .returned u ∧ OwnNd w' w.heap.size w'.heap.size u xss.flatten ∧ Kept 0 0 w w' := by
  have H := Lib.hid h
  have HT := Lib.hid ndSlice
  clear h
  go_enter Try.func47, Try.ntmps47
  go_wp2
  go_loop [3, 11] (fun s i => ∃ k : Nat, k ≤ xss.length ∧ i = .int .i64 k ∧ s = .int .i64 (upTo xss k).length) (fun _ i => xss.length - (intOf i).toNat)
  case atStart => exact ⟨0, Nat.zero_le _, rfl, rfl⟩
  case round =>
    obtain ⟨k, hk, rfl, rfl⟩ := hrel
    by_cases hlt : k < xss.length
    · have i1 : (k : Int) < (xss.length : Int) := by omega
      obtain ⟨A, c, hc, hs⟩ := H.out.cell hlt
      have h1 := upTo_le xss k
      have h2 := upTo_le xss (k + 1)
      have E : Hid ((upTo xss (k + 1)).length = (upTo xss k).length + xss[k].length) := by show _ = _; rw [upTo_succ hlt, List.length_append]
      have h3 : (upTo xss k).length + xss[k].length ≤ 100000 := by have := E.out; omega
      clear hs h2
      go_wp2
      go_round
      case rel => exact ⟨k + 1, by omega, by go_num, by rw [E.out]; go_num⟩
      case measure => simp [intOf]; omega
    · have hu := upTo_le xss k
      have HG : Hid (∀ n : Nat, n ≤ 100000 → Calls Try.prog 62 #[.slice none 0 0, .int .i64 n] w fun e w' => ∃ D d, e = .returned (.slice D 0 d) ∧ w'.ownsRow w.heap.size 32 ndR.k (.slice D 0 d) 0 [] ∧ Kept 0 0 w w') := by
        intro n hn
        rcases Nat.eq_zero_or_pos n with rfl | h0
        · exact (grow_zero w).mono fun e w' ⟨he, hw⟩ => ⟨none, 0, he, ⟨rfl, .inl ⟨rfl, rfl⟩⟩, by rw [← hw]; exact Kept.refl _ _ _⟩
        · exact (grow_pos n w h0 (by omega)).mono fun e w' ⟨G, he, ho, hk⟩ => ⟨_, G, he, ho, hk⟩
      go_wp2_with fail
      with_reducible refine (HG.out _ (by omega)).mono ?_
      rintro e1 w1 ⟨D1, d1, rfl, ho1, hk1⟩
      have O1 := Lib.hid ho1
      have K1 := Lib.hid hk1
      clear ho1 hk1 HG hu hlt hk
      go_wp2_with fail
      go_loopw [6, 27] (fun s i wr => ∃ (k : Nat) (D : Option Addr) (d : Nat), k ≤ xss.length ∧ i = .int .i64 k ∧ s = .slice D (upTo xss k).length d ∧ Hid (wr.ownsRow w.heap.size 32 ndR.k (.slice D (upTo xss k).length d) (upTo xss k).length (ndR.flat (upTo xss k))) ∧ Hid (Kept 0 0 w wr)) (fun _ i _ => xss.length - (intOf i).toNat)
      case atStart => exact ⟨0, D1, d1, Nat.zero_le _, rfl, rfl, O1, K1⟩
      case round =>
        clear O1 K1
        obtain ⟨k, D, d, hk, rfl, rfl, HO, HK⟩ := hrel
        by_cases hlt : k < xss.length
        · have i1 : (k : Int) < (xss.length : Int) := by omega
          obtain ⟨A, c, hc, hs⟩ := (H.out.up HK.out).cell hlt
          have S := Lib.hid hs
          have E := Lib.hid (upTo_succ hlt)
          have h1 := upTo_le xss k
          have h3 : (upTo xss k).length + xss[k].length ≤ 100000 := by have := upTo_le xss (k + 1); rw [E.out, List.length_append] at this; omega
          have zw := HK.out.size
          clear hs
          go_wp2_with (at_builtin; refine wpList_app (R := ndR) rfl (.tmp 31) (.tmp 32) rfl HT.out w.heap.size D d (upTo xss k) rfl HO.out wr.heap.size A c xss[k] rfl S.out.rd (by simp [maxLen]; omega) (by omega) zw ?_; intro D2 d2 w2 hown hgrow hat; have O2 := Lib.hid hown; have K2 := Lib.hid (HK.out.app hgrow (fun g hg => (own_row_lo HO.out g hg).1)); clear hown hgrow hat)
          rw [← E.out] at O2
          go_roundw
          case rel => exact ⟨k + 1, D2, d2, by omega, by go_num, by rw [E.out, List.length_append], O2, K2⟩
          case measure => simp [intOf]; omega
        · have e : Hid (upTo xss k = xss.flatten) := upTo_all (by omega)
          go_wp2
          go_ret
          exact ⟨.slice D (upTo xss k).length d, rfl, ⟨D, d, by rw [e.out], by rw [← e.out]; exact OwnZ.of_row HO.out⟩, HK.out⟩
set_option maxHeartbeats 800000 in
theorem clone_any (xs : List Nd) (v : Value) (w : World) (h : RdNd w w.heap.size v xs) (hn : xs.length ≤ 1048576) :
    Calls Try.prog 48 #[v] w fun e w' => ∃ u, e = .returned u ∧ OwnNd w' w.heap.size w'.heap.size u xs ∧ Kept 0 0 w w' := by
  obtain ⟨A, c, rfl, h⟩ := h
  cases A with
  | none =>
    have hx : xs = [] := by
      cases xs with
      | nil => rfl
      | cons x r => obtain ⟨ad, h, _⟩ := h.rd.2 (by simp); cases h
    subst hx
    clear h
    have q1 := Lib.run_eql_slice_nil (P := Try.prog) w 24 _ none 0 c 0 0 Try.underlying24
    go_enter Try.func48, Try.ntmps48
    go_wp2
    go_ret
    exact ⟨_, rfl, OwnNd.nil _ _ _, Kept.refl _ _ _⟩
  | some ad =>
    have H := Lib.hid h
    clear h
    have HS := Lib.hid ndSlice
    have q1 := Lib.run_eql_slice_nil (P := Try.prog) w 24 _ (some ad) xs.length c 0 0 Try.underlying24
    go_enter Try.func48, Try.ntmps48
    go_wp2_with (at_builtin; refine wpList_app (R := ndR) rfl (.tmp 5) (.tmp 6) rfl HS.out w.heap.size (some ⟨w.heap.size, 0, none⟩) 0 [] rfl (own_emptyZ (Blk.new w 32 #[]) (Nat.le_refl _)) w.heap.size (some ad) c xs rfl (by exact H.out.rd.kept (Nat.le_refl _) (Kept.alloc0 _ _) (.inl (Nat.le_refl _))) (by simp [maxLen]; omega) (by simp; omega) (by simp) ?_; intro D d w' hown hgrow hat)
    go_ret
    have hk : Kept 0 0 w w' := (Kept.alloc0 w (.cells #[] 32)).app hgrow (by intro g hg; injection hg with hg; subst hg; exact Nat.le_refl _)
    exact ⟨_, rfl, ⟨D, d, rfl, OwnZ.of_row hown⟩, hk⟩

set_option maxHeartbeats 3200000 in
theorem implGrown (t : List Nd) (x : Nd) (v : Value) (w : World) (h : RdNd w w.heap.size v t) :
    Calls Try.prog 21 #[v, .agg #[.int .i64 x.kind, .int .i64 x.up, .int .i64 x.due, .int .i64 x.key, .int .i64 x.value]] w fun e w' => ∃ u, e = .returned (.tuple #[u, .int .i64 (grownI t x)]) ∧ OwnNd w' w.heap.size w'.heap.size u (grownL t x) ∧ Kept 0 0 w w' := by
  have H := Lib.hid h
  obtain ⟨W, hW⟩ : ∃ W, W = w.alloc (.cells #[.int .i64 x.kind, .int .i64 x.up, .int .i64 x.due, .int .i64 x.key, .int .i64 x.value] 32) := ⟨_, rfl⟩
  have KW : Hid (Kept 0 0 w W) := by show Kept _ _ _ _; rw [hW]; exact Kept.alloc0 _ _
  have B0 : Hid (Blk W w.heap.size 32 #[.int .i64 x.kind, .int .i64 x.up, .int .i64 x.due, .int .i64 x.key, .int .i64 x.value]) := by show Blk _ _ _ _; rw [hW]; exact Blk.new _ _ _
  have CO := Lib.hid (implTreeOk t v W (H.out.up KW.out))
  have zW : w.heap.size + 1 ≤ W.heap.size := by rw [hW]; simp
  have HW := Lib.hid hW
  clear hW
  obtain ⟨A, c, rfl, h⟩ := h
  clear h
  cases q1 : treeB t
  · have E : Hid (grownI t x = -1) := by show _ = _; simp [grownI, q1]
    have EL : Hid (grownL t x = []) := by show _ = _; simp [grownL, q1]
    rw [q1] at CO
    clear q1
    go_enter Try.func21, Try.ntmps21
    go_wp2_with fail
    rw [← HW.out]
    with_reducible refine CO.out.mono ?_
    rintro e w1 ⟨rfl, hk⟩
    have K1 := Lib.hid (KW.out.trans hk)
    clear hk CO
    go_wp2
    go_ret2
    rw [E.out, EL.out]
    exact ⟨_, rfl, OwnNd.nil _ _ _, K1.out⟩
  have L : t.length ≤ 60 := (treeB_true.1 q1).len
  have Q1 := Lib.hid q1
  rw [q1] at CO
  clear q1
  go_enter Try.func21, Try.ntmps21
  go_wp2_with fail
  rw [← HW.out]
  with_reducible refine CO.out.mono ?_
  rintro e w1 ⟨rfl, hk⟩
  have K1 := Lib.hid (KW.out.trans hk)
  have b := B0.out.kept hk (.inl (Nat.le_refl _))
  have b0 := b.cell 0
  have b1 := b.cell 1
  have b2 := b.cell 2
  have b3 := b.cell 3
  have b4 := b.cell 4
  have z1 := K1.out.size
  have H1 := Lib.hid (H.out.kept (Nat.le_refl _) K1.out (.inl (Nat.le_refl _)))
  clear hk CO B0 KW HW H b
  -- the rows of the call of Concat
  obtain ⟨U, hU⟩ : ∃ U, U = (w1.alloc (.cells #[.int .i64 x.kind, .int .i64 x.up, .int .i64 x.due, .int .i64 x.key, .int .i64 x.value] 32)).alloc (.cells #[.slice A t.length c, .slice (some ⟨w1.heap.size, 0, none⟩) 1 1] 24) := ⟨_, rfl⟩
  have KU : Hid (Kept 0 0 w1 U) := by show Kept _ _ _ _; rw [hU]; exact (Kept.alloc0 _ _).alloc _
  have zU : U.heap.size = w1.heap.size + 2 := by rw [hU]; simp
  have MU : Hid (Many U (w1.heap.size + 1) [.slice A t.length c, .slice (some ⟨w1.heap.size, 0, none⟩) 1 1] [t, [x]]) := by
    refine ⟨?_, rfl, ?_⟩
    · rw [hU]
      have := Blk.new (w1.alloc (.cells #[.int .i64 x.kind, .int .i64 x.up, .int .i64 x.due, .int .i64 x.key, .int .i64 x.value] 32)) 24 #[.slice A t.length c, .slice (some ⟨w1.heap.size, 0, none⟩) 1 1]
      simpa using this
    · intro k hk
      match k, hk with
      | 0, _ =>
        obtain ⟨A', c', e', s'⟩ := (H1.out.kept z1 KU.out (.inl (Nat.le_refl _))).wide (B' := U.heap.size) (by omega)
        injection e' with e1 _ e2
        subst e1 e2
        exact ⟨A, c, rfl, s'⟩
      | 1, _ =>
        refine ⟨some ⟨w1.heap.size, 0, none⟩, 1, rfl, ?_, Nat.le_refl _, by unfold maxLen; omega⟩
        have := (rd_litN w1 x).kept (by simp) (Kept.alloc0 _ (.cells #[.slice A t.length c, .slice (some ⟨w1.heap.size, 0, none⟩) 1 1] 24)) (.inl (Nat.le_refl _))
        rw [← hU] at this
        exact this.wide (by omega)
  have HU := Lib.hid hU
  clear hU
  have CC := Lib.hid (concat_any [.slice A t.length c, .slice (some ⟨w1.heap.size, 0, none⟩) 1 1] [t, [x]] (w1.heap.size + 1) 2 U MU.out (by simp; omega) (by simp))
  rw [show [t, [x]].length = 2 from rfl, show [t, [x]].flatten = t ++ [x] from by simp] at CC
  go_wp2_with fail
  rw [← HU.out]
  with_reducible refine CC.out.mono ?_
  rintro e w2 ⟨_, rfl, ⟨D2, d2, rfl, ho⟩, hk⟩
  have O2 : Hid (OwnNd w2 w.heap.size w2.heap.size (.slice D2 (t.length + 1) d2) (t ++ [x])) := by
    show OwnNd _ _ _ _ _
    exact ⟨D2, d2, by simp, ho.wide (by omega) (Nat.le_refl _)⟩
  have K2 := Lib.hid ((K1.out.trans KU.out).trans hk)
  have H2 := Lib.hid ((H1.out.kept z1 KU.out (.inl (Nat.le_refl _))).kept (by omega) hk (.inl (Nat.le_refl _)))
  have z2 := hk.size
  clear ho hk MU HU KU CC b0 b1 b2 b3 b4
  go_wp2_with fail
  with_reducible refine (implTreeOk (t ++ [x]) _ w2 (O2.out.rdW (Nat.le_refl _))).mono ?_
  rintro e w3 ⟨rfl, hk⟩
  have K3 := Lib.hid (K2.out.trans hk)
  have O3 := Lib.hid (O2.out.kept hk (.inl (Nat.le_refl _)))
  have H3 := Lib.hid (H2.out.kept (by omega) hk (.inl (Nat.le_refl _)))
  have z3 := hk.size
  clear hk K2 O2 H2
  cases q2 : treeB (t ++ [x])
  · have E : Hid (grownI t x = -1) := by show _ = _; simp [grownI, Q1.out, q2]
    have EL : Hid (grownL t x = t) := by show _ = _; simp [grownL, Q1.out, q2]
    clear q2
    go_wp2_with fail
    with_reducible refine (clone_any t _ w3 (H3.out.wide (by omega)) (by omega)).mono ?_
    rintro e w5 ⟨_, rfl, ⟨D5, d5, rfl, ho⟩, hk⟩
    have K5 := Lib.hid (K3.out.trans hk)
    have O6 := Lib.hid (ho.wide (lo' := w.heap.size) (by omega) (Nat.le_refl _))
    clear hk ho
    go_wp2
    go_ret2
    rw [E.out, EL.out]
    exact ⟨_, rfl, ⟨D5, d5, rfl, O6.out⟩, K5.out⟩
  · have E : Hid (grownI t x = t.length) := by show _ = _; simp [grownI, Q1.out, q2]
    have EL : Hid (grownL t x = t ++ [x]) := by show _ = _; simp [grownL, Q1.out, q2]
    clear q2
    go_wp2
    go_ret2
    rw [E.out, EL.out]
    exact ⟨_, rfl, O3.out.wide (Nat.le_refl _) z3, K3.out⟩
end Go.Proofs.Ytakhegamlammcaa
