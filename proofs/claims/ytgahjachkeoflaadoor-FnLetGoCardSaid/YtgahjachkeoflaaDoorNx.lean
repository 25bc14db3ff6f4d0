/- The program's iterators over a tree: line, from a node up to its root; no condition beyond that the slice can be read. -/
import Derived.Test.YtgahjachkeoflaaDoorNo
import Derived.Test.YtgahjachkeoflaaDoorNq
namespace Go.Proofs.YtgahjachkeoflaaDoor
open Go.RowKit Go.Sort Go.Shelf
attribute [local go_sem] Oper.semAt_some

theorem RdNd.held {w w' : World} {B B' M : Nat} {S : Nat → Prop} {v : Value} {t : List Nd} (h : RdNd w B v t) (hB : B ≤ w.heap.size) (hk : Hold S B' M w w') (hM : B ≤ M) (hS : ∀ k, k < B → S k ∨ B' ≤ k) : RdNd w' B v t :=
  h.kept hB (lo := B) (hi := w.heap.size) ⟨hk.os, hk.tape, hk.output, hk.size, fun k h1 h2 => hk.block k (by omega) (hS k (by omega))⟩ (.inr (Nat.le_refl _))

theorem line_mk (A : Option Addr) (k c : Nat) (n : Int) (w : World) :
    Calls Tryd.prog 98 #[.slice A k c, .int .i64 n] w fun e w' => e = .returned (.func (.func 100) #[] #[.pointer (some ⟨w.heap.size, 0, none⟩), .pointer (some ⟨w.heap.size + 1, 0, none⟩)]) ∧
      w' = (w.alloc (.cells #[.slice A k c] 24)).alloc (.cells #[.int .i64 n] 2) := by
  go_enter Tryd.func98, Tryd.ntmps98
  go_wp2
  go_ret
  exact ⟨rfl, rfl⟩
theorem chain_mk (A : Option Addr) (k c : Nat) (n : Int) (w : World) :
    Calls Tryd.prog 93 #[.slice A k c, .int .i64 n] w fun e w' => e = .returned (.func (.func 97) #[] #[.pointer (some ⟨w.heap.size, 0, none⟩), .pointer (some ⟨w.heap.size + 1, 0, none⟩)]) ∧
      w' = (w.alloc (.cells #[.slice A k c] 24)).alloc (.cells #[.int .i64 n] 2) := by
  go_enter Tryd.func93, Tryd.ntmps93
  go_wp2
  go_ret
  exact ⟨rfl, rfl⟩

theorem drop_cons_at {xs : List Int} {k : Nat} {x : Int} {r : List Int} (h : xs.drop k = x :: r) : ∃ hk : k < xs.length, xs[k] = x ∧ xs.drop (k + 1) = r := by
  have hk : k < xs.length := by
    rcases Nat.lt_or_ge k xs.length with h' | h'
    · exact h'
    · rw [List.drop_of_length_le h'] at h; cases h
  rw [List.drop_eq_getElem_cons hk] at h
  injection h with h1 h2
  exact ⟨hk, h1, h2⟩

set_option maxRecDepth 100000 in
set_option maxHeartbeats 3200000 in
/-- line's function hands out the line of the node. -/
theorem seq_line (t : List Nd) (n : Int) (v : Value) (bt bn B : Nat) (S : Nat → Prop) (w₀ : World) (h : RdNd w₀ B v t) (hB : B ≤ w₀.heap.size) (hS : ∀ k, k < B → S k)
    (b1 : Blk w₀ bt 24 #[v]) (s1 : S bt) (b2 : Blk w₀ bn 2 #[.int .i64 n]) :
    Seq Tryd.prog 100 #[.pointer (some ⟨bt, 0, none⟩), .pointer (some ⟨bn, 0, none⟩)] (lineL t n) S w₀ := by
  intro n' m l W J Jx hW h0 hJ hJx hY
  refine callsIn_wide.2 ((callsIn_wide (n := 9)).1 ?_)
  have hd : 1 ≤ 9 := by decide
  have hm := h.len
  unfold maxLen at hm
  replace h := h.kept hB hW (.inl (Nat.le_refl _))
  replace hB := Nat.le_trans hB hW.size
  have cT := (b1.kept hW (.inl (Nat.le_refl _))).cell 0
  have cN := (b2.kept hW (.inl (Nat.le_refl _))).cell 0
  have b1' := Lib.hid (b1.kept hW (.inl (Nat.le_refl _)))
  have b2' := Lib.hid (b2.kept hW (.inl (Nat.le_refl _)))
  clear b1 b2 hW
  have CH := Lib.hid (implHas t n v W (h.wide hB))
  have H := Lib.hid h
  obtain ⟨A, c, rfl, h⟩ := h
  clear h
  replace h0 := Lib.hid h0
  replace hJ := Lib.hid hJ
  replace hJx := Lib.hid hJx
  replace hY := Lib.hid hY
  replace hS := Lib.hid hS
  replace s1 := Lib.hid s1
  cases hh : hasB t n
  · have E : Hid ((lineL t n).length = 0) := by show _ = _; simp [lineL, hh]
    rw [hh] at CH
    refine callsIn_of_wp Tryd.func100 rfl trivial ?_ rfl
    simp only [Tryd.ntmps100, List.size_toArray, List.length_cons, List.length_nil, Nat.reduceAdd, Nat.reduceSub, Array.replicate_succ, Array.replicate_zero, List.push_toArray, List.append_toArray, List.nil_append, List.cons_append]
    gi_wp2_with (refine ⟨trivial, ?_⟩; gi_at_call 88; refine (callsIn_wide.2 CH.out).mono ?_; rintro e W1 ⟨rfl, hk1⟩)
    refine bodyPost_ret (results_none rfl _ _ _) rfl ?_
    exact ⟨⟨_, rfl⟩, _, hk1.size, .inl (by rw [E.out]; exact h0.out _ hk1)⟩
  obtain ⟨o, hn0, hn1⟩ := hasB_true.1 hh
  have E : Hid (lineL t n = lineOf t n) := by show _ = _; simp [lineL, hh]
  have O := Lib.hid o
  rw [hh] at CH
  clear hh o
  refine callsIn_of_wp Tryd.func100 rfl trivial ?_ rfl
  simp only [Tryd.ntmps100, List.size_toArray, List.length_cons, List.length_nil, Nat.reduceAdd, Nat.reduceSub, Array.replicate_succ, Array.replicate_zero, List.push_toArray, List.append_toArray, List.nil_append, List.cons_append]
  gi_wp2_with (refine ⟨trivial, ?_⟩; gi_at_call 88; refine (callsIn_wide.2 CH.out).mono ?_; rintro e W1 ⟨rfl, hk1⟩; have cN1 := (b2'.out.kept hk1 (.inl (Nat.le_refl _))).cell 0)
  have K1 := Lib.hid hk1
  clear cN1 cN cT hk1
  gi_loopw [4] (fun p wr => ∃ (k : Nat) (i : Int), p = .int .i64 i ∧ -1 ≤ i ∧ i < t.length ∧ Hid ((lineL t n).drop k = lineOf t i) ∧ Hid (k ≤ (lineL t n).length) ∧ Hid (J W1.heap.size k wr) ∧ Hid (Hold S W.heap.size W1.heap.size W1 wr)) (fun p _ => (intOf p + 1).toNat)
  case atStart => exact ⟨0, n, rfl, by omega, hn1, by rw [E.out]; exact Lib.hid rfl, Lib.hid (Nat.zero_le _), Lib.hid (h0.out _ K1.out), Lib.hid (Hold.refl _ _ _ _)⟩
  case round =>
    obtain ⟨k, i, rfl, hi0, hi1, hd', hk', HJ, HH⟩ := hrel
    rcases Int.lt_or_le i 0 with hneg | hpos
    · have e0 : Hid (k = (lineL t n).length) := by
        have := hd'.out
        rw [line_neg t hneg] at this
        have := List.drop_eq_nil_iff.1 this
        have := hk'.out
        show k = _
        omega
      gi_wp2
      go_end0
      exact ⟨⟨_, rfl⟩, _, K1.out.size, .inl (by rw [← e0.out]; exact HJ.out)⟩
    · obtain ⟨j, rfl⟩ := Int.eq_ofNat_of_zero_le hpos
      have hj : j < t.length := by omega
      have hd2 := hd'.out
      rw [line_nat O.out hj] at hd2
      obtain ⟨hkl, hx, hd3⟩ := drop_cons_at hd2
      obtain ⟨fn, tmps, assign, body, hy, hR⟩ := yield_deep (m' := 9 - 1) (hY.out W1.heap.size k hkl wr K1.out.size HJ.out)
      rw [hx] at hy
      have HD3 := Lib.hid hd3
      have HKL := Lib.hid hkl
      clear hd2 hd3 hx hkl hd'
      gi_wp2
      refine hR.mono ?_
      clear hR hy
      rintro e W3 ⟨hh3, (⟨rfl, hJ3⟩ | ⟨rfl, hJx3⟩)⟩
      · have HH3 := Lib.hid (HH.out.trans hh3)
        have cT3 := (HH3.out.blk (b1'.out.kept K1.out (.inl (Nat.le_refl _))) (Nat.lt_of_lt_of_le b1'.out.lt K1.out.size) (.inl s1.out)).cell 0
        have R3 := ((H.out.kept hB K1.out (.inl (Nat.le_refl _))).held (Nat.le_trans hB K1.out.size) HH3.out (Nat.le_trans hB K1.out.size) (fun k hk => .inl (hS.out k hk)))
        obtain ⟨A', c', e', R3⟩ := R3
        injection e' with eA _ ec
        subst eA; subst ec
        obtain ⟨ad, rfl, _, _, c1, _, _, _⟩ := R3.rd.nd hj
        have HU := Lib.hid (O.out.up hj)
        have HJ3 := Lib.hid hJ3
        clear R3 hh3 hJ3
        gi_wp2
        go_roundw
        case rel => exact ⟨k + 1, t[j].up, rfl, HU.out.1, by have := HU.out.2.1; omega, HD3, Lib.hid HKL.out, HJ3, HH3⟩
        case measure => have := HU.out; simp [intOf]; omega
      · gi_wp2
        refine bodyPost_ret (results_none rfl _ _ _) rfl ?_
        exact ⟨⟨_, rfl⟩, _, K1.out.size, .inr hJx3⟩

/-- The chain within the line, number by number. -/
theorem chainL_line (t : List Nd) (n : Int) : (chainL t n).length ≤ (lineL t n).length ∧ ((chainL t n).length = 0 → (lineL t n).length = 0) ∧
    (∀ k (h : k < (chainL t n).length) (h' : k < (lineL t n).length), (lineL t n)[k] = (chainL t n)[k] ∧ 0 ≤ (chainL t n)[k] ∧ (chainL t n)[k] < t.length ∧
      ((ndAt t (chainL t n)[k]).kind = 4 → k + 1 = (chainL t n).length) ∧ ((ndAt t (chainL t n)[k]).kind ≠ 4 → k + 1 < (chainL t n).length ∨ (k + 1 = (chainL t n).length ∧ k + 1 = (lineL t n).length))) := by
  cases hh : hasB t n
  · have e1 : chainL t n = [] := by simp [chainL, hh]
    have e2 : lineL t n = [] := by simp [lineL, hh]
    refine ⟨by simp [e1], by simp [e2], fun k h => ?_⟩
    exfalso; rw [e1] at h; simp at h
  obtain ⟨o, hn0, hn1⟩ := hasB_true.1 hh
  have e1 : chainL t n = chainOf t n := by simp [chainL, hh]
  have e2 : lineL t n = lineOf t n := by simp [lineL, hh]
  rw [e1, e2]
  obtain ⟨p, q1, q2⟩ := chain_line o t.length n hn1 hn1
  refine ⟨p.length_le, fun h0 => ?_, fun k h h' => ?_⟩
  · obtain ⟨j, rfl⟩ := Int.eq_ofNat_of_zero_le hn0
    rw [chain_nat o (by omega)] at h0
    cases h0
  · have e := List.IsPrefix.getElem p h
    have m := line_mem o t.length n hn1 hn1 _ (List.getElem_mem h')
    refine ⟨e.symm, by rw [e]; exact m.1, by rw [e]; omega, q1 k h, fun hk => ?_⟩
    rcases Nat.lt_or_ge (k + 1) (chainOf t n).length with hl | hl
    · exact .inl hl
    · rcases q2 k h (by omega) with h4 | h4
      · exact absurd h4 hk
      · exact .inr ⟨by omega, h4⟩

set_option maxRecDepth 100000 in
set_option maxHeartbeats 3200000 in
/-- chain's function hands out the chain of the node. -/
theorem seq_chain (t : List Nd) (n : Int) (v : Value) (bt bn B : Nat) (S : Nat → Prop) (w₀ : World) (h : RdNd w₀ B v t) (hB : B ≤ w₀.heap.size) (hS : ∀ k, k < B → S k)
    (b1 : Blk w₀ bt 24 #[v]) (s1 : S bt) (b2 : Blk w₀ bn 2 #[.int .i64 n]) :
    Seq Tryd.prog 97 #[.pointer (some ⟨bt, 0, none⟩), .pointer (some ⟨bn, 0, none⟩)] (chainL t n) S w₀ := by
  intro n' m l W J Jx hW h0 hJ hJx hY
  refine callsIn_wide.2 ((callsIn_wide (n := 9)).1 ?_)
  have hd : 1 ≤ 9 := by decide
  have hm := h.len
  unfold maxLen at hm
  replace h := h.kept hB hW (.inl (Nat.le_refl _))
  replace hB := Nat.le_trans hB hW.size
  replace b1 := b1.kept hW (.inl (Nat.le_refl _))
  replace b2 := b2.kept hW (.inl (Nat.le_refl _))
  clear hW
  obtain ⟨A, c, rfl, h⟩ := h
  obtain ⟨Wy, hWy⟩ : ∃ Wy, Wy = W.alloc (.cells #[.func (.yield l) #[] #[]] 139) := ⟨_, rfl⟩
  obtain ⟨W2, hW2⟩ : ∃ W2, W2 = (Wy.alloc (.cells #[.slice A t.length c] 24)).alloc (.cells #[.int .i64 n] 2) := ⟨_, rfl⟩
  have ky : Kept 0 0 W Wy := by rw [hWy]; exact Kept.alloc0 _ _
  have k2 : Kept 0 0 Wy W2 := by rw [hW2]; exact (Kept.alloc0 _ _).alloc _
  have sy : Wy.heap.size = W.heap.size + 1 := by rw [hWy]; simp
  have s2 : W2.heap.size = W.heap.size + 3 := by rw [hW2]; simp [sy]
  have by_ : Blk W2 W.heap.size 139 #[.func (.yield l) #[] #[]] := by
    have : Blk Wy W.heap.size 139 #[.func (.yield l) #[] #[]] := by rw [hWy]; exact Blk.new _ _ _
    exact this.kept k2 (.inl (Nat.le_refl _))
  have bl1 : Blk W2 (W.heap.size + 1) 24 #[.slice A t.length c] := by rw [hW2, ← sy]; exact (Blk.new _ _ _).alloc _
  have bl2 : Blk W2 (W.heap.size + 2) 2 #[.int .i64 n] := by
    rw [hW2]
    have := Blk.new (Wy.alloc (.cells #[.slice A t.length c] 24)) 2 #[.int .i64 n]
    rwa [World.size_alloc, sy] at this
  have b1y := b1.kept ky (.inl (Nat.le_refl _))
  have b12 := b1y.kept k2 (.inl (Nat.le_refl _))
  have cT := b1y.cell 0
  have cN := (b2.kept ky (.inl (Nat.le_refl _))).cell 0
  have HR : Hid (RdNd W2 B (.slice A t.length c) t) := RdNd.kept (RdNd.kept ⟨A, c, rfl, h⟩ hB ky (.inl (Nat.le_refl _))) (by rw [sy]; omega) k2 (.inl (Nat.le_refl _))
  have CL := Lib.hid (line_mk A t.length c n Wy)
  have SL := seq_line t n (.slice A t.length c) (W.heap.size + 1) (W.heap.size + 2) B (fun k => (S k ∨ W.heap.size ≤ k) ∧ k < W2.heap.size) W2 HR.out (by omega) (fun k hk => ⟨.inl (hS k hk), by omega⟩) bl1 ⟨.inr (by omega), by omega⟩ bl2
  have K02 := Lib.hid (ky.trans k2)
  replace by_ := Lib.hid by_
  replace b12 := Lib.hid b12
  replace h0 := Lib.hid h0
  replace hJ := Lib.hid hJ
  replace hJx := Lib.hid hJx
  replace hY := Lib.hid hY
  replace hS := Lib.hid hS
  replace s1 := Lib.hid s1
  have SL := Lib.hid SL
  have CC := Lib.hid (chainL_line t n)
  replace hWy := Lib.hid hWy
  replace hW2 := Lib.hid hW2
  rw [sy] at CL
  have CL : Hid (CallsIn Fence.wide (9 - 1) Tryd.prog 98 #[.slice A t.length c, .int .i64 n] Wy fun e w' => e = .returned (.func (.func 100) #[] #[.pointer (some ⟨W.heap.size + 1, 0, none⟩), .pointer (some ⟨W.heap.size + 2, 0, none⟩)]) ∧ W2 = w') := by
    show CallsIn _ _ _ _ _ _ _
    rw [hW2.out]; exact (callsIn_wide.2 CL.out).mono fun _ _ h => ⟨h.1, h.2.symm⟩
  clear h b1 b2 ky k2 b1y bl1 bl2
  rw [hWy.out] at cT cN
  refine callsIn_of_wp_marks Tryd.func97 rfl trivial ?_ rfl
  simp only [Tryd.ntmps97, List.size_toArray, List.length_cons, List.length_nil, Nat.reduceAdd, Nat.reduceSub, Array.replicate_succ, Array.replicate_zero, List.push_toArray, List.append_toArray, List.nil_append, List.cons_append]
  gi_wp2_with (refine ⟨trivial, ?_⟩; gi_at_call 98; rw [← hWy.out]; refine CL.out.mono ?_; rintro e w' ⟨rfl, rfl⟩)
  refine wp_over hd (gf := 100) (lb := #[.pointer (some ⟨W.heap.size + 1, 0, none⟩), .pointer (some ⟨W.heap.size + 2, 0, none⟩)]) rfl (enters_of Tryd.func100 (by kernel_rfl) rfl)
    (xs := lineL t n) (S := fun k => S k ∨ W.heap.size ≤ k) SL.out
    (fun M k V => (k < (chainL t n).length ∨ (k = (chainL t n).length ∧ k = (lineL t n).length)) ∧ J M k V ∧ Hold (fun k => S k ∨ W.heap.size ≤ k) W2.heap.size W2.heap.size W2 V)
    (fun M c V => c = .ret ∧ (J M (chainL t n).length V ∨ Jx M V))
    ?start ?stay ?stayx
    (fun x => { tmps := #[.func (.yield l) #[] #[], .pointer (some ⟨bt, 0, none⟩), .pointer (some ⟨bn, 0, none⟩), .pointer (some ⟨W.heap.size, 0, none⟩), .int .i64 x, .slice A t.length c, .int .i64 n,
      .func (.func 100) #[] #[.pointer (some ⟨W.heap.size + 1, 0, none⟩), .pointer (some ⟨W.heap.size + 2, 0, none⟩)], .int .i64 x, undef, undef, undef, undef, undef, undef, undef, undef, undef, undef, undef, undef], defers := [] })
    ?assign ?body ?done ?stop
  case start =>
    intro V hV _
    refine ⟨?_, h0.out V (K02.out.trans hV), Hold.of_kept0 hV (Nat.le_refl _)⟩
    have := CC.out.2.1
    omega
  case stay =>
    rintro M k V V' hM ⟨h1, h2, h3⟩ hV
    refine ⟨h1, hJ.out M k V V' (by omega) h2 (hV.wide (.inr ⟨by omega, Nat.le_refl _⟩)), h3.trans (Hold.of_kept hV h3.size ?_)⟩
    intro k _ hk; omega
  case stayx =>
    rintro M c V V' hM ⟨h1, h2⟩ hV
    have hV' := hV.wide (lo' := W.heap.size) (hi' := M) (.inr ⟨by omega, Nat.le_refl _⟩)
    exact ⟨h1, h2.imp (fun h => hJ.out M _ V V' (by omega) h hV') (fun h => hJx.out M V V' (by omega) h hV')⟩
  case assign =>
    intro l x W K hK
    gi_wp2
    exact hK
  case body =>
    rintro l' M k hkl V hM ⟨h1, h2, h3⟩
    have hkc : k < (chainL t n).length := by omega
    obtain ⟨e1, e2, e3, e4, e5⟩ := CC.out.2.2 k hkc hkl
    obtain ⟨fn, tmps, assign, body, hy, hR⟩ := yield_deep (m' := 8 - 1) (hY.out M k hkc V (by omega) h2)
    rw [e1]
    obtain ⟨x, hx⟩ : ∃ x, x = (chainL t n)[k] := ⟨_, rfl⟩
    rw [← hx] at hy e2 e3 e4 e5 ⊢
    have H3 := Lib.hid h3
    have cY := (H3.out.blk by_.out (by omega) (.inl (.inr (Nat.le_refl _)))).cell 0
    clear h3 h2 hx e1
    have hd8 : 1 ≤ 8 := by decide
    have CC' := CC.out.1
    clear CC
    gi_wp2
    refine RoundIn.mono (F := Fence.wide.inRound l') hR ?_
    clear hR hy
    rintro e V3 ⟨hh3, (⟨rfl, hJ3⟩ | ⟨rfl, hJx3⟩)⟩
    · have hh3 : Hold (fun k => S k ∨ W.heap.size ≤ k) W2.heap.size M V V3 := hh3.mono (Nat.le_refl _) (fun k _ h => h.elim id (fun h => .inr (by omega)))
      have hH3 := H3.out.trans (hh3.mono (by omega) (fun _ _ h => h))
      have cT3 := (hH3.blk b12.out b12.out.lt (.inl (.inl s1.out))).cell 0
      have R3 := HR.out.held (by omega) hH3 (by omega) (fun k hk => .inl (.inl (hS.out k hk)))
      obtain ⟨A', c', e', R3⟩ := R3
      injection e' with eA _ ec
      subst eA; subst ec
      obtain ⟨j, rfl⟩ := Int.eq_ofNat_of_zero_le e2
      have hj : j < t.length := by omega
      rw [ndAt_nat t hj] at e4 e5
      obtain ⟨ad, rfl, _, c0, _, _, _, _⟩ := R3.rd.nd hj
      have HH3 := Lib.hid hH3
      have HH4 := Lib.hid hh3
      have HJ3 := Lib.hid hJ3
      have E4 := Lib.hid e4
      have E5 := Lib.hid e5
      clear R3 hH3 hh3 hJ3 e4 e5
      by_cases h4 : t[j].kind = 4
      · have E := Lib.hid (E4.out h4)
        rw [h4] at c0
        gi_wp2
        exact ⟨HH4.out, rfl, .inl (by rw [← E.out]; exact HJ3.out)⟩
      · have E := Lib.hid (E5.out h4)
        gi_wp2
        exact ⟨HH4.out, E.out, HJ3.out, HH3.out⟩
    · gi_wp2
      exact ⟨hh3.mono (Nat.le_refl _) (fun k _ h => h.elim id (fun h => .inr (by omega))), rfl, .inr hJx3⟩
  case done =>
    rintro D M V hD hDM ⟨h1, h2, _⟩ hK
    have e : (lineL t n).length = (chainL t n).length := by have := CC.out.1; omega
    gi_wp2
    refine ⟨by simp, .inl ⟨_, _, rfl, run_takeDeferred hK, ?_⟩⟩
    exact ⟨_, results_none rfl _ _ _, ⟨_, rfl⟩, M, by omega, .inl (by rw [← e]; exact hJ.out M _ V _ (by omega) h2 (Kept.putObj V _ (by omega) hDM))⟩
  case stop =>
    rintro D M c V hD hDM ⟨rfl, h2⟩ hK
    gi_wp2
    refine ⟨by simp, .inl ⟨_, _, rfl, run_takeDeferred hK, ?_⟩⟩
    have hV' : Kept W.heap.size M V (V.putObj D (.deferred none)) := Kept.putObj V _ (by omega) hDM
    exact ⟨_, results_none rfl _ _ _, ⟨_, rfl⟩, M, by omega, h2.imp (fun h => hJ.out M _ V _ (by omega) h hV') (fun h => hJx.out M V _ (by omega) h hV')⟩
end Go.Proofs.YtgahjachkeoflaaDoor
