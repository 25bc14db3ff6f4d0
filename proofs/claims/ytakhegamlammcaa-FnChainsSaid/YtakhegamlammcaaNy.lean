/- The program's DueOf, ValueIn and ChainOf, which range over its iterators; no condition beyond that the slice can be read. -/
import Derived.Test.YtakhegamlammcaaNx
import Derived.Maps.AppendAt
namespace Go.Proofs.Ytakhegamlammcaa
open Go.RowKit Go.Sort Go.Shelf
attribute [local go_sem] Oper.semAt_some

theorem smaller_any (a b : Int) (w : World) : Calls Try.prog 60 #[.int .i64 a, .int .i64 b] w fun e w' => e = .returned (.int .i64 (minI a b)) ∧ Kept 0 0 w w' := by
  by_cases h : b < a
  · have E : Hid (minI a b = b) := by show _ = _; simp [minI, h]
    have h' : decide (b < a) = true := decide_eq_true h
    go_enter Try.func60, Try.ntmps60
    go_wp2
    go_ret
    exact ⟨by rw [E.out]; rfl, Kept.refl _ _ _⟩
  · have E : Hid (minI a b = a) := by show _ = _; simp [minI, h]
    have h' : decide (b < a) = false := decide_eq_false h
    go_enter Try.func60, Try.ntmps60
    go_wp2
    go_ret
    exact ⟨by rw [E.out]; rfl, Kept.refl _ _ _⟩
theorem sooner_any (a b : Int) (w : World) : Calls Try.prog 42 #[.int .i64 a, .int .i64 b] w fun e w' => e = .returned (.int .i64 (minI a b)) ∧ Kept 0 0 w w' := by
  go_enter Try.func42, Try.ntmps42
  go_wp2_with fail
  with_reducible refine (smaller_any a b _).mono ?_
  rintro e w1 ⟨rfl, hk1⟩
  go_wp2
  go_ret
  exact ⟨rfl, hk1⟩

theorem minDue_append (t : List Nd) (xs : List Int) (x : Int) : ∀ d, minDue t d (xs ++ [x]) = minI (minDue t d xs) (ndAt t x).due := by
  induction xs with
  | nil => intro d; rfl
  | cons y r ih => intro d; simp only [List.cons_append, minDue]; exact ih _
theorem minDue_take (t : List Nd) (xs : List Int) (k : Nat) (h : k < xs.length) : minDue t 9223372036854775807 (xs.take (k + 1)) = minI (minDue t 9223372036854775807 (xs.take k)) (ndAt t xs[k]).due := by
  rw [List.take_succ_eq_append_getElem h, minDue_append]

set_option maxRecDepth 100000 in
set_option maxHeartbeats 3200000 in
theorem implDue (t : List Nd) (n : Int) (v : Value) (w : World) (h : RdNd w w.heap.size v t) :
    Calls Try.prog 15 #[v, .int .i64 n] w fun e w' => e = .returned (.int .i64 (dueI t n)) ∧ Kept 0 0 w w' := by
  refine (callsIn_wide (n := 9)).1 ?_
  have hd : 1 ≤ 9 := by decide
  have hm := h.len
  unfold maxLen at hm
  obtain ⟨A, c, rfl, h⟩ := h
  refine callsIn_of_wp_marks Try.func15 rfl trivial ?_ rfl
  simp only [Try.ntmps15, List.size_toArray, List.length_cons, List.length_nil, Nat.reduceAdd, Nat.reduceSub, Array.replicate_succ, Array.replicate_zero, List.push_toArray, List.append_toArray, List.nil_append, List.cons_append]
  gi_wp2_with fail
  obtain ⟨W2, hW2⟩ : ∃ W2, W2 = (w.alloc (.cells #[.slice A t.length c] 24)).alloc (.cells #[.int .i64 9223372036854775807] 2) := ⟨_, rfl⟩
  obtain ⟨W4, hW4⟩ : ∃ W4, W4 = (W2.alloc (.cells #[.slice A t.length c] 24)).alloc (.cells #[.int .i64 n] 2) := ⟨_, rfl⟩
  have k2 : Kept 0 0 w W2 := by rw [hW2]; exact (Kept.alloc0 _ _).alloc _
  have k4 : Kept 0 0 W2 W4 := by rw [hW4]; exact (Kept.alloc0 _ _).alloc _
  have s2 : W2.heap.size = w.heap.size + 2 := by rw [hW2]; simp
  have s4 : W4.heap.size = w.heap.size + 4 := by rw [hW4]; simp [s2]
  have bT : Blk W4 w.heap.size 24 #[.slice A t.length c] := by
    have : Blk W2 w.heap.size 24 #[.slice A t.length c] := by rw [hW2]; exact (Blk.new _ _ _).alloc _
    exact this.kept k4 (.inl (Nat.le_refl _))
  have bD : Blk W4 (w.heap.size + 1) 2 #[.int .i64 9223372036854775807] := by
    have : Blk W2 (w.heap.size + 1) 2 #[.int .i64 9223372036854775807] := by
      rw [hW2]
      have := Blk.new (w.alloc (.cells #[.slice A t.length c] 24)) 2 #[.int .i64 9223372036854775807]
      rwa [World.size_alloc] at this
    exact this.kept k4 (.inl (Nat.le_refl _))
  have bl1 : Blk W4 (w.heap.size + 2) 24 #[.slice A t.length c] := by rw [hW4, ← s2]; exact (Blk.new _ _ _).alloc _
  have bl2 : Blk W4 (w.heap.size + 3) 2 #[.int .i64 n] := by
    rw [hW4]
    have := Blk.new (W2.alloc (.cells #[.slice A t.length c] 24)) 2 #[.int .i64 n]
    rwa [World.size_alloc, s2] at this
  have K4 := Lib.hid (k2.trans k4)
  have HR : Hid (RdNd W4 w.heap.size (.slice A t.length c) t) := RdNd.kept ⟨A, c, rfl, h⟩ (Nat.le_refl _) K4.out (.inl (Nat.le_refl _))
  have CL := chain_mk A t.length c n W2
  rw [← hW4, s2] at CL
  have SC := Lib.hid (seq_chain t n (.slice A t.length c) (w.heap.size + 2) (w.heap.size + 3) w.heap.size (fun k => k ≠ w.heap.size + 1 ∧ k < W4.heap.size) W4 HR.out (by omega) (fun k hk => by omega) bl1 (by omega) bl2)
  have CC := Lib.hid (chainL_line t n)
  rw [← hW2]
  replace bT := Lib.hid bT
  replace bD := Lib.hid bD
  refine ⟨trivial, ?_⟩
  refine (callsIn_wide.2 CL).mono ?_
  rintro e w' ⟨rfl, ew⟩
  obtain rfl : W4 = w' := ew.symm
  clear CL hW2 hW4 k2 k4 s2 bl1 bl2 h
  gi_wp2
  refine wp_over hd (gf := 59) (lb := #[.pointer (some ⟨w.heap.size + 2, 0, none⟩), .pointer (some ⟨w.heap.size + 3, 0, none⟩)]) rfl (enters_of Try.func59 (by kernel_rfl) rfl)
    (xs := chainL t n) (S := fun k => k ≠ w.heap.size + 1) SC.out
    (fun M k V => Blk V (w.heap.size + 1) 2 #[.int .i64 (minDue t 9223372036854775807 ((chainL t n).take k))] ∧ M ≤ V.heap.size ∧ Hold (fun k => k ≠ w.heap.size + 1) W4.heap.size W4.heap.size W4 V)
    (fun M c V => False)
    ?start ?stay ?stayx
    (fun x => { tmps := #[.slice A t.length c, .int .i64 n, .pointer (some ⟨w.heap.size, 0, none⟩), undef, .int .i64 0, .pointer (some ⟨w.heap.size + 1, 0, none⟩), .int .i64 x, .slice A t.length c, .int .i64 n,
      .func (.func 59) #[] #[.pointer (some ⟨w.heap.size + 2, 0, none⟩), .pointer (some ⟨w.heap.size + 3, 0, none⟩)], .int .i64 x, undef, undef, undef, undef, undef, undef, undef, undef], defers := [] })
    ?assign ?body ?done ?stop
  case start =>
    intro V hV _
    exact ⟨bD.out.kept hV (.inl (Nat.le_refl _)), Nat.le_refl _, Hold.of_kept0 hV (Nat.le_refl _)⟩
  case stay =>
    rintro M k V V' hM ⟨h1, hz, h2⟩ hV
    exact ⟨h1.kept hV (.inr (.inl (by omega))), Nat.le_trans hz hV.size, h2.trans (Hold.of_kept hV h2.size (fun k _ hk => by omega))⟩
  case stayx => intro _ _ _ _ _ h; exact h.elim
  case assign =>
    intro l x W K hK
    gi_wp2
    exact hK
  case body =>
    rintro l' M k hkc V hM ⟨h1, hz, h2⟩
    obtain ⟨e1, e2, e3, _, _⟩ := CC.out.2.2 k hkc (by have := CC.out.1; omega)
    have EM := Lib.hid (minDue_take t (chainL t n) k hkc)
    obtain ⟨x, hx⟩ : ∃ x, x = (chainL t n)[k] := ⟨_, rfl⟩
    rw [← hx] at e2 e3 EM ⊢
    clear hx e1
    obtain ⟨j, rfl⟩ := Int.eq_ofNat_of_zero_le e2
    have hj : j < t.length := by omega
    rw [ndAt_nat t hj] at EM
    have R3 := HR.out.held (by omega) h2 (by omega) (fun k hk => .inl (by omega))
    obtain ⟨A', c', e', R3⟩ := R3
    injection e' with eA _ ec
    subst eA; subst ec
    obtain ⟨ad, rfl, _, _, _, c2, _, _⟩ := R3.rd.nd hj
    clear R3
    have cT := (h2.blk bT.out (by omega) (.inl (by omega))).cell 0
    obtain ⟨d, hd'⟩ : ∃ d, d = minDue t 9223372036854775807 ((chainL t n).take k) := ⟨_, rfl⟩
    rw [← hd'] at h1 EM
    clear hd'
    have cD := h1.cell 0
    have fD := h1.frozen 0
    have B1 := Lib.hid h1
    have H2 := Lib.hid h2
    clear h1 h2
    have hd8 : 1 ≤ 8 := by decide
    have hmix : Try.prog.follows .mixedOrders = true := by kernel_rfl
    gi_wp2_with fail
    gi_region_with_o (refine ⟨trivial, ?_⟩; gi_at_call 42; refine (CallsIn.inRound l' (callsIn_wide.2 (sooner_any _ _ _))).mono ?_; rintro e w3 ⟨rfl, hk3⟩; have b3 := Blk.kept B1.out.drew hk3 (.inl (Nat.le_refl _)); have cD3 := b3.cell 0; have fD3 := b3.frozen 0)
    all_goals
      have k3 : Kept 0 0 V w3 := ⟨hk3.os, hk3.tape, hk3.output, hk3.size, hk3.block⟩
      have hh : ∀ M, M ≤ V.heap.size → Hold (fun k => k ≠ w.heap.size + 1) W4.heap.size M V (w3.setCell ⟨w.heap.size + 1, 0, none⟩ (.int .i64 (minI d t[j].due))) := fun M hM =>
        (Hold.of_kept0 k3 hM).setCell _ (fun k _ hk => by show k ≠ w.heap.size + 1; omega)
      refine ⟨hh M hz, ?_, Nat.le_trans hz (hh M hz).size, H2.out.trans (hh _ (by omega))⟩
      rw [EM.out]
      exact b3.set_ 0 _
  case done =>
    rintro D M V hD hDM ⟨h1, hz, h2⟩ hK
    have cD := h1.cell 0
    rw [List.take_length] at cD
    have KV : Hid (Kept 0 0 w (V.putObj D (.deferred none))) := by
      refine (Kept.trans2 K4.out (lo' := w.heap.size + 1) (hi' := w.heap.size + 2) ⟨h2.os, h2.tape, h2.output, h2.size, fun k h1 h3 => h2.block k h1 (.inl (by omega))⟩ (.inr (by omega))).trans2 (Kept.putObj V _ (Nat.le_refl D) (Nat.lt_succ_self D)) (.inr (by omega))
    clear h1 h2
    gi_wp2
    refine ⟨by simp, .inl ⟨_, _, rfl, run_takeDeferred hK, ?_⟩⟩
    exact ⟨_, results_tmp rfl _ _ _, rfl, KV.out⟩
  case stop =>
    rintro D M c V hD hDM h hK
    exact h.elim

/-- No node of the first k of the line carries that key. -/
def NoVal (t : List Nd) (key : Int) (xs : List Int) (k : Nat) : Prop := ∀ i (h : i < xs.length), i < k → ¬((ndAt t xs[i]).kind = 3 ∧ (ndAt t xs[i]).key = key)
theorem NoVal.succ {t : List Nd} {key : Int} {xs : List Int} {k : Nat} (h : NoVal t key xs k) (hk : k < xs.length) (hn : ¬((ndAt t xs[k]).kind = 3 ∧ (ndAt t xs[k]).key = key)) : NoVal t key xs (k + 1) := fun i hi hl => by
  rcases Nat.lt_or_ge i k with h' | h'
  · exact h i hi h'
  · obtain rfl : i = k := by omega
    exact hn
theorem val_line_none {t : List Nd} (o : TreeP t) (key : Int) : ∀ (m : Nat) (n : Int), n < m → n < t.length → NoVal t key (lineOf t n) (lineOf t n).length → valOf t key n = none := by
  intro m
  induction m with
  | zero => intro n hn _ _; exact val_neg t key (by omega)
  | succ m ih =>
    intro n hn hl hv
    rcases Int.lt_or_le n 0 with h | h
    · exact val_neg t key h
    · obtain ⟨j, rfl⟩ := Int.eq_ofNat_of_zero_le h
      have hj : j < t.length := by omega
      have u := o.up hj
      rw [line_nat o hj] at hv
      have h0 := hv 0 (by simp) (by simp)
      simp only [List.getElem_cons_zero, ndAt_nat t hj] at h0
      rw [val_nat o key hj, if_neg h0]
      refine ih _ (by omega) (by omega) (fun i hi _ => ?_)
      have := hv (i + 1) (by simpa using hi) (by simpa using hi)
      simpa using this
theorem val_line_some {t : List Nd} (o : TreeP t) (key : Int) : ∀ (m : Nat) (n : Int), n < m → n < t.length → ∀ k (h : k < (lineOf t n).length), NoVal t key (lineOf t n) k →
    (ndAt t (lineOf t n)[k]).kind = 3 ∧ (ndAt t (lineOf t n)[k]).key = key → valOf t key n = some (ndAt t (lineOf t n)[k]).value := by
  intro m
  induction m with
  | zero => intro n hn _ k h; rw [line_neg t (by omega)] at h; simp at h
  | succ m ih =>
    intro n hn hl k h hv hk
    rcases Int.lt_or_le n 0 with hneg | hpos
    · rw [line_neg t hneg] at h; simp at h
    · obtain ⟨j, rfl⟩ := Int.eq_ofNat_of_zero_le hpos
      have hj : j < t.length := by omega
      have u := o.up hj
      have e := line_nat o hj
      cases k with
      | zero =>
        have e0 : (lineOf t j)[0] = (j : Int) := by simp [e]
        rw [e0, ndAt_nat t hj] at hk ⊢
        rw [val_nat o key hj, if_pos hk]
      | succ k =>
        have hk' : k < (lineOf t t[j].up).length := by rw [e] at h; simpa using h
        have ek : (lineOf t j)[k + 1] = (lineOf t t[j].up)[k] := by simp [e]
        rw [ek] at hk ⊢
        have h0 := hv 0 (by omega) (by omega)
        have e0 : (lineOf t j)[0] = (j : Int) := by simp [e]
        rw [e0, ndAt_nat t hj] at h0
        rw [val_nat o key hj, if_neg h0]
        refine ih _ (by omega) (by omega) k hk' (fun i hi hik => ?_) hk
        have := hv (i + 1) (by omega) (by omega)
        have ei : (lineOf t j)[i + 1]'(by omega) = (lineOf t t[j].up)[i] := by simp [e]
        rwa [ei] at this
theorem val_none (t : List Nd) (n key : Int) (h : NoVal t key (lineL t n) (lineL t n).length) : valI t n key = 0 ∧ valB t n key = false := by
  have : valO t n key = none := by
    unfold valO
    split
    · rename_i hh
      have e : lineL t n = lineOf t n := by simp [lineL, hh]
      rw [e] at h
      obtain ⟨o, _, h1⟩ := hasB_true.1 hh
      exact val_line_none o key _ n h1 h1 h
    · rfl
  simp [valI, valB, this]
theorem val_some (t : List Nd) (n key : Int) (k : Nat) (hk : k < (lineL t n).length) (h : NoVal t key (lineL t n) k) (hv : (ndAt t (lineL t n)[k]).kind = 3 ∧ (ndAt t (lineL t n)[k]).key = key) :
    valI t n key = (ndAt t (lineL t n)[k]).value ∧ valB t n key = true := by
  cases hh : hasB t n
  · exfalso
    simp [lineL, hh] at hk
  · have e : lineL t n = lineOf t n := by simp [lineL, hh]
    obtain ⟨o, _, h1⟩ := hasB_true.1 hh
    simp only [e] at hk h hv ⊢
    have := val_line_some o key _ n h1 h1 k hk h hv
    have : valO t n key = some (ndAt t (lineOf t n)[k]).value := by unfold valO; rw [hh]; exact this
    simp [valI, valB, this]
theorem lineL_at (t : List Nd) (n : Int) (k : Nat) (h : k < (lineL t n).length) : 0 ≤ (lineL t n)[k] ∧ (lineL t n)[k] < t.length := by
  cases hh : hasB t n
  · exfalso
    simp [lineL, hh] at h
  · have e : lineL t n = lineOf t n := by simp [lineL, hh]
    obtain ⟨o, _, h1⟩ := hasB_true.1 hh
    simp only [e] at h ⊢
    have := line_mem o t.length n h1 h1 _ (List.getElem_mem h)
    omega
end Go.Proofs.Ytakhegamlammcaa
