/- The program's ValueIn, which ranges over the line of a node; no condition beyond that the slice can be read. -/
import Derived.Test.YtakhegamlammcaaNy
namespace Go.Proofs.Ytakhegamlammcaa
open Go.RowKit Go.Sort Go.Shelf
attribute [local go_sem] Oper.semAt_some

theorem putObj_blk {w : World} {g t D : Nat} {cs : Array Value} (h : Blk w g t cs) {o o' : Obj} (hD : w.heap[D]? = some o') (hc : o'.isCells = false) : Blk (w.putObj D o) g t cs := by
  refine (World.putObj_heap_other (fun e => ?_)).trans h
  subst e
  rw [show w.heap[g]? = _ from h] at hD
  cases hD
  cases hc

theorem results_val (tmps : Array Value) (w : World) (p q : Nat) (x : Int) (b : Bool) (hp : tmps[6]?.getD undef = .pointer (some ⟨p, 0, none⟩)) (hq : tmps[7]?.getD undef = .pointer (some ⟨q, 0, none⟩))
    (h1 : w.cell? ⟨p, 0, none⟩ = some (.int .i64 x)) (h2 : w.cell? ⟨q, 0, none⟩ = some (.bool b)) :
    (results Try.f19 tmps).run Try.prog w = .ok (.tuple #[.int .i64 x, .bool b]) w := by
  simp [results, hp, hq, go_sem, h1, h2]
theorem Hold.drew {S : Nat → Prop} {B M : Nat} {w w' : World} (h : Hold S B M w w') : Hold S B M w w'.drew := ⟨h.os, h.tape, h.output, h.size, h.block⟩
set_option maxRecDepth 100000 in
set_option maxHeartbeats 6400000 in
theorem implVal (t : List Nd) (n key : Int) (v : Value) (w : World) (h : RdNd w w.heap.size v t) :
    Calls Try.prog 19 #[v, .int .i64 n, .int .i64 key] w fun e w' => e = .returned (.tuple #[.int .i64 (valI t n key), .bool (valB t n key)]) ∧ Kept 0 0 w w' := by
  refine (callsIn_wide (n := 9)).1 ?_
  have hd : 1 ≤ 9 := by decide
  have hm := h.len
  unfold maxLen at hm
  obtain ⟨A, c, rfl, h⟩ := h
  refine callsIn_of_wp_marks Try.func19 rfl trivial ?_ rfl
  simp only [Try.ntmps19, List.size_toArray, List.length_cons, List.length_nil, Nat.reduceAdd, Nat.reduceSub, Array.replicate_succ, Array.replicate_zero, List.push_toArray, List.append_toArray, List.nil_append, List.cons_append]
  gi_wp2_with fail
  obtain ⟨W4, hW4⟩ : ∃ W4, W4 = (((w.alloc (.cells #[.slice A t.length c] 24)).alloc (.cells #[.int .i64 key] 2)).alloc (.cells #[.int .i64 0] 2)).alloc (.cells #[.bool false] 4) := ⟨_, rfl⟩
  obtain ⟨W6, hW6⟩ : ∃ W6, W6 = (W4.alloc (.cells #[.slice A t.length c] 24)).alloc (.cells #[.int .i64 n] 2) := ⟨_, rfl⟩
  have k4 : Kept 0 0 w W4 := by rw [hW4]; exact (((Kept.alloc0 _ _).alloc _).alloc _).alloc _
  have k6 : Kept 0 0 W4 W6 := by rw [hW6]; exact (Kept.alloc0 _ _).alloc _
  have s4 : W4.heap.size = w.heap.size + 4 := by rw [hW4]; simp
  have s6 : W6.heap.size = w.heap.size + 6 := by rw [hW6]; simp [s4]
  have bT : Blk W6 w.heap.size 24 #[.slice A t.length c] := by
    have : Blk W4 w.heap.size 24 #[.slice A t.length c] := by rw [hW4]; exact (((Blk.new _ _ _).alloc _).alloc _).alloc _
    exact this.kept k6 (.inl (Nat.le_refl _))
  have bK : Blk W6 (w.heap.size + 1) 2 #[.int .i64 key] := by
    have : Blk W4 (w.heap.size + 1) 2 #[.int .i64 key] := by
      rw [hW4]
      have := Blk.new (w.alloc (.cells #[.slice A t.length c] 24)) 2 #[.int .i64 key]
      rw [World.size_alloc] at this
      exact (this.alloc _).alloc _
    exact this.kept k6 (.inl (Nat.le_refl _))
  have bV : Blk W6 (w.heap.size + 2) 2 #[.int .i64 0] := by
    have : Blk W4 (w.heap.size + 2) 2 #[.int .i64 0] := by
      rw [hW4]
      have := Blk.new ((w.alloc (.cells #[.slice A t.length c] 24)).alloc (.cells #[.int .i64 key] 2)) 2 #[.int .i64 0]
      simp only [World.size_alloc] at this
      exact this.alloc _
    exact this.kept k6 (.inl (Nat.le_refl _))
  have bB : Blk W6 (w.heap.size + 3) 4 #[.bool false] := by
    have : Blk W4 (w.heap.size + 3) 4 #[.bool false] := by
      rw [hW4]
      have := Blk.new (((w.alloc (.cells #[.slice A t.length c] 24)).alloc (.cells #[.int .i64 key] 2)).alloc (.cells #[.int .i64 0] 2)) 4 #[.bool false]
      simp only [World.size_alloc] at this
      exact this
    exact this.kept k6 (.inl (Nat.le_refl _))
  have bl1 : Blk W6 (w.heap.size + 4) 24 #[.slice A t.length c] := by rw [hW6, ← s4]; exact (Blk.new _ _ _).alloc _
  have bl2 : Blk W6 (w.heap.size + 5) 2 #[.int .i64 n] := by
    rw [hW6]
    have := Blk.new (W4.alloc (.cells #[.slice A t.length c] 24)) 2 #[.int .i64 n]
    rwa [World.size_alloc, s4] at this
  have K6 := Lib.hid (k4.trans k6)
  have HR : Hid (RdNd W6 w.heap.size (.slice A t.length c) t) := RdNd.kept ⟨A, c, rfl, h⟩ (Nat.le_refl _) K6.out (.inl (Nat.le_refl _))
  have CL := line_mk A t.length c n W4
  rw [← hW6, s4] at CL
  have SC := Lib.hid (seq_line t n (.slice A t.length c) (w.heap.size + 4) (w.heap.size + 5) w.heap.size (fun k => (k ≠ w.heap.size + 2 ∧ k ≠ w.heap.size + 3) ∧ k < W6.heap.size) W6 HR.out (by omega) (fun k hk => by omega) bl1 (by omega) bl2)
  rw [← hW4]
  replace bT := Lib.hid bT
  replace bK := Lib.hid bK
  replace bV := Lib.hid bV
  replace bB := Lib.hid bB
  refine ⟨trivial, ?_⟩
  refine (callsIn_wide.2 CL).mono ?_
  rintro e w' ⟨rfl, ew⟩
  obtain rfl : W6 = w' := ew.symm
  clear CL hW4 hW6 k4 k6 s4 bl1 bl2 h ew
  gi_wp2
  refine wp_over hd (gf := 61) (lb := #[.pointer (some ⟨w.heap.size + 4, 0, none⟩), .pointer (some ⟨w.heap.size + 5, 0, none⟩)]) rfl (enters_of Try.func61 (by kernel_rfl) rfl)
    (xs := lineL t n) (S := fun k => k ≠ w.heap.size + 2 ∧ k ≠ w.heap.size + 3) SC.out
    (fun M k V => NoVal t key (lineL t n) k ∧ M ≤ V.heap.size ∧ Hold (fun _ => True) W6.heap.size W6.heap.size W6 V)
    (fun M c V => c = .ret ∧ valB t n key = true ∧ Blk V (w.heap.size + 2) 2 #[.int .i64 (valI t n key)] ∧ Blk V (w.heap.size + 3) 4 #[.bool true] ∧ Hold (fun k => k ≠ w.heap.size + 2 ∧ k ≠ w.heap.size + 3) W6.heap.size W6.heap.size W6 V)
    ?start ?stay ?stayx
    (fun x => { tmps := #[.slice A t.length c, .int .i64 n, .int .i64 key, .pointer (some ⟨w.heap.size, 0, none⟩), undef, .pointer (some ⟨w.heap.size + 1, 0, none⟩), .pointer (some ⟨w.heap.size + 2, 0, none⟩), .pointer (some ⟨w.heap.size + 3, 0, none⟩), .int .i64 x, .slice A t.length c, .int .i64 n,
      .func (.func 61) #[] #[.pointer (some ⟨w.heap.size + 4, 0, none⟩), .pointer (some ⟨w.heap.size + 5, 0, none⟩)], .int .i64 x, undef, undef, undef, undef, undef, undef, undef, undef, undef, undef, undef, undef, undef, undef, undef, undef, undef, undef, undef, undef], defers := [] })
    ?assign ?body ?done ?stop
  case start =>
    intro V hV _
    exact ⟨fun i _ h => by omega, Nat.le_refl _, Hold.of_kept0 hV (Nat.le_refl _)⟩
  case stay =>
    rintro M k V V' hM ⟨h1, hz, h2⟩ hV
    exact ⟨h1, Nat.le_trans hz hV.size, h2.trans (Hold.of_kept hV h2.size (fun k _ hk => by omega))⟩
  case stayx =>
    rintro M c V V' hM ⟨h1, h2, h3, h4, h5⟩ hV
    exact ⟨h1, h2, h3.kept hV (.inr (.inl (by omega))), h4.kept hV (.inr (.inl (by omega))), h5.trans (Hold.of_kept hV h5.size (fun k _ hk => by omega))⟩
  case assign =>
    intro l x W K hK
    gi_wp2
    exact hK
  case body =>
    rintro l' M k hkc V hM ⟨h1, hz, h2⟩
    obtain ⟨e2, e3⟩ := lineL_at t n k hkc
    have HS := Lib.hid (val_some t n key k hkc h1)
    have HN := Lib.hid (h1.succ hkc)
    obtain ⟨x, hx⟩ : ∃ x, x = (lineL t n)[k] := ⟨_, rfl⟩
    rw [← hx] at e2 e3 HS HN ⊢
    clear hx h1
    obtain ⟨j, rfl⟩ := Int.eq_ofNat_of_zero_le e2
    have hj : j < t.length := by omega
    rw [ndAt_nat t hj] at HS HN
    have R3 := HR.out.held (by omega) h2 (by omega) (fun k hk => .inl trivial)
    obtain ⟨A', c', e', R3⟩ := R3
    injection e' with eA _ ec
    subst eA; subst ec
    obtain ⟨ad, rfl, _, c0, _, _, c3, c4⟩ := R3.rd.nd hj
    clear R3
    have cT := (h2.blk bT.out (by omega) (.inl trivial)).cell 0
    have cK := (h2.blk bK.out (by omega) (.inl trivial)).cell 0
    have BV := Lib.hid (h2.blk bV.out (by omega) (.inl trivial))
    have BB := Lib.hid (h2.blk bB.out (by omega) (.inl trivial))
    have cV := BV.out.cell 0
    have fV := BV.out.frozen 0
    have cB := BB.out.cell 0
    have fB := BB.out.frozen 0
    have H2 := Lib.hid h2
    clear h2
    have hd8 : 1 ≤ 8 := by decide
    have hmix : Try.prog.follows .mixedOrders = true := by kernel_rfl
    generalize t[j] = x at *
    have HY : Hid ((¬(x.kind = 3 ∧ x.key = key)) → ∀ V', V' = V ∨ V' = V.drew → Hold (fun k => k ≠ w.heap.size + 2 ∧ k ≠ w.heap.size + 3) W6.heap.size M V V' ∧ NoVal t key (lineL t n) (k + 1) ∧ M ≤ V'.heap.size ∧ Hold (fun _ => True) W6.heap.size W6.heap.size W6 V') := by
      rintro hn V' (rfl | rfl)
      · exact ⟨Hold.refl _ _ _ _, HN.out hn, hz, H2.out⟩
      · exact ⟨(Hold.refl _ _ _ _).drew, HN.out hn, hz, H2.out.drew⟩
    by_cases q1 : x.kind = 3
    · by_cases q2 : x.key = key
      · obtain ⟨v1, v2⟩ := HS.out ⟨q1, q2⟩
        rw [q1] at c0
        rw [q2] at c3
        have FIN : Hid (∀ V', V' = ((V.setCell ⟨w.heap.size + 2, 0, none⟩ (.int .i64 x.value)).setCell ⟨w.heap.size + 3, 0, none⟩ (.bool true)).drew → Hold (fun k => k ≠ w.heap.size + 2 ∧ k ≠ w.heap.size + 3) W6.heap.size M V V' ∧ valB t n key = true ∧ Blk V' (w.heap.size + 2) 2 #[.int .i64 (valI t n key)] ∧ Blk V' (w.heap.size + 3) 4 #[.bool true] ∧ Hold (fun k => k ≠ w.heap.size + 2 ∧ k ≠ w.heap.size + 3) W6.heap.size W6.heap.size W6 V') := by
          rintro V' rfl
          have q : ∀ (S : Nat → Prop) (B m : Nat) (U : World), Hold S B m U V → (∀ k, k < m → S k ∨ B ≤ k → k ≠ w.heap.size + 2 ∧ k ≠ w.heap.size + 3) → Hold S B m U ((V.setCell ⟨w.heap.size + 2, 0, none⟩ (.int .i64 x.value)).setCell ⟨w.heap.size + 3, 0, none⟩ (.bool true)).drew := fun S B m U h hk =>
            ((h.setCell _ (fun k h1 h2 => (hk k h1 h2).1)).setCell _ (fun k h1 h2 => (hk k h1 h2).2)).drew
          refine ⟨q _ _ _ _ (Hold.refl _ _ _ _) (fun k _ h => by omega), v2, ?_, ?_, q _ _ _ _ (H2.out.mono (Nat.le_refl _) (fun k _ h => h.imp (fun _ => trivial) id)) (fun k _ h => by omega)⟩
          · rw [v1]; exact (BV.out.set_ 0 _).far (by show w.heap.size + 2 ≠ w.heap.size + 3; omega) _
          · exact (BB.out.far (by show w.heap.size + 3 ≠ w.heap.size + 2; omega) _).set_ 0 _
        clear HY HN HS v1 v2 BV BB
        gi_wp2_with fail
        gi_region_with_o (fail)
        all_goals gi_wp2_with fail
        all_goals exact ⟨(FIN.out _ rfl).1, rfl, (FIN.out _ rfl).2⟩
      · have G := Lib.hid (HY.out (fun h => q2 h.2))
        rw [q1] at c0
        clear HY HN HS BV BB
        gi_wp2_with fail
        gi_region_with_o (fail)
        all_goals gi_wp2_with fail
        all_goals first | exact G.out _ (.inl rfl) | exact G.out _ (.inr rfl)
    · have G := Lib.hid (HY.out (fun h => q1 h.1))
      clear HY HN HS BV BB
      gi_wp2_with fail
      gi_region_with_o (fail)
      all_goals gi_wp2_with fail
      all_goals first | exact G.out _ (.inl rfl) | exact G.out _ (.inr rfl)
  case done =>
    rintro D M V hD hDM ⟨h1, hz, h2⟩ hK
    have EN := Lib.hid (val_none t n key h1)
    clear h1
    have BV := h2.blk bV.out (by omega) (.inl trivial)
    have BB := h2.blk bB.out (by omega) (.inl trivial)
    have cV := BV.cell 0
    have fV := BV.frozen 0
    have cB := BB.cell 0
    have fB := BB.frozen 0
    obtain ⟨V', hV'⟩ : ∃ V', V' = (V.setCell ⟨w.heap.size + 1 + 1, 0, none⟩ (.int .i64 0)).setCell ⟨w.heap.size + 1 + 1 + 1, 0, none⟩ (.bool false) := ⟨_, rfl⟩
    have r1 : Blk V' (w.heap.size + 1 + 1) 2 #[.int .i64 0] := by rw [hV']; exact (BV.set_ 0 _).far (by show w.heap.size + 2 ≠ w.heap.size + 1 + 1 + 1; omega) _
    have r2 : Blk V' (w.heap.size + 1 + 1 + 1) 4 #[.bool false] := by rw [hV']; exact (BB.far (by show w.heap.size + 3 ≠ w.heap.size + 1 + 1; omega) _).set_ 0 _
    have K := Lib.hid hK
    have hK' : V'.heap[D]? = some (.deferred (some [])) := by
      rw [hV', Below.heap_setCell _ _ _ _ (by show D ≠ w.heap.size + 1 + 1 + 1; omega), Below.heap_setCell _ _ _ _ (by show D ≠ w.heap.size + 1 + 1; omega)]; exact hK
    have KV : Hid (Kept 0 0 w (V'.putObj D (.deferred none))) := by
      have k1 : Kept 0 0 w V := ⟨h2.os.trans K6.out.os, h2.tape.trans K6.out.tape, h2.output.trans K6.out.output, Nat.le_trans K6.out.size h2.size, fun k hk _ => (h2.block k (by omega) (.inl trivial)).trans (K6.out.block k hk (by omega))⟩
      have k2 : Kept 0 0 w V' := by rw [hV']; exact (k1.setCell (.inl (by show w.heap.size ≤ w.heap.size + 1 + 1; omega)) _).setCell (.inl (by show w.heap.size ≤ w.heap.size + 1 + 1 + 1; omega)) _
      exact k2.trans2 (Kept.putObj V' _ (Nat.le_refl D) (Nat.lt_succ_self D)) (.inr (by omega))
    have p1 := (putObj_blk (o := .deferred none) r1 hK' rfl).cell 0
    have p2 := (putObj_blk (o := .deferred none) r2 hK' rfl).cell 0
    have HV := Lib.hid hV'
    have RV : Hid (∀ tmps : Array Value, tmps[6]?.getD undef = .pointer (some ⟨w.heap.size + 1 + 1, 0, none⟩) → tmps[7]?.getD undef = .pointer (some ⟨w.heap.size + 1 + 1 + 1, 0, none⟩) → (results Try.f19 tmps).run Try.prog (V'.putObj D (.deferred none)) = .ok (.tuple #[.int .i64 0, .bool false]) (V'.putObj D (.deferred none))) := fun tmps a b => results_val tmps _ _ _ 0 false a b p1 p2
    have TD := Lib.hid (run_takeDeferred (P := Try.prog) hK')
    clear hK hK' h2 BV BB p1 p2 r1 r2 hV'
    gi_wp2
    rw [← HV.out]
    refine ⟨by simp, .inl ⟨_, _, rfl, TD.out, ?_⟩⟩
    exact ⟨_, RV.out _ rfl rfl, by rw [EN.out.1, EN.out.2], KV.out⟩
  case stop =>
    rintro D M c V hD hDM ⟨rfl, h1, h2, h3, h4⟩ hK
    have EB := Lib.hid h1
    have KV : Hid (Kept 0 0 w (V.putObj D (.deferred none))) := by
      have k1 : Kept 0 0 w V := ⟨h4.os.trans K6.out.os, h4.tape.trans K6.out.tape, h4.output.trans K6.out.output, Nat.le_trans K6.out.size h4.size, fun k hk _ => (h4.block k (by omega) (.inl (by omega))).trans (K6.out.block k hk (by omega))⟩
      exact k1.trans2 (Kept.putObj V _ (Nat.le_refl D) (Nat.lt_succ_self D)) (.inr (by omega))
    have p1 := (putObj_blk (o := .deferred none) h2 hK rfl).cell 0
    have p2 := (putObj_blk (o := .deferred none) h3 hK rfl).cell 0
    have RV : Hid (∀ tmps : Array Value, tmps[6]?.getD undef = .pointer (some ⟨w.heap.size + 1 + 1, 0, none⟩) → tmps[7]?.getD undef = .pointer (some ⟨w.heap.size + 1 + 1 + 1, 0, none⟩) → (results Try.f19 tmps).run Try.prog (V.putObj D (.deferred none)) = .ok (.tuple #[.int .i64 (valI t n key), .bool true]) (V.putObj D (.deferred none))) := fun tmps a b => results_val tmps _ _ _ _ true a b p1 p2
    have TD := Lib.hid (run_takeDeferred (P := Try.prog) hK)
    clear hK h1 h2 h3 h4 p1 p2
    gi_wp2
    refine ⟨by simp, .inl ⟨_, _, rfl, TD.out, ?_⟩⟩
    exact ⟨_, RV.out _ rfl rfl, by rw [EB.out], KV.out⟩
end Go.Proofs.Ytakhegamlammcaa
