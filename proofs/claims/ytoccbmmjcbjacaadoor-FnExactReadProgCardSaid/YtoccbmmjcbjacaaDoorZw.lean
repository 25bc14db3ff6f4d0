/- The program's textOf: how an instruction is written; condition: it is valid, and the library's table of powers of ten is laid. -/
import Derived.Test.YtoccbmmjcbjacaaDoorZv
import Derived.Test.YtoccbmmjcbjacaaDoorFk
import Derived.Deep.RegionWith
import Derived.Deep.RegionHeld3
namespace Go.Proofs.YtoccbmmjcbjacaaDoor
open Go.RowKit Go.Sort

theorem two_rng (n : Nat) (hn : n < 11) : (twoB (n : Int) = true ∧ rngB n ≠ (0, 0)) ∨ (twoB (n : Int) = false ∧ rngB n = (0, 0)) := by
  match n, hn with
  | 0, _ => decide
  | 1, _ => decide
  | 2, _ => decide
  | 3, _ => decide
  | 4, _ => decide
  | 5, _ => decide
  | 6, _ => decide
  | 7, _ => decide
  | 8, _ => decide
  | 9, _ => decide
  | 10, _ => decide
set_option maxRecDepth 100000 in
set_option maxHeartbeats 3200000 in
theorem textOf_any (i : Ins) (hi : insB i = true) (w : World) (hp : Pow w) : Calls Tryd.prog 23 #[.agg #[.int .i64 i.op, .int .i64 i.a, .int .i64 i.b]] w fun e w' => e = .returned (.string (bs (showI i))) ∧ Kept 0 0 w w' := by
  have ho := op_lt hi
  have ha := a_ge hi
  have hb := b_ge hi
  obtain ⟨op, a, b⟩ := i
  simp only at ho ha hb ⊢
  obtain ⟨n, rfl⟩ : ∃ n : Nat, op = (n : Int) := Int.eq_ofNat_of_zero_le ho.1
  have hn : n < 11 := by omega
  obtain ⟨m, rfl⟩ : ∃ m : Nat, b = (m : Int) := Int.eq_ofNat_of_zero_le hb.1
  have HR : Hid (showI ⟨n, a, m⟩ = joinW [32] (if twoB (n : Int) = true then [nameN n, wordA a, wordA m] else [nameN n, wordA a])) := by
    show _ = _
    unfold showI wordsI
    simp only
    rw [Int.toNat_natCast, intS_nat, wordA_nat]
  have sl := showI_len hi
  obtain ⟨R, hR⟩ : ∃ R, R = showI ⟨n, a, m⟩ := ⟨_, rfl⟩
  rw [← hR] at HR sl ⊢
  clear hR hi ho
  have HPw := Lib.hid hp
  clear hp
  obtain ⟨W, hW⟩ : ∃ W, W = w.alloc (.cells #[.int .i64 n, .int .i64 a, .int .i64 m] 43) := ⟨_, rfl⟩
  have KW : Hid (Kept 0 0 w W) := by show Kept _ _ _ _; rw [hW]; exact Kept.alloc0 _ _
  have B : Hid (Blk W w.heap.size 43 #[.int .i64 n, .int .i64 a, .int .i64 m]) := by show Blk _ _ _ _; rw [hW]; exact Blk.new _ _ _
  have HW := Lib.hid hW
  clear hW
  have c0 := ins0 B.out
  have c1 := ins1 B.out
  obtain ⟨t, ht⟩ : ∃ t, t = kTy n := ⟨_, rfl⟩
  obtain ⟨p, hp⟩ : ∃ p, p = kPay n := ⟨_, rfl⟩
  obtain ⟨c, hc⟩ : ∃ c, c = bs (nameN n) := ⟨_, rfl⟩
  have hm := fun W => method_word n hn W
  have CI := Lib.hid (instr_nat n hn W)
  have CP := Lib.hid (fun W => oper_at n hn W)
  rw [← ht, ← hp] at CI CP
  rw [← ht, ← hp, ← hc] at hm
  have HC := Lib.hid hc
  clear ht hp hc
  obtain ⟨d, hd⟩ : ∃ d, d = bs (wordA a) := ⟨_, rfl⟩
  have CW := Lib.hid (fun (w' : World) (h : Kept 0 0 w w') => opText_any a (by omega) (by omega) w' (HPw.out.kept h))
  rw [← hd] at CW
  have HD := Lib.hid hd
  clear hd
  go_enter Tryd.func23, Tryd.ntmps23
  go_upto_region 1 with fail
  rw [← HW.out]
  go_wp2_with fail
  with_reducible refine CI.out.mono ?_
  rintro e w1 ⟨rfl, rfl⟩
  go_upto_region 2 with fail
  have X0 : w1.drew.cell? ⟨w.heap.size, 1, none⟩ = some (.int .i64 a) := c1
  go_region_held3 (fun w' => w'.cell? ⟨w.heap.size, 1, none⟩ = some (.int .i64 a))
    (with_reducible assumption)
    (first
      | (go_at_call 127; (with_reducible refine (word_any c _).mono ?_); rintro e w2' ⟨rfl, rfl⟩)
      | (go_at_call 44; (with_reducible refine (CW.out _ (KW.out.drew)).mono ?_); rintro e w3' ⟨rfl, hk⟩; have X1 : w3'.cell? ⟨w.heap.size, 1, none⟩ = some (.int .i64 a) := ins1 (B.out.drew.kept hk (.inl (Nat.le_refl _))); have X2 : (w3'.alloc (.cells #[.string c, .string d] 9)).cell? ⟨w.heap.size, 1, none⟩ = some (.int .i64 a) := ins1 ((B.out.drew.kept hk (.inl (Nat.le_refl _))).alloc _); have k3 : Kept 0 0 w1 w3' := (Kept.refl 0 0 w1).drew.trans hk; clear hk))
  obtain ⟨V, hV⟩ : ∃ V, V = w3'.alloc (.cells #[.string c, .string d] 9) := ⟨_, rfl⟩
  have KV1 : Kept 0 0 w1 V := by rw [hV]; exact k3.alloc _
  have KV : Hid (Kept 0 0 w V) := KW.out.trans KV1
  have BV : Hid (Blk V w.heap.size 43 #[.int .i64 n, .int .i64 a, .int .i64 m]) := B.out.kept KV1 (.inl (Nat.le_refl _))
  have OV : Hid (OwnZ V w.heap.size V.heap.size 9 1 (some ⟨w3'.heap.size, 0, none⟩) 2 2 (sR.flat [nameN n, wordA a])) := by
    show OwnZ _ _ _ _ _ _ _ _ _
    have := (KW.out.trans k3).size
    rw [hV]
    refine OwnZ.mk_ (g := w3'.heap.size) ⟨rfl, .inr ⟨w3'.heap.size, 2, _, rfl, this, heap_alloc_new _ _, by omega, by unfold maxLen; omega, rfl, ?_⟩⟩ (by simp)
    rw [HC.out, HD.out]; rfl
  obtain ⟨g, hg⟩ : ∃ g, g = w3'.heap.size := ⟨_, rfl⟩
  rw [← hV, ← hg]
  rw [← hg] at OV
  clear hV hg KV1 k3 X0 X1 X2 c0 c1 B KW HW CI CW hm
  have CR := Lib.hid (CP.out V)
  clear CP
  go_upto_region 3 with fail
  go_wp2_with fail
  with_reducible refine CR.out.mono ?_
  rintro e w4 ⟨rfl, hk⟩
  have K4 := Lib.hid (KV.out.trans hk)
  have O4 := Lib.hid (OV.out.kept hk (.inl (Nat.le_refl _)))
  have B4 := Lib.hid (BV.out.kept hk (.inl (Nat.le_refl _)))
  have z4 := hk.size
  clear hk OV BV CR KV
  obtain ⟨U, hU⟩ : ∃ U, U = (w4.alloc (.cells #[.int .i64 (rngA n).1, .int .i64 (rngA n).2] 68)).alloc (.cells #[.int .i64 (rngB n).1, .int .i64 (rngB n).2] 68) := ⟨_, rfl⟩
  have hk : Kept 0 0 w4 U := by rw [hU]; exact (Kept.alloc0 _ _).alloc _
  have KU := Lib.hid (K4.out.trans hk)
  have OU := Lib.hid (O4.out.kept hk (.inl (Nat.le_refl _)))
  have BU := Lib.hid (B4.out.kept hk (.inl (Nat.le_refl _)))
  have zU := hk.size
  have BB : Hid (Blk U (w4.heap.size + 1) 68 #[.int .i64 (rngB n).1, .int .i64 (rngB n).2]) := by
    show Blk _ _ _ _
    have := Blk.new (w4.alloc (.cells #[.int .i64 (rngA n).1, .int .i64 (rngA n).2] 68)) 68 #[.int .i64 (rngB n).1, .int .i64 (rngB n).2]
    rw [show (w4.alloc (.cells #[.int .i64 (rngA n).1, .int .i64 (rngA n).2] 68)).heap.size = w4.heap.size + 1 by simp] at this
    rw [hU]; exact this
  have HU := Lib.hid hU
  clear hk hU O4 B4 K4
  go_upto_region 4 with fail
  rw [← HU.out]
  have b0 := BB.out.cell 0
  have b1 := BB.out.cell 1
  simp only [List.getElem?_toArray, List.getElem?_cons_succ, List.getElem?_cons_zero] at b0 b1
  have c2 := ins2 BU.out
  have T2 := two_rng n hn
  obtain ⟨lo, hlo⟩ : ∃ lo, lo = (rngB n).1 := ⟨_, rfl⟩
  obtain ⟨hh, hhi⟩ : ∃ hh, hh = (rngB n).2 := ⟨_, rfl⟩
  rw [← hlo] at b0
  rw [← hhi] at b1
  have e2 : { data := #[32] } = bs [32] := rfl
  by_cases h2 : twoB (n : Int) = true
  case neg =>
    have T0 : lo = 0 ∧ hh = 0 := by
      rcases T2 with ⟨h, _⟩ | ⟨_, h⟩
      · exact absurd h h2
      · rw [hlo, hhi, h]; exact ⟨rfl, rfl⟩
    have j1 := T0.1
    have j2 := T0.2
    have ER : Hid (R = joinW [32] [nameN n, wordA a]) := by show _ = _; rw [HR.out, if_neg h2]
    have CJ : Hid (Calls Tryd.prog 24 #[.slice (some ⟨g, 0, none⟩) 2 2, .string (bs [32])] U fun e w' => e = .returned (.string (bs (joinW [32] [nameN n, wordA a]))) ∧ Kept 0 0 U w') := join_any [nameN n, wordA a] [32] (some ⟨g, 0, none⟩) 2 _ _ U OU.out (by have := ER.out; rw [← this]; omega) (by simp)
    rw [← ER.out] at CJ
    clear T2 T0 hlo hhi h2 HR c2
    go_wp2_with fail
    with_reducible refine CJ.out.mono ?_
    rintro e w5 ⟨rfl, hk⟩
    have K5 := Lib.hid (KU.out.trans hk)
    clear hk
    go_wp2_with fail
    go_ret
    exact ⟨rfl, K5.out⟩
  have ER : Hid (R = joinW [32] [nameN n, wordA a, wordA m]) := by show _ = _; rw [HR.out, if_pos h2]
  have T0 : ¬ (lo = 0 ∧ hh = 0) := by
    rcases T2 with ⟨_, h⟩ | ⟨h, _⟩
    · intro h'
      exact h (Prod.ext (by rw [← hlo, h'.1]) (by rw [← hhi, h'.2]))
    · rw [h2] at h; cases h
  have CB := Lib.hid (opText_any m (by omega) (by omega) U (HPw.out.kept KU.out))
  have HS := Lib.hid sSlice
  clear T2 hlo hhi h2 HR
  have ER2 : Hid (R = joinW [32] ([nameN n, wordA a] ++ [wordA m])) := ER
  clear ER
  by_cases j1 : lo = 0
  · have j2 : ¬ hh = 0 := fun h => T0 ⟨j1, h⟩
    clear T0
    go_wp2_with fail
    with_reducible refine CB.out.mono ?_
    rintro e w5 ⟨rfl, hk⟩
    have K5 := Lib.hid (KU.out.trans hk)
    have O5 := Lib.hid (OU.out.kept hk (.inl (Nat.le_refl _)))
    have z5 := hk.size
    have z0 := K5.out.size
    clear hk c2 b0 b1 OU KU CB
    go_wp2_with (at_builtin; refine wpList_app (R := sR) rfl (.tmp 24) (.tmp 28) rfl HS.out w.heap.size (some ⟨g, 0, none⟩) 2 [nameN n, wordA a] rfl (row_kept O5.out.1 (Kept.alloc0 w5 (.cells #[.string (bs (wordA m))] 9))) (w5.heap.size + 1) (some ⟨w5.heap.size, 0, none⟩) 1 [wordA m] rfl (rd_litS w5 (wordA m)) (by simp [maxLen]) (by simp) (by simp; omega) ?_; intro D1 d1 w6 hown hgrow hat)
    have K6 := Lib.hid ((K5.out.alloc (.cells #[.string (bs (wordA m))] 9)).app hgrow (fun g' hg' => (own_row_lo O5.out.1 g' hg').1))
    have CJ := Lib.hid (join_any ([nameN n, wordA a] ++ [wordA m]) [32] D1 d1 _ _ w6 (OwnZ.of_row hown) (by have := ER2.out; rw [← this]; omega) (by simp))
    rw [← ER2.out] at CJ
    have CJ : Hid (Calls Tryd.prog 24 #[.slice D1 3 d1, .string (bs [32])] w6 fun e w' => e = .returned (.string (bs R)) ∧ Kept 0 0 w6 w') := CJ
    clear hown hgrow hat O5 K5
    go_wp2_with fail
    with_reducible refine CJ.out.mono ?_
    rintro e w7 ⟨rfl, hk⟩
    have K7 := Lib.hid (K6.out.trans hk)
    clear hk
    go_wp2_with fail
    go_ret
    exact ⟨rfl, K7.out⟩
  · clear T0
    go_wp2_with fail
    with_reducible refine CB.out.mono ?_
    rintro e w5 ⟨rfl, hk⟩
    have K5 := Lib.hid (KU.out.trans hk)
    have O5 := Lib.hid (OU.out.kept hk (.inl (Nat.le_refl _)))
    have z5 := hk.size
    have z0 := K5.out.size
    clear hk c2 b0 b1 OU KU CB
    go_wp2_with (at_builtin; refine wpList_app (R := sR) rfl (.tmp 24) (.tmp 28) rfl HS.out w.heap.size (some ⟨g, 0, none⟩) 2 [nameN n, wordA a] rfl (row_kept O5.out.1 (Kept.alloc0 w5 (.cells #[.string (bs (wordA m))] 9))) (w5.heap.size + 1) (some ⟨w5.heap.size, 0, none⟩) 1 [wordA m] rfl (rd_litS w5 (wordA m)) (by simp [maxLen]) (by simp) (by simp; omega) ?_; intro D1 d1 w6 hown hgrow hat)
    have K6 := Lib.hid ((K5.out.alloc (.cells #[.string (bs (wordA m))] 9)).app hgrow (fun g' hg' => (own_row_lo O5.out.1 g' hg').1))
    have CJ := Lib.hid (join_any ([nameN n, wordA a] ++ [wordA m]) [32] D1 d1 _ _ w6 (OwnZ.of_row hown) (by have := ER2.out; rw [← this]; omega) (by simp))
    rw [← ER2.out] at CJ
    have CJ : Hid (Calls Tryd.prog 24 #[.slice D1 3 d1, .string (bs [32])] w6 fun e w' => e = .returned (.string (bs R)) ∧ Kept 0 0 w6 w') := CJ
    clear hown hgrow hat O5 K5
    go_wp2_with fail
    with_reducible refine CJ.out.mono ?_
    rintro e w7 ⟨rfl, hk⟩
    have K7 := Lib.hid (K6.out.trans hk)
    clear hk
    go_wp2_with fail
    go_ret
    exact ⟨rfl, K7.out⟩
end Go.Proofs.YtoccbmmjcbjacaaDoor
