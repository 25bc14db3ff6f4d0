/- The reference's l9Read: how an instruction is read; condition: the text has at most 4294967280 bytes. -/
import Derived.Test.YtoccbmmjcbjacaaDoorGb
import Derived.Deep.RegionWith
import Derived.Deep.RegionHeld3
import Derived.Deep.DeepCutAuto
namespace Go.Proofs.YtoccbmmjcbjacaaDoor
open Go.RowKit Go.Sort

theorem bsEq (s t : List UInt8) : ((bs s).toList == (bs t).toList) = decide (s = t) := by
  rw [bs_list, bs_list]
  by_cases h : s = t
  · subst h; simp
  · rw [decide_eq_false h]; simpa using h
theorem bs_eq' (s t : List UInt8) : ((bs s).toList == t) = decide (s = t) := by
  rw [bs_list]
  by_cases h : s = t
  · subst h; simp
  · rw [decide_eq_false h]; simpa using h
theorem fits_no_name {ws : List (List UInt8)} {n : Nat} (h : nameN n ≠ ws.headD []) : fitsW ws n = false := by unfold fitsW; rw [decide_eq_false h]; rfl
theorem fits_name {ws : List (List UInt8)} {n : Nat} (h : nameN n = ws.headD []) : fitsW ws n = (if twoB n = true then decide (ws.length = 3) else decide (ws.length = 2)) := by unfold fitsW; rw [decide_eq_true h]; rfl
theorem find_none {ws : List (List UInt8)} (h : ∀ k : Nat, k < 11 → fitsW ws k = false) : (List.range 11).find? (fitsW ws) = none := by
  rw [List.find?_eq_none]
  intro k hk
  rw [h k (by simpa using hk)]; decide
set_option maxRecDepth 100000 in
set_option maxHeartbeats 3200000 in
theorem readI_any (s : List UInt8) (hs : s.length ≤ 4294967280) (w : World) :
    Calls Tryd.prog 37 #[.string (bs s)] w fun e w' => ∃ i : Ins, e = .returned (.tuple #[.agg #[.int .i64 i.op, .int .i64 i.a, .int .i64 i.b], .bool (readI s).isSome]) ∧ (∀ i', readI s = some i' → i = i') ∧ Kept 0 0 w w' := by
  obtain ⟨ws, hws⟩ : ∃ ws, ws = splitB 32 s := ⟨_, rfl⟩
  have hne : 0 < ws.length := by rw [hws]; exact List.length_pos_iff.2 (splitB_ne 32 s)
  have hRW : readI s = readW ws := by rw [hws]; rfl
  have hwl : ∀ p ∈ ws, p.length ≤ s.length := by
    intro p hp
    have hj := splitB_join 32 s
    rw [← hws] at hj
    have : p.length ≤ (joinW [32] ws).length := by
      clear hj hRW hne hws
      induction ws with
      | nil => cases hp
      | cons x r ih =>
        by_cases hr : r = []
        · subst hr
          simp only [List.mem_cons, List.not_mem_nil, or_false] at hp
          subst hp; exact Nat.le_refl _
        · rw [joinW_cons _ _ hr]
          rcases List.mem_cons.1 hp with rfl | hp
          · simp
          · have := ih hp
            simp; omega
    rw [hj] at this; exact this
  have CS := Lib.hid (split_any s 32 hs)
  rw [← hws] at CS
  have wl := splitB_len 32 s
  rw [← hws] at wl
  have HRW := Lib.hid hRW
  have HWL := Lib.hid hwl
  rw [hRW]
  clear hws hRW hwl
  obtain ⟨W, hW⟩ : ∃ W, W = w.alloc (.cells #[.int .i64 0, .int .i64 0, .int .i64 0] 43) := ⟨_, rfl⟩
  have KW : Hid (Kept 0 0 w W) := by show Kept _ _ _ _; rw [hW]; exact Kept.alloc0 _ _
  have B : Hid (Blk W w.heap.size 43 #[.int .i64 0, .int .i64 0, .int .i64 0]) := by show Blk _ _ _ _; rw [hW]; exact Blk.new _ _ _
  have HW := Lib.hid hW
  clear hW
  have e32 : (32 : UInt8).toNat = 32 := rfl
  have CS2 : Hid (Calls Tryd.prog 60 #[.string (bs s), .int .u8 32] W fun e w' => ∃ D d, e = .returned (.slice D ws.length d) ∧ OwnZ w' W.heap.size w'.heap.size 9 1 D ws.length d (sR.flat ws) ∧ Kept 0 0 W w') := CS.out W
  clear CS
  go_enter Tryd.func37, Tryd.ntmps37
  go_upto_region 1 with fail
  rw [← HW.out]
  go_wp2_with fail
  with_reducible refine CS2.out.mono ?_
  rintro e w1 ⟨D, d, rfl, o1, k1⟩
  have K1 := Lib.hid (KW.out.trans k1)
  have B1 := Lib.hid (B.out.kept k1 (.inl (Nat.le_refl _)))
  have R1 := Lib.hid (OwnZ.rd (R := sR) o1).2
  have z1 := K1.out.size
  have zB := B1.out.lt
  have hcap := o1.cap
  unfold maxLen at hcap
  clear k1 o1 CS2 B KW HW
  go_wp2_with fail
  go_loopw [5] (fun v wr => ∃ n : Nat, n ≤ 11 ∧ v = .int .i64 n ∧ Hid (∀ k : Nat, k < n → fitsW ws k = false) ∧ Hid (Kept 0 0 w1 wr)) (fun v _ => 12 - (intOf v).toNat)
  case atStart => exact ⟨0, by omega, by rfl, fun k hk => by omega, Kept.refl _ _ _⟩
  case round =>
    obtain ⟨n, hn, rfl, HF, HK⟩ := hrel
    by_cases hlt : n ≤ 10
    case neg =>
      have i1 : ¬ (n : Int) ≤ 10 := by omega
      have E : Hid (readW ws = none) := by show _ = _; unfold readW; rw [find_none (fun k hk => HF.out k (by omega))]
      have B2 := B1.out.kept HK.out (.inl (Nat.le_refl _))
      have c0 := ins0 B2
      have c1 := ins1 B2
      have c2 := ins2 B2
      have f0 := B2.frozen 0
      have f1 := B2.frozen 1
      have f2 := B2.frozen 2
      go_wp2_with fail
      have BF := ((B2.set_ 0 (.int .i64 0)).set_ 1 (.int .i64 0)).set_ 2 (.int .i64 0)
      have BF' : Blk (((wr.setCell ⟨w.heap.size, 0, none⟩ (.int .i64 0)).setCell ⟨w.heap.size, 1, none⟩ (.int .i64 0)).setCell ⟨w.heap.size, 2, none⟩ (.int .i64 0)) w.heap.size 43 #[.int .i64 0, .int .i64 0, .int .i64 0] := BF
      have g0 := ins0 BF'
      have g1 := ins1 BF'
      have g2 := ins2 BF'
      exact bodyPost_ret (v := .tuple #[.agg #[.int .i64 0, .int .i64 0, .int .i64 0], .bool false]) (by simp [results, Tryd.results37, go_sem, g0, g1, g2]) rfl ⟨⟨0, 0, 0⟩, by rw [E.out]; rfl, (fun i' h => by rw [E.out] at h; cases h), (((K1.out.trans HK.out).setCell (.inl (Nat.le_refl _)) _).setCell (.inl (Nat.le_refl _)) _).setCell (.inl (Nat.le_refl _)) _⟩
    have i1 : (n : Int) ≤ 10 := by omega
    obtain ⟨ad, rfl, _, c0⟩ := (R1.out.kept (Nat.le_refl _) HK.out (.inl (Nat.le_refl _))).s hne
    have c00 : wr.cell? ad = some (.string (bs ws[0])) := by rw [← c0]; rfl
    have k0 := cell_regrown c00
    clear c0 c00
    have hd : ws.headD [] = ws[0] := by
      cases ws with
      | nil => simp at hne
      | cons x r => rfl
    have CN := Lib.hid (fun d os => regrown_call (name_any n (by omega) (grow (redrawn wr d) os)))
    have CT := Lib.hid (fun d os => regrown_same (two_any (n : Int) (grow (redrawn wr d) os)))
    have q := bsEq (nameN n) ws[0]
    have FN := Lib.hid (@fits_no_name ws n)
    have FY := Lib.hid (@fits_name ws n)
    rw [hd] at FN FY
    have HD := Lib.hid hd
    obtain ⟨x0, hx0⟩ : ∃ x0, x0 = ws[0] := ⟨_, rfl⟩
    rw [← hx0] at k0 q FN FY
    have HX0 := Lib.hid hx0
    obtain ⟨p0, hp0⟩ : ∃ p0, p0 = nameN n := ⟨_, rfl⟩
    rw [← hp0] at CN q FN FY
    obtain ⟨b0, hb0⟩ : ∃ b0, b0 = bs x0 := ⟨_, rfl⟩
    obtain ⟨b1, hb1⟩ : ∃ b1, b1 = bs p0 := ⟨_, rfl⟩
    rw [← hb0] at k0 q
    rw [← hb1] at CN q
    clear hb0 hb1 hx0 hd hp0
    go_upto_region 5 with fail
    by_cases hA : p0 = x0
    case neg =>
      have E := Lib.hid (FN.out hA)
      rw [decide_eq_false hA] at q
      clear hA FN FY CT
      have HF2 : Hid (∀ k : Nat, k < n + 1 → fitsW ws k = false) := fun k hk => by
        rcases Nat.lt_or_ge k n with h' | h'
        · exact HF.out k h'
        · have : k = n := by omega
          subst this; exact E.out
      refine wp_region_quiet_below (by kernel_rfl) (by kernel_rfl) ?_
      repeat (first | go_big_quiet_step (exact CN.out _ _) | quiet_step (exact CN.out _ _))
      refine wpQuiet_nil ?_
      intro _ hw'
      obtain ⟨⟨dq, osq⟩, hw''⟩ := hw'
      subst hw''
      have K2 := Lib.hid (HK.out.trans (Kept.regrown wr dq osq))
      go_wp2
      go_roundw
      case rel => exact ⟨n + 1, by omega, by go_num, HF2, K2⟩
      case measure => simp [intOf]; omega
    rw [decide_eq_true hA] at q
    have FE := Lib.hid (FY.out hA)
    clear hA FN FY
    cases h2 : twoB (n : Int)
    · rw [h2] at FE CT
      by_cases hl : ws.length = 2
      case neg =>
        have E : Hid (fitsW ws n = false) := by show _ = _; rw [FE.out, if_neg (by decide), decide_eq_false hl]
        have j2 : ((ws.length : Int) != 2) = true := by simp; omega
        clear hl FE h2
        have HF2 : Hid (∀ k : Nat, k < n + 1 → fitsW ws k = false) := fun k hk => by
          rcases Nat.lt_or_ge k n with h' | h'
          · exact HF.out k h'
          · have : k = n := by omega
            subst this; exact E.out
        refine wp_region_quiet_below (by kernel_rfl) (by kernel_rfl) ?_
        repeat (first | go_big_quiet_step (first | with_reducible exact CN.out _ _ | with_reducible exact CT.out _ _) | quiet_step (first | with_reducible exact CN.out _ _ | with_reducible exact CT.out _ _))
        refine wpQuiet_nil ?_
        intro _ hw'
        obtain ⟨⟨dq, osq⟩, hw''⟩ := hw'
        subst hw''
        have K2 := Lib.hid (HK.out.trans (Kept.regrown wr dq osq))
        go_wp2
        go_roundw
        case rel => exact ⟨n + 1, by omega, by go_num, HF2, K2⟩
        case measure => simp [intOf]; omega
      have j2 : ((ws.length : Int) != 2) = false := by simp; omega
      have j3 : ((ws.length : Int) != 3) = true := by simp; omega
      have E : Hid (fitsW ws n = true) := by show _ = _; rw [FE.out, if_neg (by decide), decide_eq_true hl]
      have HL := Lib.hid hl
      clear hl FE
      refine wp_region_quiet_below (by kernel_rfl) (by kernel_rfl) ?_
      repeat (first | go_big_quiet_step (first | with_reducible exact CN.out _ _ | with_reducible exact CT.out _ _) | quiet_step (first | with_reducible exact CN.out _ _ | with_reducible exact CT.out _ _))
      refine wpQuiet_nil ?_
      intro _ hw'
      obtain ⟨⟨dq, osq⟩, hw''⟩ := hw'
      subst hw''
      go_upto_region 6 with fail
      have K2 := Lib.hid (HK.out.trans (Kept.regrown wr dq osq))
      obtain ⟨w2, hw2⟩ : ∃ w2, w2 = grow (redrawn wr dq) osq := ⟨_, rfl⟩
      rw [← hw2] at K2 ⊢
      clear hw2 k0 CN CT HK HF q
      have HW2 : Hid (readW ws = fillI n ws) := by show _ = _; unfold readW; rw [fits_find (by omega) E.out]
      have z2 := K2.out.size
      obtain ⟨V, hV⟩ : ∃ V, V = w2.alloc (.cells #[.int .i64 n, .int .i64 0, .int .i64 0] 43) := ⟨_, rfl⟩
      obtain ⟨g, hg⟩ : ∃ g, g = w2.heap.size := ⟨_, rfl⟩
      have KV : Hid (Kept 0 0 w1 V) := by show Kept _ _ _ _; rw [hV]; exact K2.out.alloc _
      have BV : Hid (Blk V g 43 #[.int .i64 n, .int .i64 0, .int .i64 0]) := by show Blk _ _ _ _; rw [hV, hg]; exact Blk.new _ _ _
      have zg : w1.heap.size ≤ g := by rw [hg]; exact z2
      have HV := Lib.hid hV
      have HG := Lib.hid hg
      clear hV hg
      have hl1 : 1 < ws.length := by have := HL.out; omega
      obtain ⟨ad', e', -, d1⟩ := (R1.out.kept (Nat.le_refl _) KV.out (.inl (Nat.le_refl _))).s hl1
      injection e' with e'
      rw [← e'] at d1
      clear e' ad'
      have hA1 : Hid (ws.getD 1 [] = ws[1]) := by show _ = _; rw [List.getD_eq_getElem?_getD, List.getElem?_eq_getElem hl1]; rfl
      have ha1 := HWL.out _ (List.getElem_mem hl1)
      obtain ⟨wa, hwa⟩ : ∃ wa, wa = ws[1] := ⟨_, rfl⟩
      rw [← hwa] at d1 hA1 ha1
      clear hwa
      have d1' : V.cell? ⟨ad.block, ad.off + 1, none⟩ = some (.string (bs wa)) := by rw [← d1]; rfl
      clear d1
      have q1 := bs_eq' wa itW
      unfold itW at q1
      obtain ⟨bt, hbt⟩ : ∃ bt, bt = decide (wa = [105, 116]) := ⟨_, rfl⟩
      rw [← hbt] at q1
      have HBT := Lib.hid hbt
      clear hbt
      go_upto_region 7 with fail
      rw [← HV.out, ← HG.out]
      go_upto_if 44 with fail
      go_cut [7, 44] (fun v v44 wx => ∃ (a : Int) (ok : Bool), v = .bool ok ∧ Hid (Blk wx g 43 #[.int .i64 n, .int .i64 a, .int .i64 0]) ∧ Hid (Kept 0 0 w1 wx) ∧ Hid ((readA wa = some a ∧ ok = true) ∨ (readA wa = none ∧ ok = false)))
      case first =>
        have b0 := ins0 BV.out
        have b1' := ins1 BV.out
        have b2 := ins2 BV.out
        have f1 := BV.out.frozen 1
        by_cases hit : wa = [105, 116]
        · have qt : bt = true := by rw [HBT.out, decide_eq_true hit]
          clear HBT
          subst qt
          have E2 : Hid (readA wa = some (-1)) := by show _ = _; unfold readA; rw [if_pos (by rw [hit]; rfl)]
          clear hit
          go_wp2_with fail
          go_meet
          exact ⟨-1, true, rfl, BV.out.set_ 1 (.int .i64 (-1)), KV.out.setCell (.inl zg) _, .inl ⟨E2.out, rfl⟩⟩
        · have qt : bt = false := by rw [HBT.out, decide_eq_false hit]
          clear HBT
          subst qt
          have E2 : Hid (readA wa = match readN wa with | some v => if 0 ≤ v then some v else none | none => none) := by show _ = _; unfold readA; rw [if_neg (fun e => hit (by rw [e]; rfl))]; rfl
          have CR := Lib.hid (read_any wa (by omega))
          unfold readV at CR
          clear hit
          cases hv : readN wa with
          | none =>
            rw [hv] at CR E2
            have CR2 : Hid (Calls Tryd.prog 61 #[.string (bs wa)] V fun e w' => e = .returned (.tuple #[.int .i64 0, .bool false]) ∧ Kept 0 0 V w') := CR.out V
            clear CR hv
            go_wp2_with fail
            with_reducible refine CR2.out.mono ?_
            rintro e w3 ⟨rfl, hk⟩
            have B3 := BV.out.kept hk (.inl (Nat.le_refl _))
            have K3 := KV.out.trans hk
            have b0 := ins0 B3
            have b1' := ins1 B3
            have b2 := ins2 B3
            have f1 := B3.frozen 1
            go_wp2_with fail
            go_meet
            exact ⟨0, false, rfl, B3.set_ 1 (.int .i64 0), K3.setCell (.inl zg) _, .inr ⟨E2.out, rfl⟩⟩
          | some v =>
            rw [hv] at CR E2
            have CR2 : Hid (Calls Tryd.prog 61 #[.string (bs wa)] V fun e w' => e = .returned (.tuple #[.int .i64 v, .bool true]) ∧ Kept 0 0 V w') := CR.out V
            clear CR hv
            go_wp2_with fail
            with_reducible refine CR2.out.mono ?_
            rintro e w3 ⟨rfl, hk⟩
            have B3 := BV.out.kept hk (.inl (Nat.le_refl _))
            have K3 := KV.out.trans hk
            have b0 := ins0 B3
            have b1' := ins1 B3
            have b2 := ins2 B3
            have f1 := B3.frozen 1
            by_cases hv0 : 0 ≤ v
            · have g1 : decide (0 ≤ v) = true := decide_eq_true hv0
              have E3 : Hid (readA wa = some v) := by show _ = _; rw [E2.out]; exact if_pos hv0
              clear hv0
              go_wp2_with fail
              go_meet
              exact ⟨v, true, rfl, B3.set_ 1 (.int .i64 v), K3.setCell (.inl zg) _, .inl ⟨E3.out, rfl⟩⟩
            · have g1 : decide (0 ≤ v) = false := decide_eq_false hv0
              have E3 : Hid (readA wa = none) := by show _ = _; rw [E2.out]; exact if_neg hv0
              clear hv0
              go_wp2_with fail
              go_meet
              exact ⟨v, false, rfl, B3.set_ 1 (.int .i64 v), K3.setCell (.inl zg) _, .inr ⟨E3.out, rfl⟩⟩
      obtain ⟨a, ok, rfl, BA, KA, HA⟩ := hcut
      clear BV KV HV HG d1' q1 HBT ha1
      cases ok
      · have E3 : Hid (readW ws = none) := by
          show _ = _
          rw [HW2.out]; unfold fillI; rw [hA1.out]
          rcases HA.out with ⟨_, h⟩ | ⟨h, _⟩
          · cases h
          · rw [h]
        clear HA
        go_upto_region 14 with fail
        have RB := B1.out.kept KA.out (.inl (Nat.le_refl _))
        have zz : w.heap.size < w1.heap.size := zB
        have x0 := ins0 BA.out
        have x1 := ins1 BA.out
        have x2 := ins2 BA.out
        have y0 := ins0 RB
        have y1 := ins1 RB
        have y2 := ins2 RB
        have h0 := RB.frozen 0
        have h1 := RB.frozen 1
        have h2' := RB.frozen 2
        have gz : w.heap.size < g := by omega
        have gne : g ≠ w.heap.size := by omega
        have gne' : w.heap.size ≠ g := by omega
        have KX : Hid (Kept 0 0 w wc) := K1.out.trans KA.out
        go_cut [3] (fun v3 wz => v3 = .bool false ∧ Hid (Blk wz w.heap.size 43 #[.int .i64 n, .int .i64 a, .int .i64 0]) ∧ Hid (Kept 0 0 w wz))
        case rest =>
          obtain ⟨rfl, BZ, KZ⟩ := hcut
          have g0 := ins0 BZ.out
          have g1 := ins1 BZ.out
          have g2 := ins2 BZ.out
          go_wp2_with fail
          refine bodyPost_ret (v := .tuple #[.agg #[.int .i64 n, .int .i64 a, .int .i64 0], .bool false]) (by simp [results, Tryd.results37, go_sem, g0, g1, g2]) rfl ⟨⟨n, a, 0⟩, ?_, ?_, KZ.out⟩
          · rw [E3.out]; rfl
          · intro i' h; rw [E3.out] at h; cases h
        case first =>
          go_region_with (fail)
          all_goals (go_wp2_with fail; go_meet)
          all_goals exact ⟨rfl, (((RB.set_ 0 (.int .i64 n)).set_ 1 (.int .i64 a)).set_ 2 (.int .i64 0)).drew, (((KX.out.setCell (.inl (Nat.le_refl _)) _).setCell (.inl (Nat.le_refl _)) _).setCell (.inl (Nat.le_refl _)) _).drew⟩
      · have E3 : Hid (readA wa = some a) := by
          rcases HA.out with ⟨h, _⟩ | ⟨_, h⟩
          · exact h
          · cases h
        clear HA
        have CT2 := Lib.hid (two_any (n : Int) wc)
        rw [h2] at CT2
        go_wp2_with fail
        with_reducible refine CT2.out.mono ?_
        rintro e w4 ⟨rfl, rfl⟩
        clear CT2
        have E4 : Hid (readW ws = if insB ⟨n, a, 0⟩ = true then some ⟨n, a, 0⟩ else none) := by
          show _ = _
          rw [HW2.out]; unfold fillI; rw [hA1.out, E3.out, h2]; rfl
        go_upto_region 14 with fail
        have RB := B1.out.kept KA.out (.inl (Nat.le_refl _))
        have zz : w.heap.size < w1.heap.size := zB
        have x0 := ins0 BA.out
        have x1 := ins1 BA.out
        have x2 := ins2 BA.out
        have y0 := ins0 RB
        have y1 := ins1 RB
        have y2 := ins2 RB
        have h0 := RB.frozen 0
        have h1 := RB.frozen 1
        have h2' := RB.frozen 2
        have gz : w.heap.size < g := by omega
        have gne : g ≠ w.heap.size := by omega
        have gne' : w.heap.size ≠ g := by omega
        have KX : Hid (Kept 0 0 w wc) := K1.out.trans KA.out
        go_cut [3] (fun v3 wz => v3 = .bool (insB ⟨n, a, 0⟩) ∧ Hid (Blk wz w.heap.size 43 #[.int .i64 n, .int .i64 a, .int .i64 0]) ∧ Hid (Kept 0 0 w wz))
        case rest =>
          obtain ⟨rfl, BZ, KZ⟩ := hcut
          have g0 := ins0 BZ.out
          have g1 := ins1 BZ.out
          have g2 := ins2 BZ.out
          go_wp2_with fail
          refine bodyPost_ret (v := .tuple #[.agg #[.int .i64 n, .int .i64 a, .int .i64 0], .bool (insB ⟨n, a, 0⟩)]) (by simp [results, Tryd.results37, go_sem, g0, g1, g2]) rfl ⟨⟨n, a, 0⟩, ?_, ?_, KZ.out⟩
          · rw [E4.out]; cases insB ⟨n, a, 0⟩ <;> rfl
          · intro i' h
            rw [E4.out] at h
            split at h
            · injection h
            · cases h
        case first =>
          have CO := Lib.hid (fun w' => insOk_any ⟨n, a, 0⟩ w')
          go_region_with ((go_at_call 25; (with_reducible refine (CO.out _).mono ?_); rintro e w7 ⟨rfl, hk⟩; first | (have B7 := BA.out.drew.kept hk (.inl (Nat.le_refl _)); have K7 := KX.out.drew.trans hk; have R7 := RB.drew.kept hk (.inl (Nat.le_refl _)); have x0 := ins0 B7; have x1 := ins1 B7; have x2 := ins2 B7; have y0 := ins0 R7; have y1 := ins1 R7; have y2 := ins2 R7; have h0 := R7.frozen 0; have h1 := R7.frozen 1; have h2' := R7.frozen 2) | skip))
          all_goals (go_wp2_with fail; go_meet)
          all_goals exact ⟨rfl, ((R7.set_ 0 (.int .i64 n)).set_ 1 (.int .i64 a)).set_ 2 (.int .i64 0), ((K7.setCell (.inl (Nat.le_refl _)) _).setCell (.inl (Nat.le_refl _)) _).setCell (.inl (Nat.le_refl _)) _⟩
    · rw [h2] at FE CT
      by_cases hl : ws.length = 3
      case neg =>
        have E : Hid (fitsW ws n = false) := by show _ = _; rw [FE.out, if_pos rfl, decide_eq_false hl]
        have j3 : ((ws.length : Int) != 3) = true := by simp; omega
        by_cases hl2 : ws.length = 2
        · have j2 : ((ws.length : Int) != 2) = false := by simp; omega
          clear hl hl2 FE h2
          have HF2 : Hid (∀ k : Nat, k < n + 1 → fitsW ws k = false) := fun k hk => by
            rcases Nat.lt_or_ge k n with h' | h'
            · exact HF.out k h'
            · have : k = n := by omega
              subst this; exact E.out
          refine wp_region_quiet_below (by kernel_rfl) (by kernel_rfl) ?_
          repeat (first | go_big_quiet_step (first | with_reducible exact CN.out _ _ | with_reducible exact CT.out _ _) | quiet_step (first | with_reducible exact CN.out _ _ | with_reducible exact CT.out _ _))
          refine wpQuiet_nil ?_
          intro _ hw'
          obtain ⟨⟨dq, osq⟩, hw''⟩ := hw'
          subst hw''
          have K2 := Lib.hid (HK.out.trans (Kept.regrown wr dq osq))
          go_wp2
          go_roundw
          case rel => exact ⟨n + 1, by omega, by go_num, HF2, K2⟩
          case measure => simp [intOf]; omega
        · have j2 : ((ws.length : Int) != 2) = true := by simp; omega
          clear hl hl2 FE h2
          have HF2 : Hid (∀ k : Nat, k < n + 1 → fitsW ws k = false) := fun k hk => by
            rcases Nat.lt_or_ge k n with h' | h'
            · exact HF.out k h'
            · have : k = n := by omega
              subst this; exact E.out
          refine wp_region_quiet_below (by kernel_rfl) (by kernel_rfl) ?_
          repeat (first | go_big_quiet_step (first | with_reducible exact CN.out _ _ | with_reducible exact CT.out _ _) | quiet_step (first | with_reducible exact CN.out _ _ | with_reducible exact CT.out _ _))
          refine wpQuiet_nil ?_
          intro _ hw'
          obtain ⟨⟨dq, osq⟩, hw''⟩ := hw'
          subst hw''
          have K2 := Lib.hid (HK.out.trans (Kept.regrown wr dq osq))
          go_wp2
          go_roundw
          case rel => exact ⟨n + 1, by omega, by go_num, HF2, K2⟩
          case measure => simp [intOf]; omega
      have j2 : ((ws.length : Int) != 2) = true := by simp; omega
      have j3 : ((ws.length : Int) != 3) = false := by simp; omega
      have E : Hid (fitsW ws n = true) := by show _ = _; rw [FE.out, if_pos rfl, decide_eq_true hl]
      have HL := Lib.hid hl
      clear hl FE
      refine wp_region_quiet_below (by kernel_rfl) (by kernel_rfl) ?_
      repeat (first | go_big_quiet_step (first | with_reducible exact CN.out _ _ | with_reducible exact CT.out _ _) | quiet_step (first | with_reducible exact CN.out _ _ | with_reducible exact CT.out _ _))
      refine wpQuiet_nil ?_
      intro _ hw'
      obtain ⟨⟨dq, osq⟩, hw''⟩ := hw'
      subst hw''
      go_upto_region 6 with fail
      have K2 := Lib.hid (HK.out.trans (Kept.regrown wr dq osq))
      obtain ⟨w2, hw2⟩ : ∃ w2, w2 = grow (redrawn wr dq) osq := ⟨_, rfl⟩
      rw [← hw2] at K2 ⊢
      clear hw2 k0 CN CT HK HF q
      have HW2 : Hid (readW ws = fillI n ws) := by show _ = _; unfold readW; rw [fits_find (by omega) E.out]
      have z2 := K2.out.size
      obtain ⟨V, hV⟩ : ∃ V, V = w2.alloc (.cells #[.int .i64 n, .int .i64 0, .int .i64 0] 43) := ⟨_, rfl⟩
      obtain ⟨g, hg⟩ : ∃ g, g = w2.heap.size := ⟨_, rfl⟩
      have KV : Hid (Kept 0 0 w1 V) := by show Kept _ _ _ _; rw [hV]; exact K2.out.alloc _
      have BV : Hid (Blk V g 43 #[.int .i64 n, .int .i64 0, .int .i64 0]) := by show Blk _ _ _ _; rw [hV, hg]; exact Blk.new _ _ _
      have zg : w1.heap.size ≤ g := by rw [hg]; exact z2
      have HV := Lib.hid hV
      have HG := Lib.hid hg
      clear hV hg
      have hl1 : 1 < ws.length := by have := HL.out; omega
      obtain ⟨ad', e', -, d1⟩ := (R1.out.kept (Nat.le_refl _) KV.out (.inl (Nat.le_refl _))).s hl1
      injection e' with e'
      rw [← e'] at d1
      clear e' ad'
      have hA1 : Hid (ws.getD 1 [] = ws[1]) := by show _ = _; rw [List.getD_eq_getElem?_getD, List.getElem?_eq_getElem hl1]; rfl
      have ha1 := HWL.out _ (List.getElem_mem hl1)
      obtain ⟨wa, hwa⟩ : ∃ wa, wa = ws[1] := ⟨_, rfl⟩
      rw [← hwa] at d1 hA1 ha1
      clear hwa
      have d1' : V.cell? ⟨ad.block, ad.off + 1, none⟩ = some (.string (bs wa)) := by rw [← d1]; rfl
      clear d1
      have hl2 : 2 < ws.length := by have := HL.out; omega
      have hA2 : Hid (ws.getD 2 [] = ws[2]) := by show _ = _; rw [List.getD_eq_getElem?_getD, List.getElem?_eq_getElem hl2]; rfl
      have ha2 := HWL.out _ (List.getElem_mem hl2)
      have L2 : Hid (∀ w', Kept 0 0 w1 w' → w'.cell? ⟨ad.block, ad.off + 2, none⟩ = some (.string (bs ws[2]))) := fun w' h => by
        obtain ⟨ad', e', -, d2⟩ := (R1.out.kept (Nat.le_refl _) h (.inl (Nat.le_refl _))).s hl2
        injection e' with e'
        rw [← e'] at d2
        rw [← d2]; rfl
      obtain ⟨wb, hwb⟩ : ∃ wb, wb = ws[2] := ⟨_, rfl⟩
      rw [← hwb] at L2 hA2 ha2
      clear hwb
      have q1 := bs_eq' wa itW
      unfold itW at q1
      obtain ⟨bt, hbt⟩ : ∃ bt, bt = decide (wa = [105, 116]) := ⟨_, rfl⟩
      rw [← hbt] at q1
      have HBT := Lib.hid hbt
      clear hbt
      go_upto_region 7 with fail
      rw [← HV.out, ← HG.out]
      go_upto_if 44 with fail
      go_cut [7, 44] (fun v v44 wx => ∃ (a : Int) (ok : Bool), v = .bool ok ∧ Hid (Blk wx g 43 #[.int .i64 n, .int .i64 a, .int .i64 0]) ∧ Hid (Kept 0 0 w1 wx) ∧ Hid ((readA wa = some a ∧ ok = true) ∨ (readA wa = none ∧ ok = false)))
      case first =>
        have b0 := ins0 BV.out
        have b1' := ins1 BV.out
        have b2 := ins2 BV.out
        have f1 := BV.out.frozen 1
        by_cases hit : wa = [105, 116]
        · have qt : bt = true := by rw [HBT.out, decide_eq_true hit]
          clear HBT
          subst qt
          have E2 : Hid (readA wa = some (-1)) := by show _ = _; unfold readA; rw [if_pos (by rw [hit]; rfl)]
          clear hit
          go_wp2_with fail
          go_meet
          exact ⟨-1, true, rfl, BV.out.set_ 1 (.int .i64 (-1)), KV.out.setCell (.inl zg) _, .inl ⟨E2.out, rfl⟩⟩
        · have qt : bt = false := by rw [HBT.out, decide_eq_false hit]
          clear HBT
          subst qt
          have E2 : Hid (readA wa = match readN wa with | some v => if 0 ≤ v then some v else none | none => none) := by show _ = _; unfold readA; rw [if_neg (fun e => hit (by rw [e]; rfl))]; rfl
          have CR := Lib.hid (read_any wa (by omega))
          unfold readV at CR
          clear hit
          cases hv : readN wa with
          | none =>
            rw [hv] at CR E2
            have CR2 : Hid (Calls Tryd.prog 61 #[.string (bs wa)] V fun e w' => e = .returned (.tuple #[.int .i64 0, .bool false]) ∧ Kept 0 0 V w') := CR.out V
            clear CR hv
            go_wp2_with fail
            with_reducible refine CR2.out.mono ?_
            rintro e w3 ⟨rfl, hk⟩
            have B3 := BV.out.kept hk (.inl (Nat.le_refl _))
            have K3 := KV.out.trans hk
            have b0 := ins0 B3
            have b1' := ins1 B3
            have b2 := ins2 B3
            have f1 := B3.frozen 1
            go_wp2_with fail
            go_meet
            exact ⟨0, false, rfl, B3.set_ 1 (.int .i64 0), K3.setCell (.inl zg) _, .inr ⟨E2.out, rfl⟩⟩
          | some v =>
            rw [hv] at CR E2
            have CR2 : Hid (Calls Tryd.prog 61 #[.string (bs wa)] V fun e w' => e = .returned (.tuple #[.int .i64 v, .bool true]) ∧ Kept 0 0 V w') := CR.out V
            clear CR hv
            go_wp2_with fail
            with_reducible refine CR2.out.mono ?_
            rintro e w3 ⟨rfl, hk⟩
            have B3 := BV.out.kept hk (.inl (Nat.le_refl _))
            have K3 := KV.out.trans hk
            have b0 := ins0 B3
            have b1' := ins1 B3
            have b2 := ins2 B3
            have f1 := B3.frozen 1
            by_cases hv0 : 0 ≤ v
            · have g1 : decide (0 ≤ v) = true := decide_eq_true hv0
              have E3 : Hid (readA wa = some v) := by show _ = _; rw [E2.out]; exact if_pos hv0
              clear hv0
              go_wp2_with fail
              go_meet
              exact ⟨v, true, rfl, B3.set_ 1 (.int .i64 v), K3.setCell (.inl zg) _, .inl ⟨E3.out, rfl⟩⟩
            · have g1 : decide (0 ≤ v) = false := decide_eq_false hv0
              have E3 : Hid (readA wa = none) := by show _ = _; rw [E2.out]; exact if_neg hv0
              clear hv0
              go_wp2_with fail
              go_meet
              exact ⟨v, false, rfl, B3.set_ 1 (.int .i64 v), K3.setCell (.inl zg) _, .inr ⟨E3.out, rfl⟩⟩
      obtain ⟨a, ok, rfl, BA, KA, HA⟩ := hcut
      clear BV KV HV HG d1' q1 HBT ha1
      cases ok
      · have E3 : Hid (readW ws = none) := by
          show _ = _
          rw [HW2.out]; unfold fillI; rw [hA1.out]
          rcases HA.out with ⟨_, h⟩ | ⟨h, _⟩
          · cases h
          · rw [h]
        clear HA
        go_upto_region 14 with fail
        have RB := B1.out.kept KA.out (.inl (Nat.le_refl _))
        have zz : w.heap.size < w1.heap.size := zB
        have x0 := ins0 BA.out
        have x1 := ins1 BA.out
        have x2 := ins2 BA.out
        have y0 := ins0 RB
        have y1 := ins1 RB
        have y2 := ins2 RB
        have h0 := RB.frozen 0
        have h1 := RB.frozen 1
        have h2' := RB.frozen 2
        have gz : w.heap.size < g := by omega
        have gne : g ≠ w.heap.size := by omega
        have gne' : w.heap.size ≠ g := by omega
        have KX : Hid (Kept 0 0 w wc) := K1.out.trans KA.out
        go_cut [3] (fun v3 wz => v3 = .bool false ∧ Hid (Blk wz w.heap.size 43 #[.int .i64 n, .int .i64 a, .int .i64 0]) ∧ Hid (Kept 0 0 w wz))
        case rest =>
          obtain ⟨rfl, BZ, KZ⟩ := hcut
          have g0 := ins0 BZ.out
          have g1 := ins1 BZ.out
          have g2 := ins2 BZ.out
          go_wp2_with fail
          refine bodyPost_ret (v := .tuple #[.agg #[.int .i64 n, .int .i64 a, .int .i64 0], .bool false]) (by simp [results, Tryd.results37, go_sem, g0, g1, g2]) rfl ⟨⟨n, a, 0⟩, ?_, ?_, KZ.out⟩
          · rw [E3.out]; rfl
          · intro i' h; rw [E3.out] at h; cases h
        case first =>
          go_region_with (fail)
          all_goals (go_wp2_with fail; go_meet)
          all_goals exact ⟨rfl, (((RB.set_ 0 (.int .i64 n)).set_ 1 (.int .i64 a)).set_ 2 (.int .i64 0)).drew, (((KX.out.setCell (.inl (Nat.le_refl _)) _).setCell (.inl (Nat.le_refl _)) _).setCell (.inl (Nat.le_refl _)) _).drew⟩
      · have E3 : Hid (readA wa = some a) := by
          rcases HA.out with ⟨h, _⟩ | ⟨_, h⟩
          · exact h
          · cases h
        clear HA
        have CT2 := Lib.hid (two_any (n : Int) wc)
        rw [h2] at CT2
        go_wp2_with fail
        with_reducible refine CT2.out.mono ?_
        rintro e w4 ⟨rfl, rfl⟩
        clear CT2
        have CR := Lib.hid (read_any wb (by omega))
        unfold readV at CR
        have e2 := L2.out _ KA.out
        have b0 := ins0 BA.out
        have b1' := ins1 BA.out
        have b2 := ins2 BA.out
        have f2 := BA.out.frozen 2
        cases hv : readN wb with
        | none =>
          rw [hv] at CR
          have CR2 : Hid (Calls Tryd.prog 61 #[.string (bs wb)] wc fun e w' => e = .returned (.tuple #[.int .i64 0, .bool false]) ∧ Kept 0 0 wc w') := CR.out wc
          have E4 : Hid (readW ws = none) := by
            show _ = _
            rw [HW2.out]; unfold fillI; rw [hA1.out, E3.out, h2, hA2.out, hv]; rfl
          clear CR hv
          go_wp2_with fail
          with_reducible refine CR2.out.mono ?_
          rintro e w5 ⟨rfl, hk⟩
          have B5 := Lib.hid (BA.out.kept hk (.inl (Nat.le_refl _)))
          have K5 := Lib.hid (KA.out.trans hk)
          clear hk CR2 b0 b1' b2 f2 e2
          have b2 := ins2 B5.out
          have f2 := B5.out.frozen 2
          go_upto_region 14 with fail
          obtain ⟨w6, hw6⟩ : ∃ w6, w6 = w5.setCell ⟨g, 2, none⟩ (.int .i64 0) := ⟨_, rfl⟩
          have B6 : Hid (Blk w6 g 43 #[.int .i64 n, .int .i64 a, .int .i64 0]) := by show Blk _ _ _ _; rw [hw6]; exact B5.out.set_ 2 (.int .i64 0)
          have K6 : Hid (Kept 0 0 w1 w6) := by show Kept _ _ _ _; rw [hw6]; exact K5.out.setCell (.inl zg) _
          rw [← hw6]
          clear hw6 b2 f2
          go_upto_region 14 with fail
          have RB := B1.out.kept K6.out (.inl (Nat.le_refl _))
          have zz : w.heap.size < w1.heap.size := zB
          have x0 := ins0 B6.out
          have x1 := ins1 B6.out
          have x2 := ins2 B6.out
          have y0 := ins0 RB
          have y1 := ins1 RB
          have y2 := ins2 RB
          have h0 := RB.frozen 0
          have h1 := RB.frozen 1
          have h2' := RB.frozen 2
          have gz : w.heap.size < g := by omega
          have gne : g ≠ w.heap.size := by omega
          have gne' : w.heap.size ≠ g := by omega
          have KX : Hid (Kept 0 0 w w6) := K1.out.trans K6.out
          go_cut [3] (fun v3 wz => v3 = .bool false ∧ Hid (Blk wz w.heap.size 43 #[.int .i64 n, .int .i64 a, .int .i64 0]) ∧ Hid (Kept 0 0 w wz))
          case rest =>
            obtain ⟨rfl, BZ, KZ⟩ := hcut
            have g0 := ins0 BZ.out
            have g1 := ins1 BZ.out
            have g2 := ins2 BZ.out
            go_wp2_with fail
            refine bodyPost_ret (v := .tuple #[.agg #[.int .i64 n, .int .i64 a, .int .i64 0], .bool false]) (by simp [results, Tryd.results37, go_sem, g0, g1, g2]) rfl ⟨⟨n, a, 0⟩, ?_, ?_, KZ.out⟩
            · rw [E4.out]; rfl
            · intro i' h; rw [E4.out] at h; cases h
          case first =>
            go_region_with (fail)
            all_goals (go_wp2_with fail; go_meet)
            all_goals exact ⟨rfl, (((RB.set_ 0 (.int .i64 n)).set_ 1 (.int .i64 a)).set_ 2 (.int .i64 0)).drew, (((KX.out.setCell (.inl (Nat.le_refl _)) _).setCell (.inl (Nat.le_refl _)) _).setCell (.inl (Nat.le_refl _)) _).drew⟩
        | some v =>
          rw [hv] at CR
          have CR2 : Hid (Calls Tryd.prog 61 #[.string (bs wb)] wc fun e w' => e = .returned (.tuple #[.int .i64 v, .bool true]) ∧ Kept 0 0 wc w') := CR.out wc
          have E4 : Hid (readW ws = if insB ⟨n, a, v⟩ = true then some ⟨n, a, v⟩ else none) := by
            show _ = _
            rw [HW2.out]; unfold fillI; rw [hA1.out, E3.out, h2, hA2.out, hv]; rfl
          clear CR hv
          go_wp2_with fail
          with_reducible refine CR2.out.mono ?_
          rintro e w5 ⟨rfl, hk⟩
          have B5 := Lib.hid (BA.out.kept hk (.inl (Nat.le_refl _)))
          have K5 := Lib.hid (KA.out.trans hk)
          clear hk CR2 b0 b1' b2 f2 e2
          have b2 := ins2 B5.out
          have f2 := B5.out.frozen 2
          go_upto_region 14 with fail
          obtain ⟨w6, hw6⟩ : ∃ w6, w6 = w5.setCell ⟨g, 2, none⟩ (.int .i64 v) := ⟨_, rfl⟩
          have B6 : Hid (Blk w6 g 43 #[.int .i64 n, .int .i64 a, .int .i64 v]) := by show Blk _ _ _ _; rw [hw6]; exact B5.out.set_ 2 (.int .i64 v)
          have K6 : Hid (Kept 0 0 w1 w6) := by show Kept _ _ _ _; rw [hw6]; exact K5.out.setCell (.inl zg) _
          rw [← hw6]
          clear hw6 b2 f2
          go_upto_region 14 with fail
          have RB := B1.out.kept K6.out (.inl (Nat.le_refl _))
          have zz : w.heap.size < w1.heap.size := zB
          have x0 := ins0 B6.out
          have x1 := ins1 B6.out
          have x2 := ins2 B6.out
          have y0 := ins0 RB
          have y1 := ins1 RB
          have y2 := ins2 RB
          have h0 := RB.frozen 0
          have h1 := RB.frozen 1
          have h2' := RB.frozen 2
          have gz : w.heap.size < g := by omega
          have gne : g ≠ w.heap.size := by omega
          have gne' : w.heap.size ≠ g := by omega
          have KX : Hid (Kept 0 0 w w6) := K1.out.trans K6.out
          go_cut [3] (fun v3 wz => v3 = .bool (insB ⟨n, a, v⟩) ∧ Hid (Blk wz w.heap.size 43 #[.int .i64 n, .int .i64 a, .int .i64 v]) ∧ Hid (Kept 0 0 w wz))
          case rest =>
            obtain ⟨rfl, BZ, KZ⟩ := hcut
            have g0 := ins0 BZ.out
            have g1 := ins1 BZ.out
            have g2 := ins2 BZ.out
            go_wp2_with fail
            refine bodyPost_ret (v := .tuple #[.agg #[.int .i64 n, .int .i64 a, .int .i64 v], .bool (insB ⟨n, a, v⟩)]) (by simp [results, Tryd.results37, go_sem, g0, g1, g2]) rfl ⟨⟨n, a, v⟩, ?_, ?_, KZ.out⟩
            · rw [E4.out]; cases insB ⟨n, a, v⟩ <;> rfl
            · intro i' h
              rw [E4.out] at h
              split at h
              · injection h
              · cases h
          case first =>
            have CO := Lib.hid (fun w' => insOk_any ⟨n, a, v⟩ w')
            go_region_with ((go_at_call 25; (with_reducible refine (CO.out _).mono ?_); rintro e w7 ⟨rfl, hk⟩; first | (have B7 := B6.out.drew.kept hk (.inl (Nat.le_refl _)); have K7 := KX.out.drew.trans hk; have R7 := RB.drew.kept hk (.inl (Nat.le_refl _)); have x0 := ins0 B7; have x1 := ins1 B7; have x2 := ins2 B7; have y0 := ins0 R7; have y1 := ins1 R7; have y2 := ins2 R7; have h0 := R7.frozen 0; have h1 := R7.frozen 1; have h2' := R7.frozen 2) | skip))
            all_goals (go_wp2_with fail; go_meet)
            all_goals exact ⟨rfl, ((R7.set_ 0 (.int .i64 n)).set_ 1 (.int .i64 a)).set_ 2 (.int .i64 v), ((K7.setCell (.inl (Nat.le_refl _)) _).setCell (.inl (Nat.le_refl _)) _).setCell (.inl (Nat.le_refl _)) _⟩
end Go.Proofs.YtoccbmmjcbjacaaDoor
