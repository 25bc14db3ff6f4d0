/- The law of ranks returns true for every code, under the contracts of the program's Merged, RankOf and Sorted; condition: the code can be read. -/
import Derived.Test.YtggggdloppnopaaMq
import Derived.Test.YtggggdloppnopaaDh
namespace Go.Proofs.Ytggggdloppnopaa
open Go.RowKit Go.Sort

theorem pow_bound {p j R n : Nat} (h : p * 2 ^ j = 2 ^ R) (hR : 2 ^ R ≤ n) : p ≤ n := by
  have h1 : 1 ≤ 2 ^ j := Nat.one_le_two_pow
  have h2 : p * 1 ≤ p * 2 ^ j := Nat.mul_le_mul_left p h1
  omega
theorem pow_step {p j R : Nat} (h : p * 2 ^ (j + 1) = 2 ^ R) : (p * 2) * 2 ^ j = 2 ^ R := by
  rw [← h, Nat.pow_succ, Nat.mul_assoc, Nat.mul_comm 2]
theorem rank_le {R : Nat} (h : 2 ^ R ≤ 65) : R ≤ 6 := by
  rcases Nat.lt_or_ge 6 R with h' | h'
  · have : 2 ^ 7 ≤ 2 ^ R := Nat.pow_le_pow_right (by omega) h'
    omega
  · exact h'

theorem tailSL {w : World} {B c : Nat} {ad : Addr} {x : Tw} {r : List Tw} (h : SL twR w B (some ad) c (x :: r)) : SL twR w B (some (ad.add 3)) (c - 1) r := by
  have h1 := h.cap
  have h2 := h.max
  simp only [List.length_cons] at h1
  have := h.part (i := 1) (m := r.length) (c' := c - 1) (by simp; omega) (by omega) (by omega)
  simpa [twR_k] using this
set_option maxHeartbeats 6400000 in
set_option maxRecDepth 100000 in
theorem lawRank_small (hM : DoesTT 21 mergedL mergedOk) (hR : DoesI 23 rankOfL) (hS : DoesT 18 sortedL) (xs : List Int) (A : Option Addr) (c : Nat) (w : World) (h : Rd (Value.int .u8) w w.heap.size A xs) (hx : ∀ x ∈ xs, 0 ≤ x ∧ x ≤ 255) (hl : xs.length ≤ 4096) :
    Calls Try.prog 4 #[.slice A xs.length c] w fun e w' => e = .returned (.bool true) ∧ Kept 0 0 w w' := by
  have hm := h.1
  have HD := Lib.hid (drawMerged_any xs A c w h hx hl)
  have hbig : decide (4096 < xs.length) = false := by simpa using hl
  have HM := Lib.hid hM
  have HR := Lib.hid hR
  have HS := Lib.hid hS
  clear h hx hM hR hS hl
  go_enter Try.func4, Try.ntmps4
  go_wp2_with fail
  with_reducible refine (big_any _ _ _ _ hm).mono ?_
  rintro e w' ⟨rfl, rfl⟩
  rw [hbig]
  clear hbig hm
  go_wp2_with fail
  with_reducible refine HD.out.mono ?_
  rintro e w1 ⟨va, vb, a, b, m, rfl, la, lb, hm1, hm2, oa, ob, k1⟩
  have OA := Lib.hid oa
  have OB := Lib.hid ob
  have K1 := Lib.hid k1
  clear oa ob k1 HD
  go_wp2_with fail
  with_reducible refine (HM.out.at_ a b va vb w1 (OA.out.rdW hm1) (OB.out.rdW (Nat.le_refl _))).mono ?_
  rintro e w2 ⟨um, rfl, om, k2⟩
  have OM := Lib.hid om
  have OA2 := Lib.hid (OA.out.kept k2 (.inl (Nat.le_refl _)))
  have OB2 := Lib.hid (OB.out.kept k2 (.inl (Nat.le_refl _)))
  have K2 := Lib.hid (K1.out.trans k2)
  have z2 := k2.size
  clear om k2 OA OB K1 HM
  go_wp2_with fail
  with_reducible refine (specMerged.at_ a b va vb w2 (OA2.out.rdW (by omega)) (OB2.out.rdW (by omega))).mono ?_
  rintro e w3 ⟨us, rfl, os, k3⟩
  have OM3 := Lib.hid (OM.out.kept k3 (.inl (Nat.le_refl _)))
  have OA3 := Lib.hid (OA2.out.kept k3 (.inl (Nat.le_refl _)))
  have OB3 := Lib.hid (OB2.out.kept k3 (.inl (Nat.le_refl _)))
  have K3 := Lib.hid (K2.out.trans k3)
  have z3 := k3.size
  clear os k3 OA2 OB2 OM K2
  cases hb : mergedOk a b
  · clear hb
    go_wp2_with fail
    go_ret
    exact ⟨rfl, K3.out⟩
  · have SA := Lib.hid (merge_says hb)
    have hlen : a.length + b.length ≤ 64 := (mergedOk_iff.1 hb).2.2.1
    clear hb
    go_wp2_with fail
    with_reducible refine (HR.out.at_ (mergedL a b) um w3 (OM3.out.rdW (by omega))).mono ?_
    rintro e w4 ⟨rfl, k4⟩
    have OM4 := Lib.hid (OM3.out.kept k4 (.inl (Nat.le_refl _)))
    have OA4 := Lib.hid (OA3.out.kept k4 (.inl (Nat.le_refl _)))
    have OB4 := Lib.hid (OB3.out.kept k4 (.inl (Nat.le_refl _)))
    have K4 := Lib.hid (K3.out.trans k4)
    have z4 := k4.size
    clear k4 OA3 OB3 OM3 K3
    rw [SA.out.rk]
    obtain ⟨R, hRd⟩ : ∃ R, R = (mergeT (treeOf a) (treeOf b)).rank := ⟨_, rfl⟩
    have PW : Hid (2 ^ R ≤ a.length + b.length + 1) := by show _ ≤ _; rw [hRd]; exact SA.out.pow
    have r6 : R ≤ 6 := rank_le (by have := PW.out; omega)
    have RK : Hid (rankOfL (mergedL a b) = (R : Int)) := by show _ = _; rw [SA.out.rk, hRd]
    rw [← hRd]
    clear hRd
    go_wp2_with fail
    go_loop [9, 10] (fun v9 v10 => ∃ p j : Nat, v9 = .int .i64 p ∧ v10 = .int .i64 j ∧ j ≤ 6 ∧ Hid (p * 2 ^ j = 2 ^ R)) (fun _ v10 => (intOf v10).toNat)
    case atStart => exact ⟨1, R, rfl, rfl, r6, Lib.hid (Nat.one_mul _)⟩
    case round =>
      obtain ⟨p, j, rfl, rfl, hj, HP⟩ := hrel
      have pb : p ≤ 65 := pow_bound HP.out (by have := PW.out; omega)
      cases j with
      | succ j =>
        have HP2 := Lib.hid (pow_step HP.out)
        go_wp2_with fail
        go_round
        case rel => exact ⟨p * 2, j, by go_num, by go_num, by omega, HP2⟩
        case measure => simp [intOf]
      | zero =>
        have pe : Hid (p = 2 ^ R) := by have := HP.out; show _ = _; simpa using this
        have pl : (p : Int) - 1 ≤ (a.length : Int) + (b.length : Int) := by have := pe.out; have := PW.out; omega
        have EL := Lib.hid SA.out.len
        obtain ⟨DM, dm, rfl, om⟩ := OM4.out
        obtain ⟨DA, da, rfl, oa⟩ := OA4.out
        obtain ⟨DB, db, rfl, ob⟩ := OB4.out
        obtain ⟨n, hn⟩ : ∃ n, n = (mergedL a b).length := ⟨_, rfl⟩
        have HN : Hid (n = a.length + b.length) := by show _ = _; rw [hn]; exact EL.out
        have g1 : ((n : Int) != (a.length : Int) + (b.length : Int)) = false := by have := HN.out; simp; omega
        have g2 : decide ((n : Int) < (p : Int) - 1) = false := by have := HN.out; simp; omega
        have nb : n ≤ 64 := by have := HN.out; omega
        have CO := Lib.hid (specHeapOk.at_ (mergedL a b) _ w4 (OM4.out.rdW (by omega)))
        rw [SA.out.ok, ← hn] at CO
        rw [← hn]
        have HNN := Lib.hid hn
        clear om oa ob HP hn
        go_wp2_with fail
        with_reducible refine CO.out.mono ?_
        rintro e w5 ⟨rfl, k5⟩
        have OM5 := Lib.hid (OM4.out.kept k5 (.inl (Nat.le_refl _)))
        have OA5 := Lib.hid (OA4.out.kept k5 (.inl (Nat.le_refl _)))
        have OB5 := Lib.hid (OB4.out.kept k5 (.inl (Nat.le_refl _)))
        have K5 := Lib.hid (K4.out.trans k5)
        have z5 := k5.size
        clear k5 OA4 OB4 OM4 K4 CO
        have CR := Lib.hid (HR.out.at_ (mergedL a b) _ w5 (OM5.out.rdW (by omega)))
        rw [RK.out, ← HNN.out] at CR
        go_wp2_with fail
        with_reducible refine CR.out.mono ?_
        rintro e w6 ⟨rfl, k6⟩
        have OM6 := Lib.hid (OM5.out.kept k6 (.inl (Nat.le_refl _)))
        have OA6 := Lib.hid (OA5.out.kept k6 (.inl (Nat.le_refl _)))
        have OB6 := Lib.hid (OB5.out.kept k6 (.inl (Nat.le_refl _)))
        have K6 := Lib.hid (K5.out.trans k6)
        have z6 := k6.size
        clear k6 OA5 OB5 OM5 K5 CR
        have CS := Lib.hid (HS.out.at_ (mergedL a b) _ w6 (OM6.out.rdW (by omega)))
        rw [← HNN.out] at CS
        go_wp2_with fail
        with_reducible refine CS.out.mono ?_
        rintro e w7 ⟨ul, rfl, ol, k7⟩
        have OL7 := Lib.hid ol
        have OA7 := Lib.hid (OA6.out.kept k7 (.inl (Nat.le_refl _)))
        have OB7 := Lib.hid (OB6.out.kept k7 (.inl (Nat.le_refl _)))
        have K7 := Lib.hid (K6.out.trans k7)
        have z7 := k7.size
        clear k7 ol OA6 OB6 OM6 K6 CS
        have CS := Lib.hid (HS.out.at_ a _ w7 (OA7.out.rdW (by omega)))
        go_wp2_with fail
        with_reducible refine CS.out.mono ?_
        rintro e w8 ⟨ux, rfl, ox, k8⟩
        have OL8 := Lib.hid (OL7.out.kept k8 (.inl (Nat.le_refl _)))
        have OX8 := Lib.hid ox
        have OB8 := Lib.hid (OB7.out.kept k8 (.inl (Nat.le_refl _)))
        have K8 := Lib.hid (K7.out.trans k8)
        have z8 := k8.size
        clear k8 ox OA7 OB7 OL7 K7 CS
        have CS := Lib.hid (HS.out.at_ b _ w8 (OB8.out.rdW (by omega)))
        go_wp2_with fail
        with_reducible refine CS.out.mono ?_
        rintro e w9 ⟨uy, rfl, oy, k9⟩
        have OL9 := Lib.hid ((OL8.out.kept k9 (.inl (Nat.le_refl _))).rdW (by have := k9.size; omega))
        have OX9 := Lib.hid ((OX8.out.kept k9 (.inl (Nat.le_refl _))).rdW (by have := k9.size; omega))
        have OY9 := Lib.hid (oy.rdW (Nat.le_refl _))
        have K9 := Lib.hid (K8.out.trans k9)
        clear k9 oy OX8 OB8 OL8 K8 CS
        have BO := Lib.hid SA.out.both
        have ll : (sortedL (mergedL a b)).length ≤ 64 := sortedL_len _
        obtain ⟨l, hl⟩ : ∃ l, l = sortedL (mergedL a b) := ⟨_, rfl⟩
        obtain ⟨x, hx⟩ : ∃ x, x = sortedL a := ⟨_, rfl⟩
        obtain ⟨y, hy⟩ : ∃ y, y = sortedL b := ⟨_, rfl⟩
        rw [← hl] at OL9 BO ll
        rw [← hx] at OX9 BO
        rw [← hy] at OY9 BO
        obtain ⟨DL, dl, rfl, sl⟩ := OL9.out
        obtain ⟨DX, dx, rfl, sx⟩ := OX9.out
        obtain ⟨DY, dy, rfl, sy⟩ := OY9.out
        have SLl := Lib.hid sl
        have SX := Lib.hid sx
        have SY := Lib.hid sy
        clear sl sx sy hl hx hy OL9 OX9 OY9 SA HS HR RK HNN EL HN
        go_wp2_with fail
        go_loopw [12, 13, 14] (fun v12 v13 v14 wr => ∃ (k : Nat) (xr yr : List Tw) (A2 A3 : Option Addr) (c2 c3 : Nat), k ≤ l.length ∧ v12 = .slice A2 xr.length c2 ∧ v13 = .slice A3 yr.length c3 ∧ v14 = .int .i64 k ∧ Hid (SL twR w9 w9.heap.size A2 c2 xr) ∧ Hid (SL twR w9 w9.heap.size A3 c3 yr) ∧ Hid (Both (l.drop k) xr yr) ∧ Hid (Kept 0 0 w9 wr)) (fun _ _ v14 _ => 65 - (intOf v14).toNat)
        case atStart => exact ⟨0, x, y, DX, DY, dx, dy, Nat.zero_le _, rfl, rfl, rfl, SX, SY, BO, Lib.hid (Kept.refl _ _ _)⟩
        case round =>
          clear SX SY BO
          obtain ⟨k, xr, yr, A2, A3, c2, c3, hk, rfl, rfl, rfl, SX, SY, BO, KR⟩ := hrel
          have mx1 := SX.out.cap
          have mx2 := SX.out.max
          have my1 := SY.out.cap
          have my2 := SY.out.max
          unfold maxLen at mx2 my2
          by_cases hlt : k < l.length
          · have i1 : (k : Int) < (l.length : Int) := by omega
            obtain ⟨ad, e1, hab, d0, d1, d2⟩ := (SLl.out.rd.kept (Nat.le_refl _) KR.out (.inl (Nat.le_refl _))).tw hlt
            subst e1
            have ED : Hid (l.drop k = l[k] :: l.drop (k + 1)) := List.drop_eq_getElem_cons hlt
            rw [ED.out] at BO
            by_cases hxh : ∃ xr', xr = l[k] :: xr'
            · obtain ⟨xr', rfl⟩ := hxh
              obtain ⟨ad2, e2, hab2, t0, t1, t2⟩ := (SX.out.rd.kept (Nat.le_refl _) KR.out (.inl (Nat.le_refl _))).head
              subst e2
              have BO2 := Lib.hid BO.out.left
              have lx : (l[k] :: xr').length = xr'.length + 1 := rfl
              simp only [List.length_cons] at mx1 ⊢
              by_cases hc : c2 = 1
              · subst hc
                obtain rfl : xr' = [] := List.eq_nil_of_length_eq_zero (by omega)
                simp only [List.length_nil] at *
                go_wp2_with fail
                go_quiet (fail)
                go_wp2_with fail
                go_roundw
                case rel => exact ⟨k + 1, [], yr, _, A3, _, c3, by omega, rfl, rfl, by go_num, Lib.hid (SL.none _ _ _ _ (by unfold maxLen; omega)), SY, BO2, Lib.hid (KR.out.drewN _)⟩
                case measure => simp [intOf]; omega
              · have hc' : ¬ (c2 : Int) = 1 := by omega
                go_wp2_with fail
                go_quiet (fail)
                go_wp2_with fail
                go_roundw
                case rel => exact ⟨k + 1, xr', yr, _, A3, _, c3, by omega, rfl, rfl, by go_num, Lib.hid (tailSL SX.out), SY, BO2, Lib.hid (KR.out.drewN _)⟩
                case measure => simp [intOf]; omega
            · rcases BO.out.next with hh | ⟨yr', rfl⟩
              · exact absurd hh hxh
              obtain ⟨ad3, e3, hab3, t0, t1, t2⟩ := (SY.out.rd.kept (Nat.le_refl _) KR.out (.inl (Nat.le_refl _))).head
              subst e3
              have BO2 := Lib.hid BO.out.right
              simp only [List.length_cons] at my1 ⊢
              cases xr with
              | nil =>
                clear hxh
                simp only [List.length_nil] at *
                by_cases hc : c3 = 1
                · subst hc
                  obtain rfl : yr' = [] := List.eq_nil_of_length_eq_zero (by omega)
                  simp only [List.length_nil] at *
                  go_wp2_with fail
                  go_quiet (fail)
                  go_wp2_with fail
                  go_quiet (fail)
                  go_wp2_with fail
                  go_roundw
                  case rel => exact ⟨k + 1, [], [], A2, _, c2, _, by omega, rfl, rfl, by go_num, SX, Lib.hid (SL.none _ _ _ _ (by unfold maxLen; omega)), BO2, Lib.hid (KR.out.drewN _)⟩
                  case measure => simp [intOf]; omega
                · have hc' : ¬ (c3 : Int) = 1 := by omega
                  go_wp2_with fail
                  go_quiet (fail)
                  go_wp2_with fail
                  go_quiet (fail)
                  go_wp2_with fail
                  go_roundw
                  case rel => exact ⟨k + 1, [], yr', A2, _, c2, _, by omega, rfl, rfl, by go_num, SX, Lib.hid (tailSL SY.out), BO2, Lib.hid (KR.out.drewN _)⟩
                  case measure => simp [intOf]; omega
              | cons z xr' =>
                have hz : z ≠ l[k] := fun e => hxh ⟨xr', by rw [e]⟩
                obtain ⟨ad2, e2, hab2, u0, u1, u2⟩ := (SX.out.rd.kept (Nat.le_refl _) KR.out (.inl (Nat.le_refl _))).head
                subst e2
                have hz3 : z.due ≠ l[k].due ∨ (z.due = l[k].due ∧ z.seq ≠ l[k].seq) ∨ (z.due = l[k].due ∧ z.seq = l[k].seq ∧ z.lefts ≠ l[k].lefts) := by
                  obtain ⟨z1, z2, z3⟩ := z
                  rcases Decidable.em (z1 = l[k].due) with e1 | e1
                  · rcases Decidable.em (z2 = l[k].seq) with e2 | e2
                    · refine .inr (.inr ⟨e1, e2, fun e3 => hz ?_⟩)
                      simp only at e1 e2 e3
                      rw [e1, e2, e3]
                    · exact .inr (.inl ⟨e1, e2⟩)
                  · exact .inl e1
                clear hxh hz
                simp only [List.length_cons] at mx1 ⊢
                rcases hz3 with h1 | ⟨h1, h2⟩ | ⟨h1, h2, h3⟩
                · have q1 : (z.due == l[k].due) = false := by simpa using h1
                  clear h1
                  by_cases hc : c3 = 1
                  · subst hc
                    obtain rfl : yr' = [] := List.eq_nil_of_length_eq_zero (by omega)
                    simp only [List.length_nil] at *
                    go_wp2_with fail
                    go_quiet (fail)
                    go_wp2_with fail
                    go_quiet (fail)
                    go_wp2_with fail
                    go_roundw
                    case rel => exact ⟨k + 1, (z :: xr'), [], some ad2, _, c2, _, by omega, rfl, rfl, by go_num, SX, Lib.hid (SL.none _ _ _ _ (by unfold maxLen; omega)), BO2, Lib.hid (KR.out.drewN _)⟩
                    case measure => simp [intOf]; omega
                  · have hc' : ¬ (c3 : Int) = 1 := by omega
                    go_wp2_with fail
                    go_quiet (fail)
                    go_wp2_with fail
                    go_quiet (fail)
                    go_wp2_with fail
                    go_roundw
                    case rel => exact ⟨k + 1, (z :: xr'), yr', some ad2, _, c2, _, by omega, rfl, rfl, by go_num, SX, Lib.hid (tailSL SY.out), BO2, Lib.hid (KR.out.drewN _)⟩
                    case measure => simp [intOf]; omega
                · have q1 : (z.due == l[k].due) = true := by simpa using h1
                  have q2 : (z.seq == l[k].seq) = false := by simpa using h2
                  clear h1 h2
                  by_cases hc : c3 = 1
                  · subst hc
                    obtain rfl : yr' = [] := List.eq_nil_of_length_eq_zero (by omega)
                    simp only [List.length_nil] at *
                    go_wp2_with fail
                    go_quiet (fail)
                    go_wp2_with fail
                    go_quiet (fail)
                    go_wp2_with fail
                    go_roundw
                    case rel => exact ⟨k + 1, (z :: xr'), [], some ad2, _, c2, _, by omega, rfl, rfl, by go_num, SX, Lib.hid (SL.none _ _ _ _ (by unfold maxLen; omega)), BO2, Lib.hid (KR.out.drewN _)⟩
                    case measure => simp [intOf]; omega
                  · have hc' : ¬ (c3 : Int) = 1 := by omega
                    go_wp2_with fail
                    go_quiet (fail)
                    go_wp2_with fail
                    go_quiet (fail)
                    go_wp2_with fail
                    go_roundw
                    case rel => exact ⟨k + 1, (z :: xr'), yr', some ad2, _, c2, _, by omega, rfl, rfl, by go_num, SX, Lib.hid (tailSL SY.out), BO2, Lib.hid (KR.out.drewN _)⟩
                    case measure => simp [intOf]; omega
                · have q1 : (z.due == l[k].due) = true := by simpa using h1
                  have q2 : (z.seq == l[k].seq) = true := by simpa using h2
                  have q3 : (z.lefts == l[k].lefts) = false := by simpa using h3
                  clear h1 h2 h3
                  by_cases hc : c3 = 1
                  · subst hc
                    obtain rfl : yr' = [] := List.eq_nil_of_length_eq_zero (by omega)
                    simp only [List.length_nil] at *
                    go_wp2_with fail
                    go_quiet (fail)
                    go_wp2_with fail
                    go_quiet (fail)
                    go_wp2_with fail
                    go_roundw
                    case rel => exact ⟨k + 1, (z :: xr'), [], some ad2, _, c2, _, by omega, rfl, rfl, by go_num, SX, Lib.hid (SL.none _ _ _ _ (by unfold maxLen; omega)), BO2, Lib.hid (KR.out.drewN _)⟩
                    case measure => simp [intOf]; omega
                  · have hc' : ¬ (c3 : Int) = 1 := by omega
                    go_wp2_with fail
                    go_quiet (fail)
                    go_wp2_with fail
                    go_quiet (fail)
                    go_wp2_with fail
                    go_roundw
                    case rel => exact ⟨k + 1, (z :: xr'), yr', some ad2, _, c2, _, by omega, rfl, rfl, by go_num, SX, Lib.hid (tailSL SY.out), BO2, Lib.hid (KR.out.drewN _)⟩
                    case measure => simp [intOf]; omega
          · have e0 : l.drop k = [] := List.drop_of_length_le (by omega)
            rw [e0] at BO
            obtain ⟨rfl, rfl⟩ := BO.out.end_
            have KW := Lib.hid (K9.out.trans KR.out)
            simp only [List.length_nil] at *
            go_wp2_with fail
            go_ret
            exact ⟨rfl, KW.out⟩
end Go.Proofs.Ytggggdloppnopaa
