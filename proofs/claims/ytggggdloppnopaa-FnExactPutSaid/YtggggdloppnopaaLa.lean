/- The exact laws of chapter 3 return true for every heap that can be read; condition: the program's function returns the plain function of the lists, in new memory. -/
import Derived.Test.YtggggdloppnopaaLw
namespace Go.Proofs.Ytggggdloppnopaa
open Go.RowKit Go.Sort

theorem eqTw_same (a : Tw) (w : World) :
    Calls Try.prog 38 #[.agg #[.int .i64 a.due, .int .i64 a.seq, .int .i64 a.lefts], .agg #[.int .i64 a.due, .int .i64 a.seq, .int .i64 a.lefts]] w fun e w' => e = .returned (.bool true) ∧ Kept 0 0 w w' :=
  (eqTw_any a a w).mono fun e w' ⟨he, hk⟩ => ⟨by rw [he, decide_eq_true rfl], hk⟩

set_option maxHeartbeats 3200000 in
theorem lawHeapOk_small (hI : DoesB 17 heapOkB) (xs : List Tw) (v : Value) (w : World) (ha : RdT w w.heap.size v xs) (hn : xs.length ≤ 1048576) :
    Calls Try.prog 6 #[v] w fun e w' => e = .returned (.bool true) ∧ Kept 0 0 w w' := by
  have Ha := Lib.hid ha
  have han : xs.length ≤ 1048576 := by omega
  have HI := Lib.hid hI
  clear hI ha
  have Ea : Hid (szF (1048576) xs.length = 1048576 - xs.length) := szF_pos (by omega)
  go_enter Try.func6, Try.ntmps6
  go_wp2_with fail
  with_reducible refine (szT xs _ _ _ _ Ha.out (by omega) (by omega)).mono ?_
  rintro e w' ⟨rfl, rfl⟩
  rw [Ea.out]
  go_wp2_with fail
  with_reducible refine (toT xs v _ (Ha.out.up (Kept.refl 0 0 w)) han).mono ?_
  rintro e w1 ⟨usa, rfl, ho, hk⟩
  have Osa := Lib.hid ho
  have K1 := Lib.hid ((Kept.refl 0 0 w).trans hk)
  have z1 := hk.size
  clear hk ho
  go_wp2_with fail
  with_reducible refine (specHeapOk.at_ xs _ _ (Osa.out.rdW (by omega))).mono ?_
  rintro e w2 ⟨rfl, hk⟩
  have Psa := Lib.hid (Osa.out.kept hk (.inl (Nat.le_refl _)))
  clear Osa
  have Osa := Psa
  clear Psa
  have K2 := Lib.hid (K1.out.trans hk)
  have z2 := hk.size
  clear hk K1
  clear Osa
  go_wp2_with fail
  with_reducible refine (toT xs v _ (Ha.out.up K2.out) han).mono ?_
  rintro e w3 ⟨uxa, rfl, ho, hk⟩
  have Oxa := Lib.hid ho
  have K3 := Lib.hid (K2.out.trans hk)
  have z3 := hk.size
  clear hk ho K2
  go_wp2_with fail
  with_reducible refine (HI.out.at_ xs _ _ (Oxa.out.rdW (by omega))).mono ?_
  rintro e w4 ⟨rfl, hk⟩
  have Pxa := Lib.hid (Oxa.out.kept hk (.inl (Nat.le_refl _)))
  clear Oxa
  have Oxa := Pxa
  clear Pxa
  have K4 := Lib.hid (K3.out.trans hk)
  have z4 := hk.size
  clear hk K3
  obtain ⟨bb, hbb⟩ : ∃ bb, bb = heapOkB xs := ⟨_, rfl⟩
  rw [← hbb]
  clear hbb
  have q1 : (bb != bb) = false := by simp
  have q2 : (bb == bb) = true := by simp
  go_wp2_with fail
  with_reducible refine (toT xs v _ (Ha.out.up K4.out) han).mono ?_
  rintro e w5 ⟨uya, rfl, ho, hk⟩
  have Pxa := Lib.hid (Oxa.out.kept hk (.inl (Nat.le_refl _)))
  clear Oxa
  have Oxa := Pxa
  clear Pxa
  have Oya := Lib.hid ho
  have K5 := Lib.hid (K4.out.trans hk)
  have z5 := hk.size
  clear hk ho K4
  go_wp2_with fail
  with_reducible refine (eqT (xs) _ _ _ (Oxa.out.rdW (by omega)) (Oya.out.rdW (by omega))).mono ?_
  rintro e w6 ⟨rfl, hk⟩
  have Pxa := Lib.hid (Oxa.out.kept hk (.inl (Nat.le_refl _)))
  have Pya := Lib.hid (Oya.out.kept hk (.inl (Nat.le_refl _)))
  clear Oxa
  have Oxa := Pxa
  clear Pxa
  clear Oya
  have Oya := Pya
  clear Pya
  have K6 := Lib.hid (K5.out.trans hk)
  have z6 := hk.size
  clear hk K5
  clear Oya
  go_wp2
  go_ret
  exact ⟨rfl, K6.out⟩

set_option maxHeartbeats 400000 in
theorem lawHeapOk (hI : DoesB 17 heapOkB) (xs : List Tw) (v : Value) (w : World) (ha : RdT w w.heap.size v xs) :
    Calls Try.prog 6 #[v] w fun e w' => e = .returned (.bool true) ∧ Kept 0 0 w w' := by
  rcases Nat.lt_or_ge 1048576 (xs.length) with hl | hl
  · have Ha := Lib.hid ha
    clear hI ha
    have Ea : Hid (szF 1048576 xs.length = -1) := szF_neg (by omega)
    go_enter Try.func6, Try.ntmps6
    go_wp2_with fail
    with_reducible refine (szT xs _ _ _ _ Ha.out (by omega) (by omega)).mono ?_
    rintro e w' ⟨rfl, rfl⟩
    rw [Ea.out]
    go_wp2
    go_ret
    exact ⟨rfl, Kept.refl _ _ _⟩
  · exact lawHeapOk_small hI xs v w ha hl

set_option maxHeartbeats 3200000 in
theorem lawRankOf_small (hI : DoesI 23 rankOfL) (xs : List Tw) (v : Value) (w : World) (ha : RdT w w.heap.size v xs) (hn : xs.length ≤ 1048576) :
    Calls Try.prog 7 #[v] w fun e w' => e = .returned (.bool true) ∧ Kept 0 0 w w' := by
  have Ha := Lib.hid ha
  have han : xs.length ≤ 1048576 := by omega
  have HI := Lib.hid hI
  clear hI ha
  have Ea : Hid (szF (1048576) xs.length = 1048576 - xs.length) := szF_pos (by omega)
  go_enter Try.func7, Try.ntmps7
  go_wp2_with fail
  with_reducible refine (szT xs _ _ _ _ Ha.out (by omega) (by omega)).mono ?_
  rintro e w' ⟨rfl, rfl⟩
  rw [Ea.out]
  go_wp2_with fail
  with_reducible refine (toT xs v _ (Ha.out.up (Kept.refl 0 0 w)) han).mono ?_
  rintro e w1 ⟨usa, rfl, ho, hk⟩
  have Osa := Lib.hid ho
  have K1 := Lib.hid ((Kept.refl 0 0 w).trans hk)
  have z1 := hk.size
  clear hk ho
  go_wp2_with fail
  with_reducible refine (specRankOf.at_ xs _ _ (Osa.out.rdW (by omega))).mono ?_
  rintro e w2 ⟨rfl, hk⟩
  have Psa := Lib.hid (Osa.out.kept hk (.inl (Nat.le_refl _)))
  clear Osa
  have Osa := Psa
  clear Psa
  have K2 := Lib.hid (K1.out.trans hk)
  have z2 := hk.size
  clear hk K1
  clear Osa
  go_wp2_with fail
  with_reducible refine (toT xs v _ (Ha.out.up K2.out) han).mono ?_
  rintro e w3 ⟨uxa, rfl, ho, hk⟩
  have Oxa := Lib.hid ho
  have K3 := Lib.hid (K2.out.trans hk)
  have z3 := hk.size
  clear hk ho K2
  go_wp2_with fail
  with_reducible refine (HI.out.at_ xs _ _ (Oxa.out.rdW (by omega))).mono ?_
  rintro e w4 ⟨rfl, hk⟩
  have Pxa := Lib.hid (Oxa.out.kept hk (.inl (Nat.le_refl _)))
  clear Oxa
  have Oxa := Pxa
  clear Pxa
  have K4 := Lib.hid (K3.out.trans hk)
  have z4 := hk.size
  clear hk K3
  obtain ⟨bb, hbb⟩ : ∃ bb, bb = rankOfL xs := ⟨_, rfl⟩
  rw [← hbb]
  clear hbb
  have q1 : (bb != bb) = false := by simp
  go_wp2_with fail
  with_reducible refine (toT xs v _ (Ha.out.up K4.out) han).mono ?_
  rintro e w5 ⟨uya, rfl, ho, hk⟩
  have Pxa := Lib.hid (Oxa.out.kept hk (.inl (Nat.le_refl _)))
  clear Oxa
  have Oxa := Pxa
  clear Pxa
  have Oya := Lib.hid ho
  have K5 := Lib.hid (K4.out.trans hk)
  have z5 := hk.size
  clear hk ho K4
  go_wp2_with fail
  with_reducible refine (eqT (xs) _ _ _ (Oxa.out.rdW (by omega)) (Oya.out.rdW (by omega))).mono ?_
  rintro e w6 ⟨rfl, hk⟩
  have Pxa := Lib.hid (Oxa.out.kept hk (.inl (Nat.le_refl _)))
  have Pya := Lib.hid (Oya.out.kept hk (.inl (Nat.le_refl _)))
  clear Oxa
  have Oxa := Pxa
  clear Pxa
  clear Oya
  have Oya := Pya
  clear Pya
  have K6 := Lib.hid (K5.out.trans hk)
  have z6 := hk.size
  clear hk K5
  clear Oya
  go_wp2
  go_ret
  exact ⟨rfl, K6.out⟩

set_option maxHeartbeats 400000 in
theorem lawRankOf (hI : DoesI 23 rankOfL) (xs : List Tw) (v : Value) (w : World) (ha : RdT w w.heap.size v xs) :
    Calls Try.prog 7 #[v] w fun e w' => e = .returned (.bool true) ∧ Kept 0 0 w w' := by
  rcases Nat.lt_or_ge 1048576 (xs.length) with hl | hl
  · have Ha := Lib.hid ha
    clear hI ha
    have Ea : Hid (szF 1048576 xs.length = -1) := szF_neg (by omega)
    go_enter Try.func7, Try.ntmps7
    go_wp2_with fail
    with_reducible refine (szT xs _ _ _ _ Ha.out (by omega) (by omega)).mono ?_
    rintro e w' ⟨rfl, rfl⟩
    rw [Ea.out]
    go_wp2
    go_ret
    exact ⟨rfl, Kept.refl _ _ _⟩
  · exact lawRankOf_small hI xs v w ha hl

set_option maxHeartbeats 3200000 in
theorem lawMerged_small (hI : DoesTT 21 mergedL mergedOk) (xs ys : List Tw) (v v' : Value) (w : World) (ha : RdT w w.heap.size v xs) (hb : RdT w w.heap.size v' ys) (hn : xs.length + ys.length ≤ 1048576) :
    Calls Try.prog 8 #[v, v'] w fun e w' => e = .returned (.bool true) ∧ Kept 0 0 w w' := by
  have Ha := Lib.hid ha
  have han : xs.length ≤ 1048576 := by omega
  have Hb := Lib.hid hb
  have hbn : ys.length ≤ 1048576 := by omega
  have HI := Lib.hid hI
  clear hI ha hb
  have Ea : Hid (szF (1048576) xs.length = 1048576 - xs.length) := szF_pos (by omega)
  have Eb : Hid (szF (1048576 - xs.length) ys.length = 1048576 - xs.length - ys.length) := szF_pos (by omega)
  go_enter Try.func8, Try.ntmps8
  go_wp2_with fail
  with_reducible refine (szT xs _ _ _ _ Ha.out (by omega) (by omega)).mono ?_
  rintro e w' ⟨rfl, rfl⟩
  rw [Ea.out]
  go_wp2_with fail
  with_reducible refine (szT ys _ _ _ _ Hb.out (by omega) (by omega)).mono ?_
  rintro e w' ⟨rfl, rfl⟩
  rw [Eb.out]
  go_wp2_with fail
  with_reducible refine (toT xs v _ (Ha.out.up (Kept.refl 0 0 w)) han).mono ?_
  rintro e w1 ⟨usa, rfl, ho, hk⟩
  have Osa := Lib.hid ho
  have K1 := Lib.hid ((Kept.refl 0 0 w).trans hk)
  have z1 := hk.size
  clear hk ho
  go_wp2_with fail
  with_reducible refine (toT ys v' _ (Hb.out.up K1.out) hbn).mono ?_
  rintro e w2 ⟨usb, rfl, ho, hk⟩
  have Psa := Lib.hid (Osa.out.kept hk (.inl (Nat.le_refl _)))
  clear Osa
  have Osa := Psa
  clear Psa
  have Osb := Lib.hid ho
  have K2 := Lib.hid (K1.out.trans hk)
  have z2 := hk.size
  clear hk ho K1
  go_wp2_with fail
  with_reducible refine (specMerged.at_ xs ys _ _ _ (Osa.out.rdW (by omega)) (Osb.out.rdW (by omega))).mono ?_
  rintro e w3 ⟨uW, rfl, ho, hk⟩
  have Psa := Lib.hid (Osa.out.kept hk (.inl (Nat.le_refl _)))
  have Psb := Lib.hid (Osb.out.kept hk (.inl (Nat.le_refl _)))
  clear Osa
  have Osa := Psa
  clear Psa
  clear Osb
  have Osb := Psb
  clear Psb
  have OW := Lib.hid ho
  have K3 := Lib.hid (K2.out.trans hk)
  have z3 := hk.size
  clear hk ho K2
  clear Osa
  clear Osb
  go_wp2_with fail
  with_reducible refine (toT xs v _ (Ha.out.up K3.out) han).mono ?_
  rintro e w4 ⟨uxa, rfl, ho, hk⟩
  have PW := Lib.hid (OW.out.kept hk (.inl (Nat.le_refl _)))
  clear OW
  have OW := PW
  clear PW
  have Oxa := Lib.hid ho
  have K4 := Lib.hid (K3.out.trans hk)
  have z4 := hk.size
  clear hk ho K3
  go_wp2_with fail
  with_reducible refine (toT ys v' _ (Hb.out.up K4.out) hbn).mono ?_
  rintro e w5 ⟨uxb, rfl, ho, hk⟩
  have PW := Lib.hid (OW.out.kept hk (.inl (Nat.le_refl _)))
  have Pxa := Lib.hid (Oxa.out.kept hk (.inl (Nat.le_refl _)))
  clear OW
  have OW := PW
  clear PW
  clear Oxa
  have Oxa := Pxa
  clear Pxa
  have Oxb := Lib.hid ho
  have K5 := Lib.hid (K4.out.trans hk)
  have z5 := hk.size
  clear hk ho K4
  go_wp2_with fail
  with_reducible refine (HI.out.at_ xs ys _ _ _ (Oxa.out.rdW (by omega)) (Oxb.out.rdW (by omega))).mono ?_
  rintro e w6 ⟨uG, rfl, ho, hk⟩
  have PW := Lib.hid (OW.out.kept hk (.inl (Nat.le_refl _)))
  have Pxa := Lib.hid (Oxa.out.kept hk (.inl (Nat.le_refl _)))
  have Pxb := Lib.hid (Oxb.out.kept hk (.inl (Nat.le_refl _)))
  clear OW
  have OW := PW
  clear PW
  clear Oxa
  have Oxa := Pxa
  clear Pxa
  clear Oxb
  have Oxb := Pxb
  clear Pxb
  have OG := Lib.hid ho
  have K6 := Lib.hid (K5.out.trans hk)
  have z6 := hk.size
  clear hk ho K5
  have gl : (mergedL xs ys).length ≤ 64 := mergedL_len _ _
  obtain ⟨zs, hzs⟩ : ∃ zs, zs = mergedL xs ys := ⟨_, rfl⟩
  rw [← hzs] at OW OG gl
  obtain ⟨bb, hbb⟩ : ∃ bb, bb = mergedOk xs ys := ⟨_, rfl⟩
  rw [← hbb]
  have q1 : (bb != bb) = false := by simp
  have q2 : (bb == bb) = true := by simp
  go_wp2_with fail
  with_reducible refine (eqT (zs) _ _ _ (OG.out.rdW (by omega)) (OW.out.rdW (by omega))).mono ?_
  rintro e w7 ⟨rfl, hk⟩
  have PW := Lib.hid (OW.out.kept hk (.inl (Nat.le_refl _)))
  have Pxa := Lib.hid (Oxa.out.kept hk (.inl (Nat.le_refl _)))
  have Pxb := Lib.hid (Oxb.out.kept hk (.inl (Nat.le_refl _)))
  have PG := Lib.hid (OG.out.kept hk (.inl (Nat.le_refl _)))
  clear OW
  have OW := PW
  clear PW
  clear Oxa
  have Oxa := Pxa
  clear Pxa
  clear Oxb
  have Oxb := Pxb
  clear Pxb
  clear OG
  have OG := PG
  clear PG
  have K7 := Lib.hid (K6.out.trans hk)
  have z7 := hk.size
  clear hk K6
  go_wp2_with fail
  with_reducible refine (toT xs v _ (Ha.out.up K7.out) han).mono ?_
  rintro e w8 ⟨uya, rfl, ho, hk⟩
  have PW := Lib.hid (OW.out.kept hk (.inl (Nat.le_refl _)))
  have Pxa := Lib.hid (Oxa.out.kept hk (.inl (Nat.le_refl _)))
  have Pxb := Lib.hid (Oxb.out.kept hk (.inl (Nat.le_refl _)))
  have PG := Lib.hid (OG.out.kept hk (.inl (Nat.le_refl _)))
  clear OW
  have OW := PW
  clear PW
  clear Oxa
  have Oxa := Pxa
  clear Pxa
  clear Oxb
  have Oxb := Pxb
  clear Pxb
  clear OG
  have OG := PG
  clear PG
  have Oya := Lib.hid ho
  have K8 := Lib.hid (K7.out.trans hk)
  have z8 := hk.size
  clear hk ho K7
  go_wp2_with fail
  with_reducible refine (eqT (xs) _ _ _ (Oxa.out.rdW (by omega)) (Oya.out.rdW (by omega))).mono ?_
  rintro e w9 ⟨rfl, hk⟩
  have PW := Lib.hid (OW.out.kept hk (.inl (Nat.le_refl _)))
  have Pxa := Lib.hid (Oxa.out.kept hk (.inl (Nat.le_refl _)))
  have Pxb := Lib.hid (Oxb.out.kept hk (.inl (Nat.le_refl _)))
  have PG := Lib.hid (OG.out.kept hk (.inl (Nat.le_refl _)))
  have Pya := Lib.hid (Oya.out.kept hk (.inl (Nat.le_refl _)))
  clear OW
  have OW := PW
  clear PW
  clear Oxa
  have Oxa := Pxa
  clear Pxa
  clear Oxb
  have Oxb := Pxb
  clear Pxb
  clear OG
  have OG := PG
  clear PG
  clear Oya
  have Oya := Pya
  clear Pya
  have K9 := Lib.hid (K8.out.trans hk)
  have z9 := hk.size
  clear hk K8
  clear Oya
  go_wp2_with fail
  with_reducible refine (toT ys v' _ (Hb.out.up K9.out) hbn).mono ?_
  rintro e w10 ⟨uyb, rfl, ho, hk⟩
  have PW := Lib.hid (OW.out.kept hk (.inl (Nat.le_refl _)))
  have Pxa := Lib.hid (Oxa.out.kept hk (.inl (Nat.le_refl _)))
  have Pxb := Lib.hid (Oxb.out.kept hk (.inl (Nat.le_refl _)))
  have PG := Lib.hid (OG.out.kept hk (.inl (Nat.le_refl _)))
  clear OW
  have OW := PW
  clear PW
  clear Oxa
  have Oxa := Pxa
  clear Pxa
  clear Oxb
  have Oxb := Pxb
  clear Pxb
  clear OG
  have OG := PG
  clear PG
  have Oyb := Lib.hid ho
  have K10 := Lib.hid (K9.out.trans hk)
  have z10 := hk.size
  clear hk ho K9
  go_wp2_with fail
  with_reducible refine (eqT (ys) _ _ _ (Oxb.out.rdW (by omega)) (Oyb.out.rdW (by omega))).mono ?_
  rintro e w11 ⟨rfl, hk⟩
  have PW := Lib.hid (OW.out.kept hk (.inl (Nat.le_refl _)))
  have Pxa := Lib.hid (Oxa.out.kept hk (.inl (Nat.le_refl _)))
  have Pxb := Lib.hid (Oxb.out.kept hk (.inl (Nat.le_refl _)))
  have PG := Lib.hid (OG.out.kept hk (.inl (Nat.le_refl _)))
  have Pyb := Lib.hid (Oyb.out.kept hk (.inl (Nat.le_refl _)))
  clear OW
  have OW := PW
  clear PW
  clear Oxa
  have Oxa := Pxa
  clear Pxa
  clear Oxb
  have Oxb := Pxb
  clear Pxb
  clear OG
  have OG := PG
  clear PG
  clear Oyb
  have Oyb := Pyb
  clear Pyb
  have K11 := Lib.hid (K10.out.trans hk)
  have z11 := hk.size
  clear hk K10
  clear Oyb
  go_wp2_with fail
  with_reducible refine (markT (1) (xs) _ w3.heap.size w4.heap.size _ Oxa.out (by omega) (by omega) (by omega)).mono ?_
  rintro e w12 ⟨rfl, ho, hk⟩
  have PW := Lib.hid (OW.out.kept hk (by omega))
  have Pxb := Lib.hid (Oxb.out.kept hk (by omega))
  have PG := Lib.hid (OG.out.kept hk (by omega))
  clear OW
  have OW := PW
  clear PW
  clear Oxb
  have Oxb := Pxb
  clear Pxb
  clear OG
  have OG := PG
  clear PG
  clear Oxa
  have Oxa := Lib.hid ho
  have K12 := Lib.hid (K11.out.trans2 hk (.inr (by omega)))
  have z12 := hk.size
  clear hk ho K11
  go_wp2_with fail
  with_reducible refine (markT (1 + 3 * (xs.length : Int)) (ys) _ w4.heap.size w5.heap.size _ Oxb.out (by omega) (by omega) (by omega)).mono ?_
  rintro e w13 ⟨rfl, ho, hk⟩
  have PW := Lib.hid (OW.out.kept hk (by omega))
  have Pxa := Lib.hid (Oxa.out.kept hk (by omega))
  have PG := Lib.hid (OG.out.kept hk (by omega))
  clear OW
  have OW := PW
  clear PW
  clear Oxa
  have Oxa := Pxa
  clear Pxa
  clear OG
  have OG := PG
  clear PG
  clear Oxb
  have Oxb := Lib.hid ho
  have K13 := Lib.hid (K12.out.trans2 hk (.inr (by omega)))
  have z13 := hk.size
  clear hk ho K12
  have kp : 0 ≤ 1 + 3 * (xs.length : Int) + 3 * (ys.length : Int) := by omega
  go_wp2_with fail
  with_reducible refine (eqT (zs) _ _ _ (OG.out.rdW (by omega)) (OW.out.rdW (by omega))).mono ?_
  rintro e w14 ⟨rfl, hk⟩
  have PW := Lib.hid (OW.out.kept hk (.inl (Nat.le_refl _)))
  have Pxa := Lib.hid (Oxa.out.kept hk (.inl (Nat.le_refl _)))
  have Pxb := Lib.hid (Oxb.out.kept hk (.inl (Nat.le_refl _)))
  have PG := Lib.hid (OG.out.kept hk (.inl (Nat.le_refl _)))
  clear OW
  have OW := PW
  clear PW
  clear Oxa
  have Oxa := Pxa
  clear Pxa
  clear Oxb
  have Oxb := Pxb
  clear Pxb
  clear OG
  have OG := PG
  clear PG
  have K14 := Lib.hid (K13.out.trans hk)
  have z14 := hk.size
  clear hk K13
  go_wp2_with fail
  with_reducible refine (markT (1) (zs) _ w5.heap.size w6.heap.size _ OG.out (by omega) (by omega) (by omega)).mono ?_
  rintro e w15 ⟨rfl, ho, hk⟩
  have PW := Lib.hid (OW.out.kept hk (by omega))
  have Pxa := Lib.hid (Oxa.out.kept hk (by omega))
  have Pxb := Lib.hid (Oxb.out.kept hk (by omega))
  clear OW
  have OW := PW
  clear PW
  clear Oxa
  have Oxa := Pxa
  clear Pxa
  clear Oxb
  have Oxb := Pxb
  clear Pxb
  clear OG
  have OG := Lib.hid ho
  have K15 := Lib.hid (K14.out.trans2 hk (.inr (by omega)))
  have z15 := hk.size
  clear hk ho K14
  have kq : 0 ≤ 1 + 3 * (zs.length : Int) := by omega
  go_wp2_with fail
  with_reducible refine (heldT (1) (zs.length) _ _ _ (OG.out.rdW (by omega)) (by omega) (by omega) (by omega)).mono ?_
  rintro e w' ⟨rfl, rfl⟩
  clear Oxa
  clear Oxb
  go_wp2_with fail
  with_reducible refine (toT xs v _ (Ha.out.up K15.out) han).mono ?_
  rintro e w16 ⟨uta, rfl, ho, hk⟩
  have PW := Lib.hid (OW.out.kept hk (.inl (Nat.le_refl _)))
  have PG := Lib.hid (OG.out.kept hk (.inl (Nat.le_refl _)))
  clear OW
  have OW := PW
  clear PW
  clear OG
  have OG := PG
  clear PG
  have Ota := Lib.hid ho
  have K16 := Lib.hid (K15.out.trans hk)
  have z16 := hk.size
  clear hk ho K15
  go_wp2_with fail
  with_reducible refine (toT ys v' _ (Hb.out.up K16.out) hbn).mono ?_
  rintro e w17 ⟨utb, rfl, ho, hk⟩
  have PW := Lib.hid (OW.out.kept hk (.inl (Nat.le_refl _)))
  have PG := Lib.hid (OG.out.kept hk (.inl (Nat.le_refl _)))
  have Pta := Lib.hid (Ota.out.kept hk (.inl (Nat.le_refl _)))
  clear OW
  have OW := PW
  clear PW
  clear OG
  have OG := PG
  clear PG
  clear Ota
  have Ota := Pta
  clear Pta
  have Otb := Lib.hid ho
  have K17 := Lib.hid (K16.out.trans hk)
  have z17 := hk.size
  clear hk ho K16
  go_wp2_with fail
  with_reducible refine (HI.out.at_ xs ys _ _ _ (Ota.out.rdW (by omega)) (Otb.out.rdW (by omega))).mono ?_
  rintro e w18 ⟨uQ, rfl, ho, hk⟩
  have PW := Lib.hid (OW.out.kept hk (.inl (Nat.le_refl _)))
  have PG := Lib.hid (OG.out.kept hk (.inl (Nat.le_refl _)))
  have Pta := Lib.hid (Ota.out.kept hk (.inl (Nat.le_refl _)))
  have Ptb := Lib.hid (Otb.out.kept hk (.inl (Nat.le_refl _)))
  clear OW
  have OW := PW
  clear PW
  clear OG
  have OG := PG
  clear PG
  clear Ota
  have Ota := Pta
  clear Pta
  clear Otb
  have Otb := Ptb
  clear Ptb
  have OQ := Lib.hid ho
  have K18 := Lib.hid (K17.out.trans hk)
  have z18 := hk.size
  clear hk ho K17
  rw [← hzs] at OQ
  rw [← hbb]
  go_wp2_with fail
  with_reducible refine (eqT (zs) _ _ _ (OQ.out.rdW (by omega)) (OW.out.rdW (by omega))).mono ?_
  rintro e w19 ⟨rfl, hk⟩
  have PW := Lib.hid (OW.out.kept hk (.inl (Nat.le_refl _)))
  have PG := Lib.hid (OG.out.kept hk (.inl (Nat.le_refl _)))
  have Pta := Lib.hid (Ota.out.kept hk (.inl (Nat.le_refl _)))
  have Ptb := Lib.hid (Otb.out.kept hk (.inl (Nat.le_refl _)))
  have PQ := Lib.hid (OQ.out.kept hk (.inl (Nat.le_refl _)))
  clear OW
  have OW := PW
  clear PW
  clear OG
  have OG := PG
  clear PG
  clear Ota
  have Ota := Pta
  clear Pta
  clear Otb
  have Otb := Ptb
  clear Ptb
  clear OQ
  have OQ := PQ
  clear PQ
  have K19 := Lib.hid (K18.out.trans hk)
  have z19 := hk.size
  clear hk K18
  go_wp2_with fail
  with_reducible refine (heldT (1) (zs.length) _ _ _ (OG.out.rdW (by omega)) (by omega) (by omega) (by omega)).mono ?_
  rintro e w' ⟨rfl, rfl⟩
  go_wp2
  go_ret
  exact ⟨rfl, K19.out⟩

set_option maxHeartbeats 400000 in
theorem lawMerged (hI : DoesTT 21 mergedL mergedOk) (xs ys : List Tw) (v v' : Value) (w : World) (ha : RdT w w.heap.size v xs) (hb : RdT w w.heap.size v' ys) :
    Calls Try.prog 8 #[v, v'] w fun e w' => e = .returned (.bool true) ∧ Kept 0 0 w w' := by
  rcases Nat.lt_or_ge 1048576 (xs.length + ys.length) with hl | hl
  · have Ha := Lib.hid ha
    have Hb := Lib.hid hb
    clear hI ha hb
    by_cases h1 : (1048576 : Int) - xs.length < 0
    · have Ea := Lib.hid (szF_neg h1)
      clear h1
      go_enter Try.func8, Try.ntmps8
      go_wp2_with fail
      with_reducible refine (szT xs _ _ _ _ Ha.out (by omega) (by omega)).mono ?_
      rintro e w' ⟨rfl, rfl⟩
      rw [Ea.out]
      go_wp2
      go_ret
      exact ⟨rfl, Kept.refl _ _ _⟩
    · have Ea := Lib.hid (szF_pos h1)
      have Eb := Lib.hid (szF_neg (left := 1048576 - xs.length) (n := ys.length) (by omega))
      have h1' : (xs.length : Int) ≤ 1048576 := by omega
      clear h1
      go_enter Try.func8, Try.ntmps8
      go_wp2_with fail
      with_reducible refine (szT xs _ _ _ _ Ha.out (by omega) (by omega)).mono ?_
      rintro e w' ⟨rfl, rfl⟩
      rw [Ea.out]
      go_wp2_with fail
      with_reducible refine (szT ys _ _ _ _ Hb.out (by omega) (by omega)).mono ?_
      rintro e w' ⟨rfl, rfl⟩
      rw [Eb.out]
      go_wp2
      go_ret
      exact ⟨rfl, Kept.refl _ _ _⟩
  · exact lawMerged_small hI xs ys v v' w ha hb hl

set_option maxHeartbeats 3200000 in
theorem lawPut_small (hI : DoesTII 36 putL putOk) (xs : List Tw) (p q : Int) (v : Value) (w : World) (ha : RdT w w.heap.size v xs) (hn : xs.length ≤ 1048576) :
    Calls Try.prog 9 #[v, .int .i64 p, .int .i64 q] w fun e w' => e = .returned (.bool true) ∧ Kept 0 0 w w' := by
  have Ha := Lib.hid ha
  have han : xs.length ≤ 1048576 := by omega
  have HI := Lib.hid hI
  clear hI ha
  have Ea : Hid (szF (1048576) xs.length = 1048576 - xs.length) := szF_pos (by omega)
  go_enter Try.func9, Try.ntmps9
  go_wp2_with fail
  with_reducible refine (szT xs _ _ _ _ Ha.out (by omega) (by omega)).mono ?_
  rintro e w' ⟨rfl, rfl⟩
  rw [Ea.out]
  go_wp2_with fail
  with_reducible refine (toT xs v _ (Ha.out.up (Kept.refl 0 0 w)) han).mono ?_
  rintro e w1 ⟨usa, rfl, ho, hk⟩
  have Osa := Lib.hid ho
  have K1 := Lib.hid ((Kept.refl 0 0 w).trans hk)
  have z1 := hk.size
  clear hk ho
  go_wp2_with fail
  with_reducible refine (specPut.at_ xs p q _ _ (Osa.out.rdW (by omega))).mono ?_
  rintro e w2 ⟨uW, rfl, ho, hk⟩
  have Psa := Lib.hid (Osa.out.kept hk (.inl (Nat.le_refl _)))
  clear Osa
  have Osa := Psa
  clear Psa
  have OW := Lib.hid ho
  have K2 := Lib.hid (K1.out.trans hk)
  have z2 := hk.size
  clear hk ho K1
  clear Osa
  go_wp2_with fail
  with_reducible refine (toT xs v _ (Ha.out.up K2.out) han).mono ?_
  rintro e w3 ⟨uxa, rfl, ho, hk⟩
  have PW := Lib.hid (OW.out.kept hk (.inl (Nat.le_refl _)))
  clear OW
  have OW := PW
  clear PW
  have Oxa := Lib.hid ho
  have K3 := Lib.hid (K2.out.trans hk)
  have z3 := hk.size
  clear hk ho K2
  go_wp2_with fail
  with_reducible refine (HI.out.at_ xs p q _ _ (Oxa.out.rdW (by omega))).mono ?_
  rintro e w4 ⟨uG, rfl, ho, hk⟩
  have PW := Lib.hid (OW.out.kept hk (.inl (Nat.le_refl _)))
  have Pxa := Lib.hid (Oxa.out.kept hk (.inl (Nat.le_refl _)))
  clear OW
  have OW := PW
  clear PW
  clear Oxa
  have Oxa := Pxa
  clear Pxa
  have OG := Lib.hid ho
  have K4 := Lib.hid (K3.out.trans hk)
  have z4 := hk.size
  clear hk ho K3
  have gl : (putL xs p q).length ≤ 64 := mergedL_len _ _
  obtain ⟨zs, hzs⟩ : ∃ zs, zs = putL xs p q := ⟨_, rfl⟩
  rw [← hzs] at OW OG gl
  obtain ⟨bb, hbb⟩ : ∃ bb, bb = putOk xs p q := ⟨_, rfl⟩
  rw [← hbb]
  have q1 : (bb != bb) = false := by simp
  have q2 : (bb == bb) = true := by simp
  go_wp2_with fail
  with_reducible refine (eqT (zs) _ _ _ (OG.out.rdW (by omega)) (OW.out.rdW (by omega))).mono ?_
  rintro e w5 ⟨rfl, hk⟩
  have PW := Lib.hid (OW.out.kept hk (.inl (Nat.le_refl _)))
  have Pxa := Lib.hid (Oxa.out.kept hk (.inl (Nat.le_refl _)))
  have PG := Lib.hid (OG.out.kept hk (.inl (Nat.le_refl _)))
  clear OW
  have OW := PW
  clear PW
  clear Oxa
  have Oxa := Pxa
  clear Pxa
  clear OG
  have OG := PG
  clear PG
  have K5 := Lib.hid (K4.out.trans hk)
  have z5 := hk.size
  clear hk K4
  go_wp2_with fail
  with_reducible refine (toT xs v _ (Ha.out.up K5.out) han).mono ?_
  rintro e w6 ⟨uya, rfl, ho, hk⟩
  have PW := Lib.hid (OW.out.kept hk (.inl (Nat.le_refl _)))
  have Pxa := Lib.hid (Oxa.out.kept hk (.inl (Nat.le_refl _)))
  have PG := Lib.hid (OG.out.kept hk (.inl (Nat.le_refl _)))
  clear OW
  have OW := PW
  clear PW
  clear Oxa
  have Oxa := Pxa
  clear Pxa
  clear OG
  have OG := PG
  clear PG
  have Oya := Lib.hid ho
  have K6 := Lib.hid (K5.out.trans hk)
  have z6 := hk.size
  clear hk ho K5
  go_wp2_with fail
  with_reducible refine (eqT (xs) _ _ _ (Oxa.out.rdW (by omega)) (Oya.out.rdW (by omega))).mono ?_
  rintro e w7 ⟨rfl, hk⟩
  have PW := Lib.hid (OW.out.kept hk (.inl (Nat.le_refl _)))
  have Pxa := Lib.hid (Oxa.out.kept hk (.inl (Nat.le_refl _)))
  have PG := Lib.hid (OG.out.kept hk (.inl (Nat.le_refl _)))
  have Pya := Lib.hid (Oya.out.kept hk (.inl (Nat.le_refl _)))
  clear OW
  have OW := PW
  clear PW
  clear Oxa
  have Oxa := Pxa
  clear Pxa
  clear OG
  have OG := PG
  clear PG
  clear Oya
  have Oya := Pya
  clear Pya
  have K7 := Lib.hid (K6.out.trans hk)
  have z7 := hk.size
  clear hk K6
  clear Oya
  go_wp2_with fail
  with_reducible refine (markT (1) (xs) _ w2.heap.size w3.heap.size _ Oxa.out (by omega) (by omega) (by omega)).mono ?_
  rintro e w8 ⟨rfl, ho, hk⟩
  have PW := Lib.hid (OW.out.kept hk (by omega))
  have PG := Lib.hid (OG.out.kept hk (by omega))
  clear OW
  have OW := PW
  clear PW
  clear OG
  have OG := PG
  clear PG
  clear Oxa
  have Oxa := Lib.hid ho
  have K8 := Lib.hid (K7.out.trans2 hk (.inr (by omega)))
  have z8 := hk.size
  clear hk ho K7
  have kp : 0 ≤ 1 + 3 * (xs.length : Int) := by omega
  go_wp2_with fail
  with_reducible refine (eqT (zs) _ _ _ (OG.out.rdW (by omega)) (OW.out.rdW (by omega))).mono ?_
  rintro e w9 ⟨rfl, hk⟩
  have PW := Lib.hid (OW.out.kept hk (.inl (Nat.le_refl _)))
  have Pxa := Lib.hid (Oxa.out.kept hk (.inl (Nat.le_refl _)))
  have PG := Lib.hid (OG.out.kept hk (.inl (Nat.le_refl _)))
  clear OW
  have OW := PW
  clear PW
  clear Oxa
  have Oxa := Pxa
  clear Pxa
  clear OG
  have OG := PG
  clear PG
  have K9 := Lib.hid (K8.out.trans hk)
  have z9 := hk.size
  clear hk K8
  go_wp2_with fail
  with_reducible refine (markT (1) (zs) _ w3.heap.size w4.heap.size _ OG.out (by omega) (by omega) (by omega)).mono ?_
  rintro e w10 ⟨rfl, ho, hk⟩
  have PW := Lib.hid (OW.out.kept hk (by omega))
  have Pxa := Lib.hid (Oxa.out.kept hk (by omega))
  clear OW
  have OW := PW
  clear PW
  clear Oxa
  have Oxa := Pxa
  clear Pxa
  clear OG
  have OG := Lib.hid ho
  have K10 := Lib.hid (K9.out.trans2 hk (.inr (by omega)))
  have z10 := hk.size
  clear hk ho K9
  have kq : 0 ≤ 1 + 3 * (zs.length : Int) := by omega
  go_wp2_with fail
  with_reducible refine (heldT (1) (zs.length) _ _ _ (OG.out.rdW (by omega)) (by omega) (by omega) (by omega)).mono ?_
  rintro e w' ⟨rfl, rfl⟩
  clear Oxa
  go_wp2_with fail
  with_reducible refine (toT xs v _ (Ha.out.up K10.out) han).mono ?_
  rintro e w11 ⟨uta, rfl, ho, hk⟩
  have PW := Lib.hid (OW.out.kept hk (.inl (Nat.le_refl _)))
  have PG := Lib.hid (OG.out.kept hk (.inl (Nat.le_refl _)))
  clear OW
  have OW := PW
  clear PW
  clear OG
  have OG := PG
  clear PG
  have Ota := Lib.hid ho
  have K11 := Lib.hid (K10.out.trans hk)
  have z11 := hk.size
  clear hk ho K10
  go_wp2_with fail
  with_reducible refine (HI.out.at_ xs p q _ _ (Ota.out.rdW (by omega))).mono ?_
  rintro e w12 ⟨uQ, rfl, ho, hk⟩
  have PW := Lib.hid (OW.out.kept hk (.inl (Nat.le_refl _)))
  have PG := Lib.hid (OG.out.kept hk (.inl (Nat.le_refl _)))
  have Pta := Lib.hid (Ota.out.kept hk (.inl (Nat.le_refl _)))
  clear OW
  have OW := PW
  clear PW
  clear OG
  have OG := PG
  clear PG
  clear Ota
  have Ota := Pta
  clear Pta
  have OQ := Lib.hid ho
  have K12 := Lib.hid (K11.out.trans hk)
  have z12 := hk.size
  clear hk ho K11
  rw [← hzs] at OQ
  rw [← hbb]
  go_wp2_with fail
  with_reducible refine (eqT (zs) _ _ _ (OQ.out.rdW (by omega)) (OW.out.rdW (by omega))).mono ?_
  rintro e w13 ⟨rfl, hk⟩
  have PW := Lib.hid (OW.out.kept hk (.inl (Nat.le_refl _)))
  have PG := Lib.hid (OG.out.kept hk (.inl (Nat.le_refl _)))
  have Pta := Lib.hid (Ota.out.kept hk (.inl (Nat.le_refl _)))
  have PQ := Lib.hid (OQ.out.kept hk (.inl (Nat.le_refl _)))
  clear OW
  have OW := PW
  clear PW
  clear OG
  have OG := PG
  clear PG
  clear Ota
  have Ota := Pta
  clear Pta
  clear OQ
  have OQ := PQ
  clear PQ
  have K13 := Lib.hid (K12.out.trans hk)
  have z13 := hk.size
  clear hk K12
  go_wp2_with fail
  with_reducible refine (heldT (1) (zs.length) _ _ _ (OG.out.rdW (by omega)) (by omega) (by omega) (by omega)).mono ?_
  rintro e w' ⟨rfl, rfl⟩
  go_wp2
  go_ret
  exact ⟨rfl, K13.out⟩

set_option maxHeartbeats 400000 in
theorem lawPut (hI : DoesTII 36 putL putOk) (xs : List Tw) (p q : Int) (v : Value) (w : World) (ha : RdT w w.heap.size v xs) :
    Calls Try.prog 9 #[v, .int .i64 p, .int .i64 q] w fun e w' => e = .returned (.bool true) ∧ Kept 0 0 w w' := by
  rcases Nat.lt_or_ge 1048576 (xs.length) with hl | hl
  · have Ha := Lib.hid ha
    clear hI ha
    have Ea : Hid (szF 1048576 xs.length = -1) := szF_neg (by omega)
    go_enter Try.func9, Try.ntmps9
    go_wp2_with fail
    with_reducible refine (szT xs _ _ _ _ Ha.out (by omega) (by omega)).mono ?_
    rintro e w' ⟨rfl, rfl⟩
    rw [Ea.out]
    go_wp2
    go_ret
    exact ⟨rfl, Kept.refl _ _ _⟩
  · exact lawPut_small hI xs p q v w ha hl

set_option maxHeartbeats 3200000 in
theorem lawShifted_small (hI : DoesS 19 shiftedX shiftedL shiftOk) (xs : List Tw) (v : Value) (w : World) (ha : RdT w w.heap.size v xs) (hn : xs.length ≤ 1048576) :
    Calls Try.prog 10 #[v] w fun e w' => e = .returned (.bool true) ∧ Kept 0 0 w w' := by
  have Ha := Lib.hid ha
  have han : xs.length ≤ 1048576 := by omega
  have HI := Lib.hid hI
  clear hI ha
  have Ea : Hid (szF (1048576) xs.length = 1048576 - xs.length) := szF_pos (by omega)
  go_enter Try.func10, Try.ntmps10
  go_wp2_with fail
  with_reducible refine (szT xs _ _ _ _ Ha.out (by omega) (by omega)).mono ?_
  rintro e w' ⟨rfl, rfl⟩
  rw [Ea.out]
  go_wp2_with fail
  with_reducible refine (toT xs v _ (Ha.out.up (Kept.refl 0 0 w)) han).mono ?_
  rintro e w1 ⟨usa, rfl, ho, hk⟩
  have Osa := Lib.hid ho
  have K1 := Lib.hid ((Kept.refl 0 0 w).trans hk)
  have z1 := hk.size
  clear hk ho
  go_wp2_with fail
  with_reducible refine (specShifted.at_ xs _ _ (Osa.out.rdW (by omega))).mono ?_
  rintro e w2 ⟨uW, rfl, ho, hk⟩
  have Psa := Lib.hid (Osa.out.kept hk (.inl (Nat.le_refl _)))
  clear Osa
  have Osa := Psa
  clear Psa
  have OW := Lib.hid ho
  have K2 := Lib.hid (K1.out.trans hk)
  have z2 := hk.size
  clear hk ho K1
  go_wp2_with fail
  obtain ⟨w3, hw⟩ : ∃ w3, w3 = w2.alloc (.cells #[.int .i64 (shiftedX xs).due, .int .i64 (shiftedX xs).seq, .int .i64 (shiftedX xs).lefts] 35) := ⟨_, rfl⟩
  have hk : Kept 0 0 w2 w3 := by rw [hw]; exact Kept.alloc0 _ _
  have Nw : Hid (Blk w3 w2.heap.size 35 #[.int .i64 (shiftedX xs).due, .int .i64 (shiftedX xs).seq, .int .i64 (shiftedX xs).lefts]) := by show Blk _ _ _ _; rw [hw]; exact Blk.new _ _ _
  rw [← hw]
  have Psa := Lib.hid (Osa.out.kept hk (.inl (Nat.le_refl _)))
  have PW := Lib.hid (OW.out.kept hk (.inl (Nat.le_refl _)))
  clear Osa
  have Osa := Psa
  clear Psa
  clear OW
  have OW := PW
  clear PW
  have Bw := Nw
  clear Nw
  have y3 := Bw.out.lt
  have K3 := Lib.hid (K2.out.trans hk)
  have z3 := hk.size
  clear hk hw K2
  clear Osa
  go_wp2_with fail
  with_reducible refine (toT xs v _ (Ha.out.up K3.out) han).mono ?_
  rintro e w4 ⟨uxa, rfl, ho, hk⟩
  have PW := Lib.hid (OW.out.kept hk (.inl (Nat.le_refl _)))
  have Rw := Lib.hid (Bw.out.kept hk (.inl (Nat.le_refl _)))
  clear OW
  have OW := PW
  clear PW
  clear Bw
  have Bw := Rw
  clear Rw
  have Oxa := Lib.hid ho
  have K4 := Lib.hid (K3.out.trans hk)
  have z4 := hk.size
  clear hk ho K3
  go_wp2_with fail
  with_reducible refine (HI.out.at_ xs _ _ (Oxa.out.rdW (by omega))).mono ?_
  rintro e w5 ⟨uG, rfl, ho, hk⟩
  have PW := Lib.hid (OW.out.kept hk (.inl (Nat.le_refl _)))
  have Pxa := Lib.hid (Oxa.out.kept hk (.inl (Nat.le_refl _)))
  have Rw := Lib.hid (Bw.out.kept hk (.inl (Nat.le_refl _)))
  clear OW
  have OW := PW
  clear PW
  clear Oxa
  have Oxa := Pxa
  clear Pxa
  clear Bw
  have Bw := Rw
  clear Rw
  have OG := Lib.hid ho
  have K5 := Lib.hid (K4.out.trans hk)
  have z5 := hk.size
  clear hk ho K4
  have cw0 := Bw.out.cell 0
  have cw1 := Bw.out.cell 1
  have cw2 := Bw.out.cell 2
  have lw : w2.heap.size < w5.heap.size := by omega
  go_wp2_with fail
  clear cw0 cw1 cw2
  clear lw
  obtain ⟨w6, hw⟩ : ∃ w6, w6 = w5.alloc (.cells #[.int .i64 (shiftedX xs).due, .int .i64 (shiftedX xs).seq, .int .i64 (shiftedX xs).lefts] 35) := ⟨_, rfl⟩
  have hk : Kept 0 0 w5 w6 := by rw [hw]; exact Kept.alloc0 _ _
  have Ng : Hid (Blk w6 w5.heap.size 35 #[.int .i64 (shiftedX xs).due, .int .i64 (shiftedX xs).seq, .int .i64 (shiftedX xs).lefts]) := by show Blk _ _ _ _; rw [hw]; exact Blk.new _ _ _
  rw [← hw]
  have PW := Lib.hid (OW.out.kept hk (.inl (Nat.le_refl _)))
  have Pxa := Lib.hid (Oxa.out.kept hk (.inl (Nat.le_refl _)))
  have PG := Lib.hid (OG.out.kept hk (.inl (Nat.le_refl _)))
  have Rw := Lib.hid (Bw.out.kept hk (.inl (Nat.le_refl _)))
  clear OW
  have OW := PW
  clear PW
  clear Oxa
  have Oxa := Pxa
  clear Pxa
  clear OG
  have OG := PG
  clear PG
  clear Bw
  have Bw := Rw
  clear Rw
  have Bg := Ng
  clear Ng
  have y6 := Bg.out.lt
  have K6 := Lib.hid (K5.out.trans hk)
  have z6 := hk.size
  clear hk hw K5
  have gl : (shiftedL xs).length ≤ 64 := shiftedL_len _
  obtain ⟨zs, hzs⟩ : ∃ zs, zs = shiftedL xs := ⟨_, rfl⟩
  rw [← hzs] at OW OG gl
  obtain ⟨bb, hbb⟩ : ∃ bb, bb = shiftOk xs := ⟨_, rfl⟩
  rw [← hbb]
  have q1 : (bb != bb) = false := by simp
  have q2 : (bb == bb) = true := by simp
  go_wp2_with fail
  with_reducible refine (eqTw_same (shiftedX xs) _).mono ?_
  rintro e w7 ⟨rfl, hk⟩
  have PW := Lib.hid (OW.out.kept hk (.inl (Nat.le_refl _)))
  have Pxa := Lib.hid (Oxa.out.kept hk (.inl (Nat.le_refl _)))
  have PG := Lib.hid (OG.out.kept hk (.inl (Nat.le_refl _)))
  have Rw := Lib.hid (Bw.out.kept hk (.inl (Nat.le_refl _)))
  have Rg := Lib.hid (Bg.out.kept hk (.inl (Nat.le_refl _)))
  clear OW
  have OW := PW
  clear PW
  clear Oxa
  have Oxa := Pxa
  clear Pxa
  clear OG
  have OG := PG
  clear PG
  clear Bw
  have Bw := Rw
  clear Rw
  clear Bg
  have Bg := Rg
  clear Rg
  have K7 := Lib.hid (K6.out.trans hk)
  have z7 := hk.size
  clear hk K6
  go_wp2_with fail
  with_reducible refine (eqT (zs) _ _ _ (OG.out.rdW (by omega)) (OW.out.rdW (by omega))).mono ?_
  rintro e w8 ⟨rfl, hk⟩
  have PW := Lib.hid (OW.out.kept hk (.inl (Nat.le_refl _)))
  have Pxa := Lib.hid (Oxa.out.kept hk (.inl (Nat.le_refl _)))
  have PG := Lib.hid (OG.out.kept hk (.inl (Nat.le_refl _)))
  have Rw := Lib.hid (Bw.out.kept hk (.inl (Nat.le_refl _)))
  have Rg := Lib.hid (Bg.out.kept hk (.inl (Nat.le_refl _)))
  clear OW
  have OW := PW
  clear PW
  clear Oxa
  have Oxa := Pxa
  clear Pxa
  clear OG
  have OG := PG
  clear PG
  clear Bw
  have Bw := Rw
  clear Rw
  clear Bg
  have Bg := Rg
  clear Rg
  have K8 := Lib.hid (K7.out.trans hk)
  have z8 := hk.size
  clear hk K7
  go_wp2_with fail
  with_reducible refine (toT xs v _ (Ha.out.up K8.out) han).mono ?_
  rintro e w9 ⟨uya, rfl, ho, hk⟩
  have PW := Lib.hid (OW.out.kept hk (.inl (Nat.le_refl _)))
  have Pxa := Lib.hid (Oxa.out.kept hk (.inl (Nat.le_refl _)))
  have PG := Lib.hid (OG.out.kept hk (.inl (Nat.le_refl _)))
  have Rw := Lib.hid (Bw.out.kept hk (.inl (Nat.le_refl _)))
  have Rg := Lib.hid (Bg.out.kept hk (.inl (Nat.le_refl _)))
  clear OW
  have OW := PW
  clear PW
  clear Oxa
  have Oxa := Pxa
  clear Pxa
  clear OG
  have OG := PG
  clear PG
  clear Bw
  have Bw := Rw
  clear Rw
  clear Bg
  have Bg := Rg
  clear Rg
  have Oya := Lib.hid ho
  have K9 := Lib.hid (K8.out.trans hk)
  have z9 := hk.size
  clear hk ho K8
  go_wp2_with fail
  with_reducible refine (eqT (xs) _ _ _ (Oxa.out.rdW (by omega)) (Oya.out.rdW (by omega))).mono ?_
  rintro e w10 ⟨rfl, hk⟩
  have PW := Lib.hid (OW.out.kept hk (.inl (Nat.le_refl _)))
  have Pxa := Lib.hid (Oxa.out.kept hk (.inl (Nat.le_refl _)))
  have PG := Lib.hid (OG.out.kept hk (.inl (Nat.le_refl _)))
  have Pya := Lib.hid (Oya.out.kept hk (.inl (Nat.le_refl _)))
  have Rw := Lib.hid (Bw.out.kept hk (.inl (Nat.le_refl _)))
  have Rg := Lib.hid (Bg.out.kept hk (.inl (Nat.le_refl _)))
  clear OW
  have OW := PW
  clear PW
  clear Oxa
  have Oxa := Pxa
  clear Pxa
  clear OG
  have OG := PG
  clear PG
  clear Oya
  have Oya := Pya
  clear Pya
  clear Bw
  have Bw := Rw
  clear Rw
  clear Bg
  have Bg := Rg
  clear Rg
  have K10 := Lib.hid (K9.out.trans hk)
  have z10 := hk.size
  clear hk K9
  clear Oya
  go_wp2_with fail
  with_reducible refine (markT (1) (xs) _ w3.heap.size w4.heap.size _ Oxa.out (by omega) (by omega) (by omega)).mono ?_
  rintro e w11 ⟨rfl, ho, hk⟩
  have PW := Lib.hid (OW.out.kept hk (by omega))
  have PG := Lib.hid (OG.out.kept hk (by omega))
  have Rw := Lib.hid (Bw.out.kept hk (by omega))
  have Rg := Lib.hid (Bg.out.kept hk (by omega))
  clear OW
  have OW := PW
  clear PW
  clear OG
  have OG := PG
  clear PG
  clear Bw
  have Bw := Rw
  clear Rw
  clear Bg
  have Bg := Rg
  clear Rg
  clear Oxa
  have Oxa := Lib.hid ho
  have K11 := Lib.hid (K10.out.trans2 hk (.inr (by omega)))
  have z11 := hk.size
  clear hk ho K10
  have kp : 0 ≤ 1 + 3 * (xs.length : Int) := by omega
  have cg0 := Bg.out.cell 0
  have cg1 := Bg.out.cell 1
  have cg2 := Bg.out.cell 2
  have cw0 := Bw.out.cell 0
  have cw1 := Bw.out.cell 1
  have cw2 := Bw.out.cell 2
  go_wp2_with fail
  clear cg0 cg1 cg2 cw0 cw1 cw2
  with_reducible refine (eqTw_same (shiftedX xs) _).mono ?_
  rintro e w12 ⟨rfl, hk⟩
  have PW := Lib.hid (OW.out.kept hk (.inl (Nat.le_refl _)))
  have Pxa := Lib.hid (Oxa.out.kept hk (.inl (Nat.le_refl _)))
  have PG := Lib.hid (OG.out.kept hk (.inl (Nat.le_refl _)))
  have Rw := Lib.hid (Bw.out.kept hk (.inl (Nat.le_refl _)))
  have Rg := Lib.hid (Bg.out.kept hk (.inl (Nat.le_refl _)))
  clear OW
  have OW := PW
  clear PW
  clear Oxa
  have Oxa := Pxa
  clear Pxa
  clear OG
  have OG := PG
  clear PG
  clear Bw
  have Bw := Rw
  clear Rw
  clear Bg
  have Bg := Rg
  clear Rg
  have K12 := Lib.hid (K11.out.trans hk)
  have z12 := hk.size
  clear hk K11
  go_wp2_with fail
  with_reducible refine (eqT (zs) _ _ _ (OG.out.rdW (by omega)) (OW.out.rdW (by omega))).mono ?_
  rintro e w13 ⟨rfl, hk⟩
  have PW := Lib.hid (OW.out.kept hk (.inl (Nat.le_refl _)))
  have Pxa := Lib.hid (Oxa.out.kept hk (.inl (Nat.le_refl _)))
  have PG := Lib.hid (OG.out.kept hk (.inl (Nat.le_refl _)))
  have Rw := Lib.hid (Bw.out.kept hk (.inl (Nat.le_refl _)))
  have Rg := Lib.hid (Bg.out.kept hk (.inl (Nat.le_refl _)))
  clear OW
  have OW := PW
  clear PW
  clear Oxa
  have Oxa := Pxa
  clear Pxa
  clear OG
  have OG := PG
  clear PG
  clear Bw
  have Bw := Rw
  clear Rw
  clear Bg
  have Bg := Rg
  clear Rg
  have K13 := Lib.hid (K12.out.trans hk)
  have z13 := hk.size
  clear hk K12
  go_wp2_with fail
  with_reducible refine (markT (1) (zs) _ w4.heap.size w5.heap.size _ OG.out (by omega) (by omega) (by omega)).mono ?_
  rintro e w14 ⟨rfl, ho, hk⟩
  have PW := Lib.hid (OW.out.kept hk (by omega))
  have Pxa := Lib.hid (Oxa.out.kept hk (by omega))
  have Rw := Lib.hid (Bw.out.kept hk (by omega))
  have Rg := Lib.hid (Bg.out.kept hk (by omega))
  clear OW
  have OW := PW
  clear PW
  clear Oxa
  have Oxa := Pxa
  clear Pxa
  clear Bw
  have Bw := Rw
  clear Rw
  clear Bg
  have Bg := Rg
  clear Rg
  clear OG
  have OG := Lib.hid ho
  have K14 := Lib.hid (K13.out.trans2 hk (.inr (by omega)))
  have z14 := hk.size
  clear hk ho K13
  have kq : 0 ≤ 1 + 3 * (zs.length : Int) := by omega
  go_wp2_with fail
  with_reducible refine (heldT (1) (zs.length) _ _ _ (OG.out.rdW (by omega)) (by omega) (by omega) (by omega)).mono ?_
  rintro e w' ⟨rfl, rfl⟩
  clear Oxa
  go_wp2_with fail
  with_reducible refine (toT xs v _ (Ha.out.up K14.out) han).mono ?_
  rintro e w15 ⟨uta, rfl, ho, hk⟩
  have PW := Lib.hid (OW.out.kept hk (.inl (Nat.le_refl _)))
  have PG := Lib.hid (OG.out.kept hk (.inl (Nat.le_refl _)))
  have Rw := Lib.hid (Bw.out.kept hk (.inl (Nat.le_refl _)))
  have Rg := Lib.hid (Bg.out.kept hk (.inl (Nat.le_refl _)))
  clear OW
  have OW := PW
  clear PW
  clear OG
  have OG := PG
  clear PG
  clear Bw
  have Bw := Rw
  clear Rw
  clear Bg
  have Bg := Rg
  clear Rg
  have Ota := Lib.hid ho
  have K15 := Lib.hid (K14.out.trans hk)
  have z15 := hk.size
  clear hk ho K14
  go_wp2_with fail
  with_reducible refine (HI.out.at_ xs _ _ (Ota.out.rdW (by omega))).mono ?_
  rintro e w16 ⟨uQ, rfl, ho, hk⟩
  have PW := Lib.hid (OW.out.kept hk (.inl (Nat.le_refl _)))
  have PG := Lib.hid (OG.out.kept hk (.inl (Nat.le_refl _)))
  have Pta := Lib.hid (Ota.out.kept hk (.inl (Nat.le_refl _)))
  have Rw := Lib.hid (Bw.out.kept hk (.inl (Nat.le_refl _)))
  have Rg := Lib.hid (Bg.out.kept hk (.inl (Nat.le_refl _)))
  clear OW
  have OW := PW
  clear PW
  clear OG
  have OG := PG
  clear PG
  clear Ota
  have Ota := Pta
  clear Pta
  clear Bw
  have Bw := Rw
  clear Rw
  clear Bg
  have Bg := Rg
  clear Rg
  have OQ := Lib.hid ho
  have K16 := Lib.hid (K15.out.trans hk)
  have z16 := hk.size
  clear hk ho K15
  rw [← hzs] at OQ
  rw [← hbb]
  have cw0 := Bw.out.cell 0
  have cw1 := Bw.out.cell 1
  have cw2 := Bw.out.cell 2
  have lw : w2.heap.size < w16.heap.size := by omega
  go_wp2_with fail
  clear cw0 cw1 cw2
  clear lw
  obtain ⟨w17, hw⟩ : ∃ w17, w17 = w16.alloc (.cells #[.int .i64 (shiftedX xs).due, .int .i64 (shiftedX xs).seq, .int .i64 (shiftedX xs).lefts] 35) := ⟨_, rfl⟩
  have hk : Kept 0 0 w16 w17 := by rw [hw]; exact Kept.alloc0 _ _
  have Nq : Hid (Blk w17 w16.heap.size 35 #[.int .i64 (shiftedX xs).due, .int .i64 (shiftedX xs).seq, .int .i64 (shiftedX xs).lefts]) := by show Blk _ _ _ _; rw [hw]; exact Blk.new _ _ _
  rw [← hw]
  have PW := Lib.hid (OW.out.kept hk (.inl (Nat.le_refl _)))
  have PG := Lib.hid (OG.out.kept hk (.inl (Nat.le_refl _)))
  have Pta := Lib.hid (Ota.out.kept hk (.inl (Nat.le_refl _)))
  have PQ := Lib.hid (OQ.out.kept hk (.inl (Nat.le_refl _)))
  have Rw := Lib.hid (Bw.out.kept hk (.inl (Nat.le_refl _)))
  have Rg := Lib.hid (Bg.out.kept hk (.inl (Nat.le_refl _)))
  clear OW
  have OW := PW
  clear PW
  clear OG
  have OG := PG
  clear PG
  clear Ota
  have Ota := Pta
  clear Pta
  clear OQ
  have OQ := PQ
  clear PQ
  clear Bw
  have Bw := Rw
  clear Rw
  clear Bg
  have Bg := Rg
  clear Rg
  have Bq := Nq
  clear Nq
  have y17 := Bq.out.lt
  have K17 := Lib.hid (K16.out.trans hk)
  have z17 := hk.size
  clear hk hw K16
  go_wp2_with fail
  with_reducible refine (eqTw_same (shiftedX xs) _).mono ?_
  rintro e w18 ⟨rfl, hk⟩
  have PW := Lib.hid (OW.out.kept hk (.inl (Nat.le_refl _)))
  have PG := Lib.hid (OG.out.kept hk (.inl (Nat.le_refl _)))
  have Pta := Lib.hid (Ota.out.kept hk (.inl (Nat.le_refl _)))
  have PQ := Lib.hid (OQ.out.kept hk (.inl (Nat.le_refl _)))
  have Rw := Lib.hid (Bw.out.kept hk (.inl (Nat.le_refl _)))
  have Rg := Lib.hid (Bg.out.kept hk (.inl (Nat.le_refl _)))
  have Rq := Lib.hid (Bq.out.kept hk (.inl (Nat.le_refl _)))
  clear OW
  have OW := PW
  clear PW
  clear OG
  have OG := PG
  clear PG
  clear Ota
  have Ota := Pta
  clear Pta
  clear OQ
  have OQ := PQ
  clear PQ
  clear Bw
  have Bw := Rw
  clear Rw
  clear Bg
  have Bg := Rg
  clear Rg
  clear Bq
  have Bq := Rq
  clear Rq
  have K18 := Lib.hid (K17.out.trans hk)
  have z18 := hk.size
  clear hk K17
  go_wp2_with fail
  with_reducible refine (eqT (zs) _ _ _ (OQ.out.rdW (by omega)) (OW.out.rdW (by omega))).mono ?_
  rintro e w19 ⟨rfl, hk⟩
  have PW := Lib.hid (OW.out.kept hk (.inl (Nat.le_refl _)))
  have PG := Lib.hid (OG.out.kept hk (.inl (Nat.le_refl _)))
  have Pta := Lib.hid (Ota.out.kept hk (.inl (Nat.le_refl _)))
  have PQ := Lib.hid (OQ.out.kept hk (.inl (Nat.le_refl _)))
  have Rw := Lib.hid (Bw.out.kept hk (.inl (Nat.le_refl _)))
  have Rg := Lib.hid (Bg.out.kept hk (.inl (Nat.le_refl _)))
  have Rq := Lib.hid (Bq.out.kept hk (.inl (Nat.le_refl _)))
  clear OW
  have OW := PW
  clear PW
  clear OG
  have OG := PG
  clear PG
  clear Ota
  have Ota := Pta
  clear Pta
  clear OQ
  have OQ := PQ
  clear PQ
  clear Bw
  have Bw := Rw
  clear Rw
  clear Bg
  have Bg := Rg
  clear Rg
  clear Bq
  have Bq := Rq
  clear Rq
  have K19 := Lib.hid (K18.out.trans hk)
  have z19 := hk.size
  clear hk K18
  go_wp2_with fail
  with_reducible refine (heldT (1) (zs.length) _ _ _ (OG.out.rdW (by omega)) (by omega) (by omega) (by omega)).mono ?_
  rintro e w' ⟨rfl, rfl⟩
  go_wp2
  go_ret
  exact ⟨rfl, K19.out⟩

set_option maxHeartbeats 400000 in
theorem lawShifted (hI : DoesS 19 shiftedX shiftedL shiftOk) (xs : List Tw) (v : Value) (w : World) (ha : RdT w w.heap.size v xs) :
    Calls Try.prog 10 #[v] w fun e w' => e = .returned (.bool true) ∧ Kept 0 0 w w' := by
  rcases Nat.lt_or_ge 1048576 (xs.length) with hl | hl
  · have Ha := Lib.hid ha
    clear hI ha
    have Ea : Hid (szF 1048576 xs.length = -1) := szF_neg (by omega)
    go_enter Try.func10, Try.ntmps10
    go_wp2_with fail
    with_reducible refine (szT xs _ _ _ _ Ha.out (by omega) (by omega)).mono ?_
    rintro e w' ⟨rfl, rfl⟩
    rw [Ea.out]
    go_wp2
    go_ret
    exact ⟨rfl, Kept.refl _ _ _⟩
  · exact lawShifted_small hI xs v w ha hl

set_option maxHeartbeats 3200000 in
theorem lawWithout_small (hI : DoesTI 26 withoutL withoutOk) (xs : List Tw) (q : Int) (v : Value) (w : World) (ha : RdT w w.heap.size v xs) (hn : xs.length ≤ 1048576) :
    Calls Try.prog 11 #[v, .int .i64 q] w fun e w' => e = .returned (.bool true) ∧ Kept 0 0 w w' := by
  have Ha := Lib.hid ha
  have han : xs.length ≤ 1048576 := by omega
  have HI := Lib.hid hI
  clear hI ha
  have Ea : Hid (szF (1048576) xs.length = 1048576 - xs.length) := szF_pos (by omega)
  go_enter Try.func11, Try.ntmps11
  go_wp2_with fail
  with_reducible refine (szT xs _ _ _ _ Ha.out (by omega) (by omega)).mono ?_
  rintro e w' ⟨rfl, rfl⟩
  rw [Ea.out]
  go_wp2_with fail
  with_reducible refine (toT xs v _ (Ha.out.up (Kept.refl 0 0 w)) han).mono ?_
  rintro e w1 ⟨usa, rfl, ho, hk⟩
  have Osa := Lib.hid ho
  have K1 := Lib.hid ((Kept.refl 0 0 w).trans hk)
  have z1 := hk.size
  clear hk ho
  go_wp2_with fail
  with_reducible refine (specWithout.at_ xs q _ _ (Osa.out.rdW (by omega))).mono ?_
  rintro e w2 ⟨uW, rfl, ho, hk⟩
  have Psa := Lib.hid (Osa.out.kept hk (.inl (Nat.le_refl _)))
  clear Osa
  have Osa := Psa
  clear Psa
  have OW := Lib.hid ho
  have K2 := Lib.hid (K1.out.trans hk)
  have z2 := hk.size
  clear hk ho K1
  clear Osa
  go_wp2_with fail
  with_reducible refine (toT xs v _ (Ha.out.up K2.out) han).mono ?_
  rintro e w3 ⟨uxa, rfl, ho, hk⟩
  have PW := Lib.hid (OW.out.kept hk (.inl (Nat.le_refl _)))
  clear OW
  have OW := PW
  clear PW
  have Oxa := Lib.hid ho
  have K3 := Lib.hid (K2.out.trans hk)
  have z3 := hk.size
  clear hk ho K2
  go_wp2_with fail
  with_reducible refine (HI.out.at_ xs q _ _ (Oxa.out.rdW (by omega))).mono ?_
  rintro e w4 ⟨uG, rfl, ho, hk⟩
  have PW := Lib.hid (OW.out.kept hk (.inl (Nat.le_refl _)))
  have Pxa := Lib.hid (Oxa.out.kept hk (.inl (Nat.le_refl _)))
  clear OW
  have OW := PW
  clear PW
  clear Oxa
  have Oxa := Pxa
  clear Pxa
  have OG := Lib.hid ho
  have K4 := Lib.hid (K3.out.trans hk)
  have z4 := hk.size
  clear hk ho K3
  have gl : (withoutL xs q).length ≤ 64 := withoutL_len _ _
  obtain ⟨zs, hzs⟩ : ∃ zs, zs = withoutL xs q := ⟨_, rfl⟩
  rw [← hzs] at OW OG gl
  obtain ⟨bb, hbb⟩ : ∃ bb, bb = withoutOk xs q := ⟨_, rfl⟩
  rw [← hbb]
  have q1 : (bb != bb) = false := by simp
  have q2 : (bb == bb) = true := by simp
  go_wp2_with fail
  with_reducible refine (eqT (zs) _ _ _ (OG.out.rdW (by omega)) (OW.out.rdW (by omega))).mono ?_
  rintro e w5 ⟨rfl, hk⟩
  have PW := Lib.hid (OW.out.kept hk (.inl (Nat.le_refl _)))
  have Pxa := Lib.hid (Oxa.out.kept hk (.inl (Nat.le_refl _)))
  have PG := Lib.hid (OG.out.kept hk (.inl (Nat.le_refl _)))
  clear OW
  have OW := PW
  clear PW
  clear Oxa
  have Oxa := Pxa
  clear Pxa
  clear OG
  have OG := PG
  clear PG
  have K5 := Lib.hid (K4.out.trans hk)
  have z5 := hk.size
  clear hk K4
  go_wp2_with fail
  with_reducible refine (toT xs v _ (Ha.out.up K5.out) han).mono ?_
  rintro e w6 ⟨uya, rfl, ho, hk⟩
  have PW := Lib.hid (OW.out.kept hk (.inl (Nat.le_refl _)))
  have Pxa := Lib.hid (Oxa.out.kept hk (.inl (Nat.le_refl _)))
  have PG := Lib.hid (OG.out.kept hk (.inl (Nat.le_refl _)))
  clear OW
  have OW := PW
  clear PW
  clear Oxa
  have Oxa := Pxa
  clear Pxa
  clear OG
  have OG := PG
  clear PG
  have Oya := Lib.hid ho
  have K6 := Lib.hid (K5.out.trans hk)
  have z6 := hk.size
  clear hk ho K5
  go_wp2_with fail
  with_reducible refine (eqT (xs) _ _ _ (Oxa.out.rdW (by omega)) (Oya.out.rdW (by omega))).mono ?_
  rintro e w7 ⟨rfl, hk⟩
  have PW := Lib.hid (OW.out.kept hk (.inl (Nat.le_refl _)))
  have Pxa := Lib.hid (Oxa.out.kept hk (.inl (Nat.le_refl _)))
  have PG := Lib.hid (OG.out.kept hk (.inl (Nat.le_refl _)))
  have Pya := Lib.hid (Oya.out.kept hk (.inl (Nat.le_refl _)))
  clear OW
  have OW := PW
  clear PW
  clear Oxa
  have Oxa := Pxa
  clear Pxa
  clear OG
  have OG := PG
  clear PG
  clear Oya
  have Oya := Pya
  clear Pya
  have K7 := Lib.hid (K6.out.trans hk)
  have z7 := hk.size
  clear hk K6
  clear Oya
  go_wp2_with fail
  with_reducible refine (markT (1) (xs) _ w2.heap.size w3.heap.size _ Oxa.out (by omega) (by omega) (by omega)).mono ?_
  rintro e w8 ⟨rfl, ho, hk⟩
  have PW := Lib.hid (OW.out.kept hk (by omega))
  have PG := Lib.hid (OG.out.kept hk (by omega))
  clear OW
  have OW := PW
  clear PW
  clear OG
  have OG := PG
  clear PG
  clear Oxa
  have Oxa := Lib.hid ho
  have K8 := Lib.hid (K7.out.trans2 hk (.inr (by omega)))
  have z8 := hk.size
  clear hk ho K7
  have kp : 0 ≤ 1 + 3 * (xs.length : Int) := by omega
  go_wp2_with fail
  with_reducible refine (eqT (zs) _ _ _ (OG.out.rdW (by omega)) (OW.out.rdW (by omega))).mono ?_
  rintro e w9 ⟨rfl, hk⟩
  have PW := Lib.hid (OW.out.kept hk (.inl (Nat.le_refl _)))
  have Pxa := Lib.hid (Oxa.out.kept hk (.inl (Nat.le_refl _)))
  have PG := Lib.hid (OG.out.kept hk (.inl (Nat.le_refl _)))
  clear OW
  have OW := PW
  clear PW
  clear Oxa
  have Oxa := Pxa
  clear Pxa
  clear OG
  have OG := PG
  clear PG
  have K9 := Lib.hid (K8.out.trans hk)
  have z9 := hk.size
  clear hk K8
  go_wp2_with fail
  with_reducible refine (markT (1) (zs) _ w3.heap.size w4.heap.size _ OG.out (by omega) (by omega) (by omega)).mono ?_
  rintro e w10 ⟨rfl, ho, hk⟩
  have PW := Lib.hid (OW.out.kept hk (by omega))
  have Pxa := Lib.hid (Oxa.out.kept hk (by omega))
  clear OW
  have OW := PW
  clear PW
  clear Oxa
  have Oxa := Pxa
  clear Pxa
  clear OG
  have OG := Lib.hid ho
  have K10 := Lib.hid (K9.out.trans2 hk (.inr (by omega)))
  have z10 := hk.size
  clear hk ho K9
  have kq : 0 ≤ 1 + 3 * (zs.length : Int) := by omega
  go_wp2_with fail
  with_reducible refine (heldT (1) (zs.length) _ _ _ (OG.out.rdW (by omega)) (by omega) (by omega) (by omega)).mono ?_
  rintro e w' ⟨rfl, rfl⟩
  clear Oxa
  go_wp2_with fail
  with_reducible refine (toT xs v _ (Ha.out.up K10.out) han).mono ?_
  rintro e w11 ⟨uta, rfl, ho, hk⟩
  have PW := Lib.hid (OW.out.kept hk (.inl (Nat.le_refl _)))
  have PG := Lib.hid (OG.out.kept hk (.inl (Nat.le_refl _)))
  clear OW
  have OW := PW
  clear PW
  clear OG
  have OG := PG
  clear PG
  have Ota := Lib.hid ho
  have K11 := Lib.hid (K10.out.trans hk)
  have z11 := hk.size
  clear hk ho K10
  go_wp2_with fail
  with_reducible refine (HI.out.at_ xs q _ _ (Ota.out.rdW (by omega))).mono ?_
  rintro e w12 ⟨uQ, rfl, ho, hk⟩
  have PW := Lib.hid (OW.out.kept hk (.inl (Nat.le_refl _)))
  have PG := Lib.hid (OG.out.kept hk (.inl (Nat.le_refl _)))
  have Pta := Lib.hid (Ota.out.kept hk (.inl (Nat.le_refl _)))
  clear OW
  have OW := PW
  clear PW
  clear OG
  have OG := PG
  clear PG
  clear Ota
  have Ota := Pta
  clear Pta
  have OQ := Lib.hid ho
  have K12 := Lib.hid (K11.out.trans hk)
  have z12 := hk.size
  clear hk ho K11
  rw [← hzs] at OQ
  rw [← hbb]
  go_wp2_with fail
  with_reducible refine (eqT (zs) _ _ _ (OQ.out.rdW (by omega)) (OW.out.rdW (by omega))).mono ?_
  rintro e w13 ⟨rfl, hk⟩
  have PW := Lib.hid (OW.out.kept hk (.inl (Nat.le_refl _)))
  have PG := Lib.hid (OG.out.kept hk (.inl (Nat.le_refl _)))
  have Pta := Lib.hid (Ota.out.kept hk (.inl (Nat.le_refl _)))
  have PQ := Lib.hid (OQ.out.kept hk (.inl (Nat.le_refl _)))
  clear OW
  have OW := PW
  clear PW
  clear OG
  have OG := PG
  clear PG
  clear Ota
  have Ota := Pta
  clear Pta
  clear OQ
  have OQ := PQ
  clear PQ
  have K13 := Lib.hid (K12.out.trans hk)
  have z13 := hk.size
  clear hk K12
  go_wp2_with fail
  with_reducible refine (heldT (1) (zs.length) _ _ _ (OG.out.rdW (by omega)) (by omega) (by omega) (by omega)).mono ?_
  rintro e w' ⟨rfl, rfl⟩
  go_wp2
  go_ret
  exact ⟨rfl, K13.out⟩

set_option maxHeartbeats 400000 in
theorem lawWithout (hI : DoesTI 26 withoutL withoutOk) (xs : List Tw) (q : Int) (v : Value) (w : World) (ha : RdT w w.heap.size v xs) :
    Calls Try.prog 11 #[v, .int .i64 q] w fun e w' => e = .returned (.bool true) ∧ Kept 0 0 w w' := by
  rcases Nat.lt_or_ge 1048576 (xs.length) with hl | hl
  · have Ha := Lib.hid ha
    clear hI ha
    have Ea : Hid (szF 1048576 xs.length = -1) := szF_neg (by omega)
    go_enter Try.func11, Try.ntmps11
    go_wp2_with fail
    with_reducible refine (szT xs _ _ _ _ Ha.out (by omega) (by omega)).mono ?_
    rintro e w' ⟨rfl, rfl⟩
    rw [Ea.out]
    go_wp2
    go_ret
    exact ⟨rfl, Kept.refl _ _ _⟩
  · exact lawWithout_small hI xs q v w ha hl

set_option maxHeartbeats 3200000 in
theorem lawSorted_small (hI : DoesT 18 sortedL) (xs : List Tw) (v : Value) (w : World) (ha : RdT w w.heap.size v xs) (hn : xs.length ≤ 1048576) :
    Calls Try.prog 12 #[v] w fun e w' => e = .returned (.bool true) ∧ Kept 0 0 w w' := by
  have Ha := Lib.hid ha
  have han : xs.length ≤ 1048576 := by omega
  have HI := Lib.hid hI
  clear hI ha
  have Ea : Hid (szF (1048576) xs.length = 1048576 - xs.length) := szF_pos (by omega)
  go_enter Try.func12, Try.ntmps12
  go_wp2_with fail
  with_reducible refine (szT xs _ _ _ _ Ha.out (by omega) (by omega)).mono ?_
  rintro e w' ⟨rfl, rfl⟩
  rw [Ea.out]
  go_wp2_with fail
  with_reducible refine (toT xs v _ (Ha.out.up (Kept.refl 0 0 w)) han).mono ?_
  rintro e w1 ⟨usa, rfl, ho, hk⟩
  have Osa := Lib.hid ho
  have K1 := Lib.hid ((Kept.refl 0 0 w).trans hk)
  have z1 := hk.size
  clear hk ho
  go_wp2_with fail
  with_reducible refine (specSorted.at_ xs _ _ (Osa.out.rdW (by omega))).mono ?_
  rintro e w2 ⟨uW, rfl, ho, hk⟩
  have Psa := Lib.hid (Osa.out.kept hk (.inl (Nat.le_refl _)))
  clear Osa
  have Osa := Psa
  clear Psa
  have OW := Lib.hid ho
  have K2 := Lib.hid (K1.out.trans hk)
  have z2 := hk.size
  clear hk ho K1
  clear Osa
  go_wp2_with fail
  with_reducible refine (toT xs v _ (Ha.out.up K2.out) han).mono ?_
  rintro e w3 ⟨uxa, rfl, ho, hk⟩
  have PW := Lib.hid (OW.out.kept hk (.inl (Nat.le_refl _)))
  clear OW
  have OW := PW
  clear PW
  have Oxa := Lib.hid ho
  have K3 := Lib.hid (K2.out.trans hk)
  have z3 := hk.size
  clear hk ho K2
  go_wp2_with fail
  with_reducible refine (HI.out.at_ xs _ _ (Oxa.out.rdW (by omega))).mono ?_
  rintro e w4 ⟨uG, rfl, ho, hk⟩
  have PW := Lib.hid (OW.out.kept hk (.inl (Nat.le_refl _)))
  have Pxa := Lib.hid (Oxa.out.kept hk (.inl (Nat.le_refl _)))
  clear OW
  have OW := PW
  clear PW
  clear Oxa
  have Oxa := Pxa
  clear Pxa
  have OG := Lib.hid ho
  have K4 := Lib.hid (K3.out.trans hk)
  have z4 := hk.size
  clear hk ho K3
  have gl : (sortedL xs).length ≤ 64 := sortedL_len _
  obtain ⟨zs, hzs⟩ : ∃ zs, zs = sortedL xs := ⟨_, rfl⟩
  rw [← hzs] at OW OG gl
  go_wp2_with fail
  with_reducible refine (eqT (zs) _ _ _ (OG.out.rdW (by omega)) (OW.out.rdW (by omega))).mono ?_
  rintro e w5 ⟨rfl, hk⟩
  have PW := Lib.hid (OW.out.kept hk (.inl (Nat.le_refl _)))
  have Pxa := Lib.hid (Oxa.out.kept hk (.inl (Nat.le_refl _)))
  have PG := Lib.hid (OG.out.kept hk (.inl (Nat.le_refl _)))
  clear OW
  have OW := PW
  clear PW
  clear Oxa
  have Oxa := Pxa
  clear Pxa
  clear OG
  have OG := PG
  clear PG
  have K5 := Lib.hid (K4.out.trans hk)
  have z5 := hk.size
  clear hk K4
  go_wp2_with fail
  with_reducible refine (toT xs v _ (Ha.out.up K5.out) han).mono ?_
  rintro e w6 ⟨uya, rfl, ho, hk⟩
  have PW := Lib.hid (OW.out.kept hk (.inl (Nat.le_refl _)))
  have Pxa := Lib.hid (Oxa.out.kept hk (.inl (Nat.le_refl _)))
  have PG := Lib.hid (OG.out.kept hk (.inl (Nat.le_refl _)))
  clear OW
  have OW := PW
  clear PW
  clear Oxa
  have Oxa := Pxa
  clear Pxa
  clear OG
  have OG := PG
  clear PG
  have Oya := Lib.hid ho
  have K6 := Lib.hid (K5.out.trans hk)
  have z6 := hk.size
  clear hk ho K5
  go_wp2_with fail
  with_reducible refine (eqT (xs) _ _ _ (Oxa.out.rdW (by omega)) (Oya.out.rdW (by omega))).mono ?_
  rintro e w7 ⟨rfl, hk⟩
  have PW := Lib.hid (OW.out.kept hk (.inl (Nat.le_refl _)))
  have Pxa := Lib.hid (Oxa.out.kept hk (.inl (Nat.le_refl _)))
  have PG := Lib.hid (OG.out.kept hk (.inl (Nat.le_refl _)))
  have Pya := Lib.hid (Oya.out.kept hk (.inl (Nat.le_refl _)))
  clear OW
  have OW := PW
  clear PW
  clear Oxa
  have Oxa := Pxa
  clear Pxa
  clear OG
  have OG := PG
  clear PG
  clear Oya
  have Oya := Pya
  clear Pya
  have K7 := Lib.hid (K6.out.trans hk)
  have z7 := hk.size
  clear hk K6
  clear Oya
  go_wp2_with fail
  with_reducible refine (markT (1) (xs) _ w2.heap.size w3.heap.size _ Oxa.out (by omega) (by omega) (by omega)).mono ?_
  rintro e w8 ⟨rfl, ho, hk⟩
  have PW := Lib.hid (OW.out.kept hk (by omega))
  have PG := Lib.hid (OG.out.kept hk (by omega))
  clear OW
  have OW := PW
  clear PW
  clear OG
  have OG := PG
  clear PG
  clear Oxa
  have Oxa := Lib.hid ho
  have K8 := Lib.hid (K7.out.trans2 hk (.inr (by omega)))
  have z8 := hk.size
  clear hk ho K7
  have kp : 0 ≤ 1 + 3 * (xs.length : Int) := by omega
  go_wp2_with fail
  with_reducible refine (eqT (zs) _ _ _ (OG.out.rdW (by omega)) (OW.out.rdW (by omega))).mono ?_
  rintro e w9 ⟨rfl, hk⟩
  have PW := Lib.hid (OW.out.kept hk (.inl (Nat.le_refl _)))
  have Pxa := Lib.hid (Oxa.out.kept hk (.inl (Nat.le_refl _)))
  have PG := Lib.hid (OG.out.kept hk (.inl (Nat.le_refl _)))
  clear OW
  have OW := PW
  clear PW
  clear Oxa
  have Oxa := Pxa
  clear Pxa
  clear OG
  have OG := PG
  clear PG
  have K9 := Lib.hid (K8.out.trans hk)
  have z9 := hk.size
  clear hk K8
  go_wp2_with fail
  with_reducible refine (markT (1) (zs) _ w3.heap.size w4.heap.size _ OG.out (by omega) (by omega) (by omega)).mono ?_
  rintro e w10 ⟨rfl, ho, hk⟩
  have PW := Lib.hid (OW.out.kept hk (by omega))
  have Pxa := Lib.hid (Oxa.out.kept hk (by omega))
  clear OW
  have OW := PW
  clear PW
  clear Oxa
  have Oxa := Pxa
  clear Pxa
  clear OG
  have OG := Lib.hid ho
  have K10 := Lib.hid (K9.out.trans2 hk (.inr (by omega)))
  have z10 := hk.size
  clear hk ho K9
  have kq : 0 ≤ 1 + 3 * (zs.length : Int) := by omega
  go_wp2_with fail
  with_reducible refine (heldT (1) (zs.length) _ _ _ (OG.out.rdW (by omega)) (by omega) (by omega) (by omega)).mono ?_
  rintro e w' ⟨rfl, rfl⟩
  clear Oxa
  go_wp2_with fail
  with_reducible refine (toT xs v _ (Ha.out.up K10.out) han).mono ?_
  rintro e w11 ⟨uta, rfl, ho, hk⟩
  have PW := Lib.hid (OW.out.kept hk (.inl (Nat.le_refl _)))
  have PG := Lib.hid (OG.out.kept hk (.inl (Nat.le_refl _)))
  clear OW
  have OW := PW
  clear PW
  clear OG
  have OG := PG
  clear PG
  have Ota := Lib.hid ho
  have K11 := Lib.hid (K10.out.trans hk)
  have z11 := hk.size
  clear hk ho K10
  go_wp2_with fail
  with_reducible refine (HI.out.at_ xs _ _ (Ota.out.rdW (by omega))).mono ?_
  rintro e w12 ⟨uQ, rfl, ho, hk⟩
  have PW := Lib.hid (OW.out.kept hk (.inl (Nat.le_refl _)))
  have PG := Lib.hid (OG.out.kept hk (.inl (Nat.le_refl _)))
  have Pta := Lib.hid (Ota.out.kept hk (.inl (Nat.le_refl _)))
  clear OW
  have OW := PW
  clear PW
  clear OG
  have OG := PG
  clear PG
  clear Ota
  have Ota := Pta
  clear Pta
  have OQ := Lib.hid ho
  have K12 := Lib.hid (K11.out.trans hk)
  have z12 := hk.size
  clear hk ho K11
  rw [← hzs] at OQ
  go_wp2_with fail
  with_reducible refine (eqT (zs) _ _ _ (OQ.out.rdW (by omega)) (OW.out.rdW (by omega))).mono ?_
  rintro e w13 ⟨rfl, hk⟩
  have PW := Lib.hid (OW.out.kept hk (.inl (Nat.le_refl _)))
  have PG := Lib.hid (OG.out.kept hk (.inl (Nat.le_refl _)))
  have Pta := Lib.hid (Ota.out.kept hk (.inl (Nat.le_refl _)))
  have PQ := Lib.hid (OQ.out.kept hk (.inl (Nat.le_refl _)))
  clear OW
  have OW := PW
  clear PW
  clear OG
  have OG := PG
  clear PG
  clear Ota
  have Ota := Pta
  clear Pta
  clear OQ
  have OQ := PQ
  clear PQ
  have K13 := Lib.hid (K12.out.trans hk)
  have z13 := hk.size
  clear hk K12
  go_wp2_with fail
  with_reducible refine (heldT (1) (zs.length) _ _ _ (OG.out.rdW (by omega)) (by omega) (by omega) (by omega)).mono ?_
  rintro e w' ⟨rfl, rfl⟩
  go_wp2
  go_ret
  exact ⟨rfl, K13.out⟩

set_option maxHeartbeats 400000 in
theorem lawSorted (hI : DoesT 18 sortedL) (xs : List Tw) (v : Value) (w : World) (ha : RdT w w.heap.size v xs) :
    Calls Try.prog 12 #[v] w fun e w' => e = .returned (.bool true) ∧ Kept 0 0 w w' := by
  rcases Nat.lt_or_ge 1048576 (xs.length) with hl | hl
  · have Ha := Lib.hid ha
    clear hI ha
    have Ea : Hid (szF 1048576 xs.length = -1) := szF_neg (by omega)
    go_enter Try.func12, Try.ntmps12
    go_wp2_with fail
    with_reducible refine (szT xs _ _ _ _ Ha.out (by omega) (by omega)).mono ?_
    rintro e w' ⟨rfl, rfl⟩
    rw [Ea.out]
    go_wp2
    go_ret
    exact ⟨rfl, Kept.refl _ _ _⟩
  · exact lawSorted_small hI xs v w ha hl
end Go.Proofs.Ytggggdloppnopaa
