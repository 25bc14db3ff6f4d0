/- FnWoken returns true for every code that can be read; condition: the program's functions do what is asked of them (Does..). -/
import Derived.Test.YtfpnpjpcjbndoaaIh
import Derived.Test.YtfpnpjpcjbndoaaIi
namespace Go.Proofs.Ytfpnpjpcjbndoaa
open Go.RowKit Go.Sort

set_option maxHeartbeats 6400000 in
theorem lawWk (h1 : DoesTasksOk) (h2 : DoesParkedOn) (h3 : DoesReadyIn) (h4 : DoesWoken) (xs : List Int) (A : Option Addr) (c : Nat) (w : World) (h : Rd (Value.int .u8) w w.heap.size A xs) (hx : ∀ x ∈ xs, 0 ≤ x ∧ x ≤ 255) (hl : xs.length ≤ 4096) :
    Calls Try.prog 3 #[.slice A xs.length c] w fun e w' => e = .returned (.bool true) ∧ Kept 0 0 w w' := by
  unfold DoesTasksOk at h1
  unfold DoesParkedOn at h2
  unfold DoesReadyIn at h3
  unfold DoesWoken at h4
  have D1 := Lib.hid h1
  have D2 := Lib.hid h2
  have D3 := Lib.hid h3
  have D4 := Lib.hid h4
  have CD := Lib.hid (drawWk_any xs A c w h hx hl)
  have hbig : decide (4096 < xs.length) = false := by simpa using hl
  have hm := h.1
  clear h1 h2 h3 h4 h hx
  go_enter Try.func3, Try.ntmps3
  go_wp2_with fail
  with_reducible refine (big_any _ _ _ _ hm).mono ?_
  rintro e w' ⟨rfl, rfl⟩
  rw [hbig]
  clear hbig hl hm
  go_wp2_with fail
  with_reducible refine CD.out.mono ?_
  rintro e w1 ⟨l, D, d, y, q, m, rfl, zl, o1, hk⟩
  obtain ⟨vl, hvl⟩ : ∃ v, v = Value.slice D l.length d := ⟨_, rfl⟩
  have L1 : Hid (RdTk w1 w1.heap.size (.slice D l.length d) l) := (show OwnTk w1 w.heap.size w1.heap.size (.slice D l.length d) l from ⟨D, d, rfl, o1⟩).rdW (Nat.le_refl _)
  have K1 := Lib.hid hk
  clear o1 hk CD hvl vl
  go_wp2_with fail
  with_reducible refine (tasks11_any l _ _ L1.out).mono ?_
  rintro e w2 ⟨rfl, hk⟩
  have L2 := Lib.hid (L1.out.up hk)
  have K2 := Lib.hid (K1.out.trans hk)
  clear hk L1 K1
  cases hb : tasksB l
  · have EL := Lib.hid (woken_nil hb y q 1)
    have HB := Lib.hid hb
    clear hb
    have CW := Lib.hid (D4.out l y q 1 _ _ L2.out)
    rw [EL.out] at CW
    go_wp2_with fail
    with_reducible refine CW.out.mono ?_
    rintro e w3 ⟨_, rfl, ⟨E, f, rfl, -⟩, hk⟩
    have L3 := Lib.hid (L2.out.up hk)
    have K3 := Lib.hid (K2.out.trans hk)
    clear hk CW L2 K2
    go_wp2_with fail
    with_reducible refine (D1.out l _ _ L3.out).mono ?_
    rintro e w4 ⟨rfl, hk⟩
    have K4 := Lib.hid (K3.out.trans hk)
    rw [HB.out]
    clear hk L3 K3
    go_wp2_with fail
    go_ret
    exact ⟨rfl, K4.out⟩
  have HB := Lib.hid hb
  clear hb
  go_wp2_with fail
  with_reducible refine (D4.out l y q 1 _ _ L2.out).mono ?_
  rintro e w3 ⟨_, rfl, ⟨E, f, rfl, ox⟩, hk⟩
  have X3 : Hid (RdTk w3 w3.heap.size (.slice E (wokenL l y q 1).length f) (wokenL l y q 1)) := (show OwnTk w3 w2.heap.size w3.heap.size _ _ from ⟨E, f, rfl, ox⟩).rdW (Nat.le_refl _)
  have L3 := Lib.hid (L2.out.up hk)
  have K3 := Lib.hid (K2.out.trans hk)
  have XL : Hid ((wokenL l y q 1).length = l.length) := woken_len HB.out y q 1
  clear hk ox L2 K2
  go_wp2_with fail
  with_reducible refine (D2.out l y q _ _ L3.out).mono ?_
  rintro e w4 ⟨_, rfl, ⟨F, i, rfl, op⟩, hk⟩
  have P4 : Hid (RdI w4 w4.heap.size (.slice F (parkedL l y q).length i) (parkedL l y q)) := (show OwnI w4 w3.heap.size w4.heap.size _ _ from ⟨F, i, rfl, op⟩).rdW (Nat.le_refl _)
  have L4 := Lib.hid (L3.out.up hk)
  have X4 := Lib.hid (X3.out.up hk)
  have K4 := Lib.hid (K3.out.trans hk)
  clear hk op L3 X3 K3
  have q1 : (((wokenL l y q 1).length : Int) != (l.length : Int)) = false := by rw [XL.out]; simp
  go_wp2_with fail
  with_reducible refine (parked11_any l y q _ _ L4.out).mono ?_
  rintro e w5 ⟨_, rfl, ⟨F', i', rfl, op⟩, hk⟩
  have Q5 : Hid (RdI w5 w5.heap.size (.slice F' (parkedL l y q).length i') (parkedL l y q)) := (show OwnI w5 w4.heap.size w5.heap.size _ _ from ⟨F', i', rfl, op⟩).rdW (Nat.le_refl _)
  have P5 := Lib.hid (P4.out.up hk)
  have L5 := Lib.hid (L4.out.up hk)
  have X5 := Lib.hid (X4.out.up hk)
  have K5 := Lib.hid (K4.out.trans hk)
  clear hk op L4 X4 K4 P4
  go_wp2_with fail
  with_reducible refine (likeI (parkedL l y q) _ _ _ P5.out Q5.out).mono ?_
  rintro e w6 ⟨rfl, hk⟩
  have P6 := Lib.hid (P5.out.up hk)
  have L6 := Lib.hid (L5.out.up hk)
  have X6 := Lib.hid (X5.out.up hk)
  have K6 := Lib.hid (K5.out.trans hk)
  clear hk L5 X5 K5 P5 Q5 q1
  go_wp2_with fail
  with_reducible refine (D3.out (wokenL l y q 1) _ _ X6.out).mono ?_
  rintro e w7 ⟨_, rfl, ⟨G, j, rfl, og⟩, hk⟩
  have R7 : Hid (RdI w7 w7.heap.size (.slice G (readyL (wokenL l y q 1)).length j) (readyL (wokenL l y q 1))) := (show OwnI w7 w6.heap.size w7.heap.size _ _ from ⟨G, j, rfl, og⟩).rdW (Nat.le_refl _)
  have P7 := Lib.hid (P6.out.up hk)
  have L7 := Lib.hid (L6.out.up hk)
  have X7 := Lib.hid (X6.out.up hk)
  have K7 := Lib.hid (K6.out.trans hk)
  clear hk og L6 X6 K6 P6
  obtain ⟨z, hz⟩ : ∃ z, z = wokenL l y q 1 := ⟨_, rfl⟩
  have HZ := Lib.hid hz
  rw [← hz] at XL R7 X7 ⊢
  clear hz
  obtain ⟨rs, hrs⟩ : ∃ rs, rs = readyL z := ⟨_, rfl⟩
  have HR := Lib.hid hrs
  rw [← hrs] at R7 ⊢
  clear hrs
  obtain ⟨ps, hps⟩ : ∃ ps, ps = parkedL l y q := ⟨_, rfl⟩
  have HP := Lib.hid hps
  rw [← hps] at P7 ⊢
  clear hps
  go_wp2_with fail
  go_loopw [10] (fun i wr => ∃ k : Nat, k ≤ l.length ∧ i = .int .i64 k ∧ Hid (Kept 0 0 w7 wr)) (fun i _ => l.length - (intOf i).toNat)
  case atStart => exact ⟨0, Nat.zero_le _, rfl, Lib.hid (Kept.refl _ _ _)⟩
  case round =>
    obtain ⟨k, hk, rfl, HK⟩ := hrel
    by_cases hlt : k < l.length
    · have i1 : (k : Int) < (l.length : Int) := by omega
      have hlz : k < z.length := by rw [XL.out]; exact hlt
      obtain ⟨t, ht⟩ : ∃ t, t = l[k] := ⟨_, rfl⟩
      obtain ⟨s, hs⟩ : ∃ s, s = z[k] := ⟨_, rfl⟩
      have M1 : Hid ((k : Int) ∈ ps ↔ isPk y q t = true) := by show _ ↔ _; rw [HP.out, ht]; exact parked_in HB.out hlt
      have M2 : Hid (isPk y q t = false → s = t) := by
        intro hp
        rw [ht] at hp
        have e := HZ.out
        subst e
        rw [hs, ht]
        exact woken_other HB.out hlt hlz hp
      have M3 : Hid (isPk y q t = true → t.pc < 12 → s.st = 0 ∧ s.reg = 1 ∧ (k : Int) ∈ rs) := by
        intro hp hc
        rw [ht] at hp hc
        have er := HR.out
        have e := HZ.out
        subst er
        subst e
        rw [hs]
        have := woken_one HB.out hlt hlz hp hc
        exact ⟨this.1, this.2, woken_ready HB.out hlt hlz hp hc⟩
      have RL : Hid (∀ W, Kept 0 0 w7 W → RdTk W W.heap.size (.slice D l.length d) l) := fun W hW => L7.out.up hW
      go_wp2_with fail
      with_reducible refine (hasL_any ps k _ wr (P7.out.up HK.out)).mono ?_
      rintro e w8 ⟨rfl, hk8⟩
      have HK8 := Lib.hid (HK.out.trans hk8)
      clear hk8 HK RL
      obtain ⟨AL, cL, eL, sL⟩ := L7.out.up HK8.out
      injection eL with eL1 _ eL2
      subst eL1 eL2
      obtain ⟨ad, hAD, _, c0, c1, c2, c3, c4, c5, c6, c7, c8⟩ := sL.rd.tk hlt
      clear sL
      rw [← ht] at c0 c1 c2 c3 c4 c5 c6 c7 c8
      obtain ⟨AX, cX, eX, sX⟩ := X7.out.up HK8.out
      injection eX with eX1 _ eX2
      subst eX1 eX2
      obtain ⟨bd, hBD, _, d0, d1, d2, d3, d4, d5, d6, d7, d8⟩ := sX.rd.tk hlz
      clear sX
      rw [← hs] at d0 d1 d2 d3 d4 d5 d6 d7 d8
      subst hAD hBD
      have i2 : (k : Int) < (z.length : Int) := by omega
      clear hlt hlz ht hs
      cases hp : isPk y q t
      · have E : Hid (decide ((k : Int) ∈ ps) = false) := decide_eq_false (fun hi => by have := M1.out.1 hi; rw [hp] at this; cases this)
        rw [E.out]
        rw [M2.out hp] at d0 d1 d2 d3 d4 d5 d6 d7 d8
        have k0 := cell_regrown c0
        have k1 := cell_regrown c1
        have k2 := cell_regrown c2
        have k3 := cell_regrown c3
        have k4 := cell_regrown c4
        have k5 := cell_regrown c5
        have k6 := cell_regrown c6
        have k7 := cell_regrown c7
        have k8 := cell_regrown c8
        have j0 := cell_regrown d0
        have j1 := cell_regrown d1
        have j2 := cell_regrown d2
        have j3 := cell_regrown d3
        have j4 := cell_regrown d4
        have j5 := cell_regrown d5
        have j6 := cell_regrown d6
        have j7 := cell_regrown d7
        have j8 := cell_regrown d8
        clear c0 c1 c2 c3 c4 c5 c6 c7 c8 d0 d1 d2 d3 d4 d5 d6 d7 d8 hp
        go_wp2_with fail
        refine wp_region_quiet_below (by kernel_rfl) (by kernel_rfl) ?_
        repeat (first | go_big_quiet_step (fail) | quiet_step (fail))
        refine wpQuiet_nil ?_
        intro _ hw'
        obtain ⟨⟨dq, osq⟩, hw''⟩ := hw'
        subst hw''
        clear k0 k1 k2 k3 k4 k5 k6 k7 k8 j0 j1 j2 j3 j4 j5 j6 j7 j8
        go_wp2_with fail
        go_roundw
        case rel => exact ⟨k + 1, by omega, by go_num, Lib.hid (HK8.out.trans (Kept.regrown _ _ _))⟩
        case measure => simp [intOf]; omega
      · have E : Hid (decide ((k : Int) ∈ ps) = true) := decide_eq_true (M1.out.2 hp)
        rw [E.out]
        by_cases hc : t.pc < 12
        case neg =>
          clear hp
          go_wp2_with fail
          go_roundw
          case rel => exact ⟨k + 1, by omega, by go_num, HK8⟩
          case measure => simp [intOf]; omega
        have q := M3.out hp hc
        rw [q.1] at d2
        rw [q.2.1] at d6
        have ER : Hid (decide ((k : Int) ∈ rs) = true) := decide_eq_true q.2.2
        clear q hp
        go_wp2_with fail
        with_reducible refine (hasL_any rs k _ w8 (R7.out.up HK8.out)).mono ?_
        rintro e w9 ⟨rfl, hk9⟩
        have HK9 := Lib.hid (HK8.out.trans hk9)
        rw [ER.out]
        clear hk9 c0 c1 c2 c3 c4 c5 c6 c7 c8 d0 d1 d2 d3 d4 d5 d6 d7 d8
        go_wp2_with fail
        go_roundw
        case rel => exact ⟨k + 1, by omega, by go_num, HK9⟩
        case measure => simp [intOf]; omega
    · go_wp2_with fail
      go_ret
      exact ⟨rfl, K7.out.trans HK.out⟩
end Go.Proofs.Ytfpnpjpcjbndoaa
