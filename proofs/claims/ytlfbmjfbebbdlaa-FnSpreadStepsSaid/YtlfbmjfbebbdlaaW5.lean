/- The law FnSpreadSteps returns true for every code of at most 4096 bytes; no condition beyond that the code can be read. -/
import Derived.Test.YtlfbmjfbebbdlaaW4
import Derived.Test.YtlfbmjfbebbdlaaWt
import Derived.Test.YtlfbmjfbebbdlaaWi
import Derived.BigQuiet
namespace Go.Proofs.Ytlfbmjfbebbdlaa
open Go.RowKit Go.Sort

/-- What a draw of a tree and any spread leaves, from a code. -/
def DrawnTS0 (w : World) (e : Ending) (w' : World) : Prop :=
  ∃ (D : Option Addr) (d : Nat) (t : List Nd) (D1 : Option Addr) (d1 : Nat) (D2 : Option Addr) (d2 : Nat) (s : Spr), e = .returned (.tuple #[.slice D t.length d, .agg #[.slice D1 s.told.length d1, .slice D2 s.work.length d2]]) ∧
    t.length ≤ 60 ∧ s.told.length ≤ 61 ∧ s.work.length ≤ 241 ∧ OwnNd w' w.heap.size w'.heap.size (.slice D t.length d) t ∧ OwnS w' w.heap.size w'.heap.size (.agg #[.slice D1 s.told.length d1, .slice D2 s.work.length d2]) s ∧ Kept 0 0 w w'
theorem results_dss (tmps : Array Value) (w : World) (r : Nat) (v v0 v1 : Value) (hv : tmps[2]?.getD undef = v) (hp : tmps[3]?.getD undef = .pointer (some ⟨r, 0, none⟩)) (h : Blk w r 31 #[v0, v1]) :
    (results Try.f16 tmps).run Try.prog w = .ok (.tuple #[v, .agg #[v0, v1]]) w := by
  have h0 := bs0 h
  have h1 := bs1 h
  simp [results, Try.results16, hv, hp, go_sem, h0, h1]
set_option maxHeartbeats 3200000 in
theorem drawStep7_any (xs : List Int) (A : Option Addr) (c : Nat) (w : World) (h : Rd (Value.int .u8) w w.heap.size A xs) (hx : ∀ x ∈ xs, 0 ≤ x ∧ x ≤ 255) (hl : xs.length ≤ 4096) :
    Calls Try.prog 16 #[.slice A xs.length c] w (DrawnTS0 w) := by
  have HX := Lib.hid hx
  obtain ⟨W, hW⟩ : ∃ W, W = w.alloc (.cells #[.slice none 0 0, .slice none 0 0] 31) := ⟨_, rfl⟩
  have KW : Hid (Kept 0 0 w W) := by show Kept _ _ _ _; rw [hW]; exact Kept.alloc0 _ _
  have RW : Hid (Blk W w.heap.size 31 #[.slice none 0 0, .slice none 0 0]) := by show Blk _ _ _ _; rw [hW]; exact Blk.new _ _ _
  have zW : w.heap.size < W.heap.size := by rw [hW]; simp
  have H := Lib.hid ((h.kept (Nat.le_refl _) KW.out (.inl (Nat.le_refl _))).wide KW.out.size)
  have HW := Lib.hid hW
  clear h hx hW
  go_enter Try.func16, Try.ntmps16
  go_upto_region 1 with fail
  rw [← HW.out]
  go_wp2_with fail
  with_reducible refine (new_any _ _ _ _ H.out HX.out hl).mono ?_
  rintro e w1 ⟨rfl, hc, hk⟩
  have C1 := Lib.hid hc
  have K1 := Lib.hid (KW.out.trans hk)
  have R1 := Lib.hid (RW.out.kept hk (.inl (Nat.le_refl _)))
  have z1 := hk.size
  have g1 := hc.lt
  clear hc hk HW KW RW
  go_wp2_with fail
  with_reducible refine (drawAny7_any _ _ _ _ _ C1.out).mono ?_
  rintro e w2 ⟨D, d, t, D1, d1, D2, d2, s, rfl, tl, tn, wn, ht, ⟨_, _, e0, ⟨E1, x1, e1, o1⟩, ⟨E2, x2, e2, o2⟩⟩, -, hk⟩
  injection e0 with e0
  injection e0 with e0
  injection e0 with ea e0
  injection e0 with eb
  rw [← ea] at e1
  rw [← eb] at e2
  injection e1 with f1 _ f2
  injection e2 with f3 _ f4
  subst f1 f2 f3 f4
  have R2 := Lib.hid (R1.out.kept hk (.inr (.inl zW)))
  have K2 := Lib.hid (K1.out.trans2 hk (.inr (Nat.le_of_lt zW)))
  have z2 := hk.size
  have OA := Lib.hid o1
  have OB := Lib.hid o2
  have OT := Lib.hid ht
  clear hk o1 o2 ht R1 K1 C1 ea eb
  have r0 := bs0 R2.out
  have r1 := bs1 R2.out
  have f0 := R2.out.frozen 0
  have f1 := R2.out.frozen 1
  go_wp2_with fail
  have kx := kept_set2 w2 w.heap.size (.slice D1 s.told.length d1) (.slice D2 s.work.length d2)
  have zx := kx.size
  exact bodyPost_ret (results_dss _ _ w.heap.size (.slice D t.length d) _ _ rfl rfl (blk_set2 R2.out _ _)) rfl ⟨D, d, t, D1, d1, D2, d2, s, rfl, tl, tn, wn, (OT.out.kept kx (.inr (.inr (by omega)))).wide (by omega) zx, ⟨_, _, rfl, ⟨D1, d1, rfl, (OA.out.kept kx (.inr (.inr (by omega)))).wide (by omega) zx⟩, ⟨D2, d2, rfl, (OB.out.kept kx (.inr (.inr (by omega)))).wide (by omega) zx⟩⟩, K2.out.trans2 kx (.inr (Nat.le_refl _))⟩

/-- What is known of the spread behind k steps. -/
def Going (t : List Nd) (q : Spr) (k : Nat) : Prop := (spreadB t q = true → pot t q + k ≤ 300 ∨ (q.work ≠ [] ∧ (stepP t q).1 = q)) ∧ (1 ≤ k → spreadB t q = true)
theorem Going.start (t : List Nd) (q : Spr) : Going t q 0 := ⟨fun h => .inl (by have := pot_le (spreadB_true.1 h); omega), fun h => by omega⟩
theorem Going.next {t : List Nd} {q : Spr} {k : Nat} (h : Going t q k) (ho : spreadB t q = true) (hw : q.work ≠ []) : Going t (stepS t q) (k + 1) := by
  have o := spreadB_true.1 ho
  have e : stepS t q = (stepP t q).1 := by simp [stepS, ho]
  rw [e]
  refine ⟨fun _ => ?_, fun _ => spreadB_true.2 o.step⟩
  rcases h.1 ho with h1 | ⟨h1, h2⟩
  · rcases pot_step o hw with h3 | h3
    · rw [h3]; exact .inr ⟨hw, h3⟩
    · exact .inl (by omega)
  · rw [h2]; exact .inr ⟨h1, h2⟩
theorem Going.last {t : List Nd} {q : Spr} (h : Going t q 400) : q.work ≠ [] := by
  rcases h.1 (h.2 (by omega)) with h1 | h1
  · omega
  · exact h1.1
theorem stepS_zero {t : List Nd} {q : Spr} (h : spreadB t q = false) : (stepS t q).told.length = 0 := by simp [stepS, h, sprZ]
theorem stepS_told {t : List Nd} {q : Spr} (h : spreadB t q = true) : (stepS t q).told.length = t.length ∧ ∀ m (h1 : m < q.told.length) (h2 : m < (stepS t q).told.length), (stepS t q).told[m] = (q.told[m] || decide ((m : Int) = stepI t q)) ∧ (decide ((m : Int) = stepI t q) && q.told[m]) = false := by
  have o := spreadB_true.1 h
  have e1 : stepS t q = (stepP t q).1 := by simp [stepS, h]
  have e2 : stepI t q = (stepP t q).2 := by simp [stepI, h]
  rw [e1, e2]
  exact step_tells o
theorem stepS_empty {t : List Nd} {q : Spr} (h : spreadB t q = true) (hw : q.work = []) : (stepS t q).work = [] := by
  have e1 : stepS t q = (stepP t q).1 := by simp [stepS, h]
  rw [e1]; exact step_empty hw

set_option maxHeartbeats 12800000 in
set_option maxRecDepth 100000 in
theorem lawSprSteps_small (xs : List Int) (A : Option Addr) (c : Nat) (w : World) (h : Rd (Value.int .u8) w w.heap.size A xs) (hx : ∀ x ∈ xs, 0 ≤ x ∧ x ≤ 255) (hl : xs.length ≤ 4096) :
    Calls Try.prog 4 #[.slice A xs.length c] w fun e w' => e = .returned (.bool true) ∧ Kept 0 0 w w' := by
  have hm := h.1
  have hbig : decide (4096 < xs.length) = false := by simpa using hl
  have H := Lib.hid h
  have HX := Lib.hid hx
  clear h hx
  go_enter Try.func4, Try.ntmps4
  go_wp2_with fail
  with_reducible refine (big_any _ _ _ _ hm).mono ?_
  rintro e w' ⟨rfl, rfl⟩
  rw [hbig]
  clear hbig
  go_wp2_with fail
  with_reducible refine (drawStep7_any _ _ _ _ H.out HX.out hl).mono ?_
  rintro e w1 ⟨D, d, t, D1, d1, D2, d2, s, rfl, tl, tn, wn, ht, hs, hk⟩
  obtain ⟨b, hb⟩ : ∃ b, b = w1.heap.size := ⟨_, rfl⟩
  obtain ⟨V, hV⟩ : ∃ V, V = w1.alloc (.cells #[.slice D1 s.told.length d1, .slice D2 s.work.length d2] 31) := ⟨_, rfl⟩
  have kV : Kept 0 0 w1 V := by rw [hV]; exact Kept.alloc0 _ _
  have zV := kV.size
  have z1 := hk.size
  have BV : Hid (Blk V b 31 #[.slice D1 s.told.length d1, .slice D2 s.work.length d2]) := by show Blk _ _ _ _; rw [hV, hb]; exact Blk.new _ _ _
  have SV := Lib.hid ((hs.kept kV (.inl (Nat.le_refl _))).wide (Nat.le_refl _) zV)
  have TV := Lib.hid (ht.kept kV (.inl (Nat.le_refl _)))
  have KV := Lib.hid (hk.trans kV)
  have hbw : w.heap.size ≤ b := by omega
  have hb1 : w1.heap.size ≤ b := by omega
  have HV := Lib.hid hV
  have HB := Lib.hid hb
  clear hV hb kV hs ht hk H HX hm hl
  go_upto_region 4 with fail
  rw [← HV.out, ← HB.out]
  clear HV HB
  go_wp2_with fail
  go_loopw [5] (fun i wr => ∃ (k : Nat) (q : Spr) (D1 D2 : Option Addr) (d1 d2 : Nat), k ≤ 400 ∧ i = .int .i64 k ∧ Hid (Going t q k) ∧ Hid (Blk wr b 31 #[.slice D1 q.told.length d1, .slice D2 q.work.length d2]) ∧ Hid (OwnS wr w.heap.size wr.heap.size (.agg #[.slice D1 q.told.length d1, .slice D2 q.work.length d2]) q) ∧ Hid (OwnNd wr w.heap.size w1.heap.size (.slice D t.length d) t) ∧ Hid (Kept 0 0 w wr) ∧ V.heap.size ≤ wr.heap.size) (fun i _ => 400 - (intOf i).toNat)
  case atStart => exact ⟨0, s, D1, D2, d1, d2, by omega, rfl, Lib.hid (Going.start t s), BV, SV, TV, KV, Nat.le_refl _⟩
  case round =>
    clear BV SV TV KV
    obtain ⟨k, q, E1, E2, e1, e2, hk, rfl, HG, BR, SR, TR, KR, zr⟩ := hrel
    have b0 := bs0 BR.out
    have b1 := bs1 BR.out
    by_cases hlt : k < 400
    · have i1 : (k : Int) < 400 := by omega
      have CS := Lib.hid (implStep t q (.slice D t.length d) _ wr (TR.out.rdW (by omega)) (SR.out.rdW (Nat.le_refl _)))
      obtain ⟨X, hX⟩ : ∃ X, X = stepS t q := ⟨_, rfl⟩
      obtain ⟨i, hi⟩ : ∃ i, i = stepI t q := ⟨_, rfl⟩
      rw [← hX, ← hi] at CS
      have EX := Lib.hid hX
      have EI := Lib.hid hi
      clear hX hi
      go_upto_region 7 with fail
      go_wp2_with fail
      with_reducible refine CS.out.mono ?_
      rintro e w3 ⟨_, rfl, ⟨_, _, rfl, ⟨DX, dX, rfl, ox⟩, ⟨DY, dY, rfl, oy⟩⟩, hk⟩
      obtain ⟨b6, hb6⟩ : ∃ b6, b6 = w3.heap.size := ⟨_, rfl⟩
      obtain ⟨V3, hV3⟩ : ∃ V3, V3 = w3.alloc (.cells #[.slice DX X.told.length dX, .slice DY X.work.length dY] 31) := ⟨_, rfl⟩
      have k3 : Kept 0 0 wr V3 := by rw [hV3]; exact hk.alloc _
      have kA : Kept 0 0 w3 V3 := by rw [hV3]; exact Kept.alloc0 _ _
      have zA := kA.size
      have z3 := hk.size
      have B6 : Hid (Blk V3 b6 31 #[.slice DX X.told.length dX, .slice DY X.work.length dY]) := by show Blk _ _ _ _; rw [hV3, hb6]; exact Blk.new _ _ _
      have OX := Lib.hid ((ox.kept kA (.inl (Nat.le_refl _))).wide (lo' := wr.heap.size) (hi' := V3.heap.size) (Nat.le_refl _) zA)
      have OY := Lib.hid ((oy.kept kA (.inl (Nat.le_refl _))).wide (lo' := wr.heap.size) (hi' := V3.heap.size) (Nat.le_refl _) zA)
      have K3 := Lib.hid k3
      have HV3 := Lib.hid hV3
      have HB6 := Lib.hid hb6
      have hb6b : b < b6 := by have := BR.out.lt; omega
      have hb6w : wr.heap.size ≤ b6 := by omega
      have y6 := B6.out.lt
      have B3 := Lib.hid (BR.out.kept k3 (.inl (Nat.le_refl _)))
      have CS2 := Lib.hid (step7_any t q (.slice D t.length d) _ V3 ((TR.out.kept k3 (.inl (Nat.le_refl _))).rdW (by omega)) ((SR.out.kept k3 (.inl (Nat.le_refl _))).rdW (by omega)))
      rw [← EI.out] at CS2
      have q9 : (i != i) = false := by simp
      clear hV3 hb6 k3 kA ox oy hk CS b0 b1
      go_upto_region 8 with fail
      rw [← HV3.out, ← HB6.out]
      have b0 := bs0 B3.out
      have b1 := bs1 B3.out
      clear HV3 HB6
      go_wp2_with fail
      with_reducible refine CS2.out.mono ?_
      rintro e w5 ⟨_, rfl, ⟨_, _, rfl, ⟨DU, dU, rfl, ou⟩, ⟨DW, dW, rfl, ow⟩⟩, hk⟩
      have K5 := Lib.hid (K3.out.trans hk)
      obtain ⟨V5, hV5⟩ : ∃ V5, V5 = w5.alloc (.cells #[.slice DU (stepS t q).told.length dU, .slice DW (stepS t q).work.length dW] 31) := ⟨_, rfl⟩
      have k5 : Kept 0 0 V3 V5 := by rw [hV5]; exact hk.alloc _
      have HV5 := Lib.hid hV5
      have z5 := k5.size
      have B5 := Lib.hid (B3.out.kept k5 (.inl (Nat.le_refl _)))
      have X5 := Lib.hid (B6.out.kept k5 (.inl (Nat.le_refl _)))
      have OX5 := Lib.hid (OX.out.kept k5 (.inl (Nat.le_refl _)))
      have OY5 := Lib.hid (OY.out.kept k5 (.inl (Nat.le_refl _)))
      have K6 := Lib.hid (K3.out.trans k5)
      have CO := Lib.hid (ok7_any t q (.slice D t.length d) _ V5 ((TR.out.kept K6.out (.inl (Nat.le_refl _))).rdW (by omega)) ((SR.out.kept K6.out (.inl (Nat.le_refl _))).rdW (by omega)))
      clear hV5 k5 ou ow hk CS2 b0 b1 B3 B6 OX OY K3 K5
      go_upto_region 9 with fail
      rw [← HV5.out]
      have b0 := bs0 B5.out
      have b1 := bs1 B5.out
      clear HV5
      go_wp2_with fail
      with_reducible refine CO.out.mono ?_
      rintro e w6 ⟨rfl, hk⟩
      have B7 := Lib.hid (B5.out.kept hk (.inl (Nat.le_refl _)))
      have X7 := Lib.hid (X5.out.kept hk (.inl (Nat.le_refl _)))
      have OX7 := Lib.hid (OX5.out.kept hk (.inl (Nat.le_refl _)))
      have OY7 := Lib.hid (OY5.out.kept hk (.inl (Nat.le_refl _)))
      have K7 := Lib.hid (K6.out.trans hk)
      have z7 := hk.size
      clear hk CO b0 b1 B5 X5 OX5 OY5 K6
      have x0 := bs0 X7.out
      cases q1 : spreadB t q
      · have EZ : Hid (X.told.length = 0) := by show _ = _; rw [EX.out]; exact stepS_zero q1
        have g0 : ((X.told.length : Int) == 0) = true := by rw [EZ.out]; rfl
        clear q1
        go_wp2
        go_ret
        exact ⟨rfl, KR.out.trans K7.out⟩
      have Q1 := Lib.hid q1
      have ET : Hid (X.told.length = t.length ∧ ∀ m (h1 : m < q.told.length) (h2 : m < X.told.length), X.told[m] = (q.told[m] || decide ((m : Int) = i)) ∧ (decide ((m : Int) = i) && q.told[m]) = false) := by
        have h := stepS_told q1
        rw [← EX.out, ← EI.out] at h
        exact h
      have EQ : Hid (q.told.length = t.length) := (spreadB_true.1 q1).told
      have g1 : ((X.told.length : Int) != (t.length : Int)) = false := by rw [ET.out.1]; simp
      clear q1
      go_wp2_with fail
      clear x0
      go_loopw [10] (fun j wx => ∃ m : Nat, m ≤ t.length ∧ j = .int .i64 m ∧ Hid (Kept 0 0 w6 wx)) (fun j _ => t.length - (intOf j).toNat)
      case atStart => exact ⟨0, Nat.zero_le _, rfl, Lib.hid (Kept.refl _ _ _)⟩
      case round =>
        obtain ⟨m, hm, rfl, HK⟩ := hrel
        have BM := Lib.hid (B7.out.kept HK.out (.inl (Nat.le_refl _)))
        have XM := Lib.hid (X7.out.kept HK.out (.inl (Nat.le_refl _)))
        have KM := Lib.hid (K7.out.trans HK.out)
        have zm := HK.out.size
        by_cases hmt : m < t.length
        · have j1 : (m : Int) < (t.length : Int) := by omega
          have hmq : m < q.told.length := by rw [EQ.out]; exact hmt
          have hmX : m < X.told.length := by rw [ET.out.1]; exact hmt
          have j2 : (m : Int) < (q.told.length : Int) := by omega
          have j3 : (m : Int) < (X.told.length : Int) := by omega
          have j0 : (0 : Int) ≤ (m : Int) := by omega
          have SM := SR.out.kept KM.out (.inl (Nat.le_refl _))
          obtain ⟨x1, rfl, hx1⟩ : ∃ x1, DX = some ⟨x1, 0, none⟩ ∧ x1 < w6.heap.size := by
            rcases OX7.out.form with ⟨_, h0, _⟩ | ⟨x1, h1, _, _, h2⟩
            · exfalso; omega
            · exact ⟨x1, h1, h2⟩
          have cX : wr.cell? ⟨x1, m, none⟩ = some (.bool X.told[m]) := by
            have := own_at (R := bR) (OX7.out.kept HK.out (.inl (Nat.le_refl _))).1 hmX 0 (u := .bool X.told[m]) rfl
            rwa [bR_k, Nat.mul_one, Nat.add_zero] at this
          obtain ⟨ad, rfl, cQ⟩ : ∃ ad, E1 = some ad ∧ wr.cell? (ad.add m) = some (.bool q.told[m]) := by
            obtain ⟨_, _, e0, ⟨F1, y1, ey1, o1⟩, _⟩ := SM
            injection e0 with e0
            injection e0 with e0
            injection e0 with ea _
            rw [← ea] at ey1
            injection ey1 with f1 _ _
            subst f1
            obtain ⟨ad, h1, _, h2⟩ := (OwnZ.rd (R := bR) o1).2.b hmq
            exact ⟨ad, h1, h2⟩
          have x0 := bs0 XM.out
          have b0 := bs0 BM.out
          have hT := ET.out.2 m hmq hmX
          obtain ⟨bx, hbx⟩ : ∃ bx, bx = X.told[m] := ⟨_, rfl⟩
          obtain ⟨bq, hbq⟩ : ∃ bq, bq = q.told[m] := ⟨_, rfl⟩
          rw [← hbx] at cX
          rw [← hbq] at cQ
          rw [← hbx, ← hbq] at hT
          clear hbx hbq SM
          by_cases hmi : (m : Int) = i
          · have gm : ((m : Int) == i) = true := by simpa using hmi
            rw [decide_eq_true hmi] at hT
            obtain ⟨hT1, hT2⟩ := hT
            have e2 : bq = false := by simpa using hT2
            have e1 : bx = true := by rw [hT1, e2]; rfl
            subst e1 e2
            clear hT1 hT2 hmi
            go_upto_region 18 with fail
            go_quiet (fail)
            clear cX cQ x0 b0
            go_wp2_with fail
            go_roundw
            case rel => exact ⟨m + 1, by omega, by go_num, Lib.hid (HK.out.drewN _)⟩
            case measure => simp [intOf]; omega
          · have gm : ((m : Int) == i) = false := by simpa using hmi
            rw [decide_eq_false hmi] at hT
            have e1 : bx = bq := by rw [hT.1]; simp
            subst e1
            clear hT hmi
            cases bx with
            | true =>
              go_upto_region 18 with fail
              go_quiet (fail)
              clear cX cQ x0 b0
              go_wp2_with fail
              go_roundw
              case rel => exact ⟨m + 1, by omega, by go_num, Lib.hid (HK.out.drewN _)⟩
              case measure => simp [intOf]; omega
            | false =>
              go_upto_region 18 with fail
              go_quiet (fail)
              clear cX cQ x0 b0
              go_wp2_with fail
              go_roundw
              case rel => exact ⟨m + 1, by omega, by go_num, Lib.hid (HK.out.drewN _)⟩
              case measure => simp [intOf]; omega
        · have j1 : ¬ (m : Int) < (t.length : Int) := by omega
          have b1 := bs1 BM.out
          have x1 := bs1 XM.out
          by_cases hw : q.work = []
          · have g2 : ((q.work.length : Int) == 0) = true := by rw [hw]; rfl
            have EW : Hid (X.work = []) := by show _ = _; rw [EX.out]; exact stepS_empty Q1.out hw
            have g3 : ((X.work.length : Int) == 0) = true := by rw [EW.out]; rfl
            clear hw
            go_wp2
            go_ret
            exact ⟨rfl, KR.out.trans KM.out⟩
          · have g2 : ((q.work.length : Int) == 0) = false := by
              have : q.work.length ≠ 0 := fun h => hw (List.eq_nil_of_length_eq_zero h)
              simp; omega
            have HGN : Hid (Going t X (k + 1)) := by rw [EX.out]; exact HG.out.next Q1.out hw
            clear hw
            have x0 := bs0 XM.out
            have b0 := bs0 BM.out
            have f0 := BM.out.frozen 0
            have f1 := BM.out.frozen 1
            obtain ⟨F, hF⟩ : ∃ F, F = (wr.setCell ⟨b, 0, none⟩ (.slice DX X.told.length dX)).setCell ⟨b, 1, none⟩ (.slice DY X.work.length dY) := ⟨_, rfl⟩
            have kF : Kept b (b + 1) wr F := by rw [hF]; exact kept_set2 _ _ _ _
            have zF := kF.size
            have zw := KR.out.size
            have BF : Hid (Blk F b 31 #[.slice DX X.told.length dX, .slice DY X.work.length dY]) := by show Blk _ _ _ _; rw [hF]; exact blk_set2 BM.out _ _
            have SF : Hid (OwnS F w.heap.size F.heap.size (.agg #[.slice DX X.told.length dX, .slice DY X.work.length dY]) X) := ⟨_, _, rfl, ⟨DX, dX, rfl, ((OX7.out.kept HK.out (.inl (Nat.le_refl _))).off BM.out (by decide) kF).wide zw (by omega)⟩, ⟨DY, dY, rfl, ((OY7.out.kept HK.out (.inl (Nat.le_refl _))).off BM.out (by decide) kF).wide zw (by omega)⟩⟩
            have TF := Lib.hid ((TR.out.kept KM.out (.inl (Nat.le_refl _))).kept kF (.inr (.inl hb1)))
            have KF := Lib.hid ((KR.out.trans KM.out).trans2 kF (.inr hbw))
            have zz : V.heap.size ≤ F.heap.size := by omega
            have HF := Lib.hid hF
            clear hF kF
            go_upto_region 22 with fail
            go_upto_region 6 with fail
            rw [← HF.out]
            clear x0 x1 b0 b1 f0 f1 HF
            go_wp2_with fail
            go_roundw
            case rel => exact ⟨k + 1, X, DX, DY, dX, dY, by omega, by go_num, HGN, BF, SF, TF, KF, zz⟩
            case measure => simp [intOf]; omega
    · have hk4 : k = 400 := by omega
      have HW : Hid (q.work ≠ []) := by subst hk4; exact HG.out.last
      have g0 : decide (0 < q.work.length) = true := by
        have : q.work.length ≠ 0 := fun h => HW.out (List.eq_nil_of_length_eq_zero h)
        simp; omega
      have i1 : ¬ (k : Int) < 400 := by omega
      clear hk4
      go_wp2
      go_ret
      exact ⟨rfl, KR.out⟩
end Go.Proofs.Ytlfbmjfbebbdlaa
