/- The reference's SpreadAll; no condition beyond that the slices can be read. -/
import Derived.Test.YtlfbmjfbebbdlaaWf
import Derived.Deep.LoopGhost
import Derived.Deep.CutBlock
namespace Go.Proofs.Ytlfbmjfbebbdlaa
open Go.RowKit Go.Sort

theorem results_all7 (tmps : Array Value) (w : World) (r : Nat) (v0 v1 : Value) (hp : tmps[4]?.getD undef = .pointer (some ⟨r, 0, none⟩)) (h : Blk w r 31 #[v0, v1]) :
    (results Try.f31 tmps).run Try.prog w = .ok (.agg #[v0, v1]) w := by
  have h0 := bs0 h
  have h1 := bs1 h
  simp [results, Try.results31, hp, go_sem, h0, h1]
theorem step_keep {t : List Nd} {s : Spr} (o : SprP t s) : SprP t (stepS t s) ∧ (s.work ≠ [] → stuckB t s = false → allP t s = allP t (stepS t s) ∧ meas (stepS t s) < meas s) := by
  have e : stepS t s = (stepP t s).1 := by simp [stepS, spreadB_true.2 o]
  rw [e]
  exact ⟨o.step, fun h1 h2 => ⟨all_step h1 h2, meas_lt h1 h2⟩⟩

set_option maxHeartbeats 6400000 in
set_option maxRecDepth 100000 in
theorem all7_any (t : List Nd) (s : Spr) (v u : Value) (w : World) (h : RdNd w w.heap.size v t) (h' : RdS w w.heap.size u s) :
    Calls Try.prog 31 #[v, u] w fun e w' => ∃ z, e = .returned z ∧ OwnS w' w.heap.size w'.heap.size z (allS t s) ∧ Kept 0 0 w w' := by
  have HT := Lib.hid h
  have HS := Lib.hid h'
  obtain ⟨A, c, rfl, h⟩ := h
  have hm := h.rd.1
  unfold maxLen at hm
  clear h
  obtain ⟨hv, lv, rfl, ⟨A1, c1, rfl, s1⟩, ⟨A2, c2, rfl, s2⟩⟩ := h'
  clear s1 s2
  obtain ⟨W, hW⟩ : ∃ W, W = (w.alloc (.cells #[.slice A1 s.told.length c1, .slice A2 s.work.length c2] 31)).alloc (.cells #[.slice none 0 0, .slice none 0 0] 31) := ⟨_, rfl⟩
  have KW : Hid (Kept 0 0 w W) := by show Kept _ _ _ _; rw [hW]; exact (Kept.alloc0 _ _).alloc _
  have B0 : Hid (Blk W w.heap.size 31 #[.slice A1 s.told.length c1, .slice A2 s.work.length c2]) := by show Blk _ _ _ _; rw [hW]; exact (Blk.new _ _ _).alloc _
  have R0 : Hid (Blk W (w.heap.size + 1) 31 #[.slice none 0 0, .slice none 0 0]) := by
    show Blk _ _ _ _
    rw [hW]
    have := Blk.new (w.alloc (.cells #[.slice A1 s.told.length c1, .slice A2 s.work.length c2] 31)) 31 #[.slice none 0 0, .slice none 0 0]
    simpa using this
  have CO := Lib.hid (ok7_any t s _ _ W (HT.out.up KW.out) (HS.out.up KW.out))
  have HW := Lib.hid hW
  have zW : w.heap.size + 2 ≤ W.heap.size := by rw [hW]; simp
  clear hW
  have HI := Lib.hid iSlice
  go_enter Try.func31, Try.ntmps31
  go_wp2_with fail
  rw [← HW.out]
  with_reducible refine CO.out.mono ?_
  rintro e w1 ⟨rfl, hk⟩
  have K1 := Lib.hid (KW.out.trans hk)
  have B1 := Lib.hid (B0.out.kept hk (.inl (Nat.le_refl _)))
  have R1 := Lib.hid (R0.out.kept hk (.inl (Nat.le_refl _)))
  have z1 : w.heap.size + 2 ≤ w1.heap.size := Nat.le_trans zW hk.size
  clear hk CO KW B0 HW R0 zW
  cases q1 : spreadB t s
  · have E2 : Hid (allS t s = sprZ) := by show _ = _; simp [allS, q1]
    have r0 := bs0 R1.out
    have r1 := bs1 R1.out
    have f0 := R1.out.frozen 0
    have f1 := R1.out.frozen 1
    clear q1
    go_wp2_with fail
    have R := Lib.hid (blk_set2 R1.out (.slice none 0 0) (.slice none 0 0))
    have KR := Lib.hid (K1.out.trans2 (kept_set2 _ (w.heap.size + 1) (.slice none 0 0) (.slice none 0 0)) (.inr (by omega)))
    rw [E2.out]
    exact bodyPost_ret (results_all7 _ _ (w.heap.size + 1) _ _ rfl R.out) rfl ⟨_, rfl, OwnS.nil _ _ _, KR.out⟩
  have Q1 := Lib.hid q1
  have HP := Lib.hid (spreadB_true.1 q1)
  clear q1
  have n1 : s.told.length ≤ 1048576 := by have := HP.out.told; have := HP.out.tree.len; omega
  have n2 : s.work.length ≤ 240 := HP.out.cap
  have b0 := bs0 B1.out
  have b1 := bs1 B1.out
  go_wp2_with fail
  with_reducible refine (copy7_any s _ w1 (HS.out.up K1.out) n1 (by omega)).mono ?_
  rintro e w2 ⟨u2, rfl, ⟨_, _, rfl, ⟨D1, d1, rfl, o1⟩, ⟨D2, d2, rfl, o2⟩⟩, hk⟩
  have O1 := Lib.hid o1
  have O2 := Lib.hid o2
  have K2 := Lib.hid (K1.out.trans hk)
  have B2 := Lib.hid (B1.out.kept hk (.inl (Nat.le_refl _)))
  have R2 := Lib.hid (R1.out.kept hk (.inl (Nat.le_refl _)))
  have z2 := hk.size
  clear hk o1 o2 b0 b1 B1 R1 K1
  obtain ⟨V, hV⟩ : ∃ V, V = w2.alloc (.cells #[.slice D1 s.told.length d1, .slice D2 s.work.length d2] 31) := ⟨_, rfl⟩
  have KV : Hid (Kept 0 0 w2 V) := by show Kept _ _ _ _; rw [hV]; exact Kept.alloc0 _ _
  have C3 : Hid (Blk V w2.heap.size 31 #[.slice D1 s.told.length d1, .slice D2 s.work.length d2]) := by show Blk _ _ _ _; rw [hV]; exact Blk.new _ _ _
  have B3 := Lib.hid (B2.out.kept KV.out (.inl (Nat.le_refl _)))
  have R3 := Lib.hid (R2.out.kept KV.out (.inl (Nat.le_refl _)))
  have P1 := Lib.hid (O1.out.kept KV.out (.inl (Nat.le_refl _)))
  have P2 := Lib.hid (O2.out.kept KV.out (.inl (Nat.le_refl _)))
  have K3 := Lib.hid (K2.out.trans KV.out)
  have y3 := C3.out.lt
  have HV := Lib.hid hV
  clear hV
  have E2 : Hid (allS t s = allP t s) := by show _ = _; simp [allS, Q1.out]
  go_upto_block 0 with fail
  rw [← HV.out]
  clear HV O1 O2 B2 R2 K2 KV B3
  go_wp2_with fail
  go_loopg [7] (meas s + 1) (fun k v7 wr => ∃ (q : Spr) (D1 D2 : Option Addr) (d1 d2 : Nat), Hid (SprP t q ∧ allP t q = allP t s ∧ meas q < k) ∧ Hid (Blk wr w2.heap.size 31 #[.slice D1 q.told.length d1, .slice D2 q.work.length d2]) ∧ Hid (Blk wr (w.heap.size + 1) 31 #[.slice none 0 0, .slice none 0 0]) ∧ Hid (OwnZ wr w1.heap.size wr.heap.size 4 1 D1 q.told.length d1 (bR.flat q.told)) ∧ Hid (OwnZ wr w1.heap.size wr.heap.size 2 1 D2 q.work.length d2 (iR.flat q.work)) ∧ Hid (Kept 0 0 w wr) ∧ V.heap.size ≤ wr.heap.size)
  case atStart => exact ⟨s, D1, D2, d1, d2, Lib.hid ⟨HP.out, rfl, Nat.lt_succ_self _⟩, C3, R3, P1.out.wide (Nat.le_refl _) (by omega), P2.out.wide (Nat.le_refl _) (by omega), K3, Nat.le_refl _⟩
  case round =>
    clear C3 R3 P1 P2 K3
    obtain ⟨q, F1, F2, e1, e2, HQ, HC, HR, H1, H2, HK, hz⟩ := hrel
    have b0 := bs0 HC.out
    have b1 := bs1 HC.out
    have m1 : q.work.length ≤ 240 := HQ.out.1.cap
    have CS := Lib.hid (step7_any t q (.slice A t.length c) (.agg #[.slice F1 q.told.length e1, .slice F2 q.work.length e2]) wr (HT.out.up HK.out) ((show OwnS wr w1.heap.size wr.heap.size (.agg #[.slice F1 q.told.length e1, .slice F2 q.work.length e2]) q from ⟨_, _, rfl, ⟨F1, e1, rfl, H1.out⟩, ⟨F2, e2, rfl, H2.out⟩⟩).rdW (Nat.le_refl _)))
    have HSK := Lib.hid (stuck_step HQ.out.1)
    have HKP := Lib.hid (step_keep HQ.out.1)
    obtain ⟨q2, hq2⟩ : ∃ q2, q2 = stepS t q := ⟨_, rfl⟩
    obtain ⟨i, hi⟩ : ∃ i, i = stepI t q := ⟨_, rfl⟩
    rw [← hq2, ← hi] at CS HSK
    rw [← hq2] at HKP
    clear hq2 hi
    have R := HR.out
    have r0 := bs0 R
    have r1 := bs1 R
    have f0 := R.frozen 0
    have f1 := R.frozen 1
    have zr := HK.out.size
    by_cases hw : q.work = []
    · have g : decide (0 < q.work.length) = false := by simp [hw]
      have E3 : Hid (allS t s = q) := by show _ = _; rw [E2.out, ← HQ.out.2.1, all_nil hw]
      clear hw
      go_wp2_with fail
      obtain ⟨R, hO, hK⟩ := fin7 (s := q) HK.out R rfl z1 H1.out H2.out (Nat.le_refl _) (Nat.le_refl _) rfl rfl rfl
      rw [E3.out]
      exact bodyPost_ret (results_all7 _ _ (w.heap.size + 1) _ _ rfl R) rfl ⟨_, rfl, hO, hK⟩
    · have g : decide (0 < q.work.length) = true := by
        have : q.work.length ≠ 0 := fun h => hw (List.eq_nil_of_length_eq_zero h)
        simp; omega
      have HW := Lib.hid hw
      clear hw r0 r1 f0 f1 R
      go_wp2_with fail
      with_reducible refine CS.out.mono ?_
      rintro e w3 ⟨_, rfl, ⟨_, _, rfl, ⟨G1, x1, rfl, o1⟩, ⟨G2, x2, rfl, o2⟩⟩, hk⟩
      obtain ⟨Z, hZ⟩ : ∃ Z, Z = w3.alloc (.cells #[.slice G1 q2.told.length x1, .slice G2 q2.work.length x2] 31) := ⟨_, rfl⟩
      have KZ : Hid (Kept 0 0 w3 Z) := by show Kept _ _ _ _; rw [hZ]; exact Kept.alloc0 _ _
      have X3 : Hid (Blk Z w3.heap.size 31 #[.slice G1 q2.told.length x1, .slice G2 q2.work.length x2]) := by show Blk _ _ _ _; rw [hZ]; exact Blk.new _ _ _
      have kz := Lib.hid (hk.trans KZ.out)
      have C4 := Lib.hid (HC.out.kept kz.out (.inl (Nat.le_refl _)))
      have R4 := Lib.hid (HR.out.kept kz.out (.inl (Nat.le_refl _)))
      have K4 := Lib.hid (HK.out.trans kz.out)
      have zz := kz.out.size
      have J1 := Lib.hid ((o1.kept KZ.out (.inl (Nat.le_refl _))).wide (lo' := w1.heap.size) (hi' := Z.heap.size) (by omega) KZ.out.size)
      have J2 := Lib.hid ((o2.kept KZ.out (.inl (Nat.le_refl _))).wide (lo' := w1.heap.size) (hi' := Z.heap.size) (by omega) KZ.out.size)
      have T1 := Lib.hid ((H1.out.kept kz.out (.inl (Nat.le_refl _))).wide (Nat.le_refl _) zz)
      have T2 := Lib.hid ((H2.out.kept kz.out (.inl (Nat.le_refl _))).wide (Nat.le_refl _) zz)
      have c0 := bs0 C4.out
      have c1' := bs1 C4.out
      have y0 := bs0 X3.out
      have y1 := bs1 X3.out
      have HZ := Lib.hid hZ
      clear hZ o1 o2 hk b0 b1 CS HC HR HK H1 H2 KZ
      go_upto_region 6 with fail
      rw [← HZ.out]
      have fc0 := C4.out.frozen 0
      have fc1 := C4.out.frozen 1
      have next : ∀ X : World, X = (Z.setCell ⟨w2.heap.size, 0, none⟩ (.slice G1 q2.told.length x1)).setCell ⟨w2.heap.size, 1, none⟩ (.slice G2 q2.work.length x2) → stuckB t q = false →
          ∃ (q' : Spr) (D1 D2 : Option Addr) (d1 d2 : Nat), (.slice G1 q2.told.length x1 : Value) = .slice D1 q'.told.length d1 ∧ Hid (SprP t q' ∧ allP t q' = allP t s ∧ meas q' < meas q) ∧ Hid (Blk X w2.heap.size 31 #[.slice D1 q'.told.length d1, .slice D2 q'.work.length d2]) ∧ Hid (Blk X (w.heap.size + 1) 31 #[.slice none 0 0, .slice none 0 0]) ∧ Hid (OwnZ X w1.heap.size X.heap.size 4 1 D1 q'.told.length d1 (bR.flat q'.told)) ∧ Hid (OwnZ X w1.heap.size X.heap.size 2 1 D2 q'.work.length d2 (iR.flat q'.work)) ∧ Hid (Kept 0 0 w X) ∧ V.heap.size ≤ X.heap.size := by
        intro X hX hst
        have kx := kept_set2 Z w2.heap.size (.slice G1 q2.told.length x1) (.slice G2 q2.work.length x2)
        rw [← hX] at kx
        have zx := kx.size
        obtain ⟨ha, hm⟩ := HKP.out.2 HW.out hst
        exact ⟨q2, G1, G2, x1, x2, rfl, ⟨HKP.out.1, ha ▸ HQ.out.2.1, hm⟩, by rw [hX]; exact blk_set2 C4.out _ _, R4.out.kept kx (.inr (.inl (by omega))), (J1.out.off C4.out (by decide) kx).wide (Nat.le_refl _) zx, (J2.out.off C4.out (by decide) kx).wide (Nat.le_refl _) zx, K4.out.trans2 kx (.inr (by omega)), by omega⟩
      have HN := Lib.hid next
      have mq : meas q < gk := HQ.out.2.2
      clear next HZ
      by_cases hn : i < 0
      · have gn : decide (i < 0) = true := by simpa using hn
        by_cases hl : q2.work.length = q.work.length
        · have gl : ((q2.work.length : Int) == (q.work.length : Int)) = true := by simp [hl]
          have E3 : Hid (allS t s = q) := by
            show _ = _
            rw [E2.out, ← HQ.out.2.1, all_stuck (by rw [HSK.out]; simp [hn, hl])]
          have r0 := bs0 R4.out
          have r1 := bs1 R4.out
          have f0 := R4.out.frozen 0
          have f1 := R4.out.frozen 1
          clear hl hn
          go_wp2_with fail
          obtain ⟨R, hO, hK⟩ := fin7 (s := q) K4.out R4.out rfl z1 T1.out T2.out (Nat.le_refl _) (Nat.le_refl _) rfl rfl rfl
          rw [E3.out]
          exact bodyPost_ret (results_all7 _ _ (w.heap.size + 1) _ _ rfl R) rfl ⟨_, rfl, hO, hK⟩
        · have gl : ((q2.work.length : Int) == (q.work.length : Int)) = false := by simp; omega
          have hst : Hid (stuckB t q = false) := by show _ = _; rw [HSK.out]; simp [hl]
          clear hl hn
          go_wp2_with fail
          go_roundg (meas q)
          case measure => exact mq
          case rel =>
            obtain ⟨q', D1, D2, d1, d2, _, h⟩ := HN.out _ rfl hst.out
            exact ⟨q', D1, D2, d1, d2, h⟩
      · have gn : decide (i < 0) = false := by simpa using hn
        have hst : Hid (stuckB t q = false) := by show _ = _; rw [HSK.out]; simp [hn]
        clear hn
        go_wp2_with fail
        go_roundg (meas q)
        case measure => exact mq
        case rel =>
          obtain ⟨q', D1, D2, d1, d2, _, h⟩ := HN.out _ rfl hst.out
          exact ⟨q', D1, D2, d1, d2, h⟩
end Go.Proofs.Ytlfbmjfbebbdlaa
