/- The reference's SpreadStep; no condition beyond that the slices can be read. -/
import Derived.Test.YtlfbmjfbebbdlaaWe
import Derived.Deep.RegionLaw
namespace Go.Proofs.Ytlfbmjfbebbdlaa
open Go.RowKit Go.Sort

theorem results_step7 (tmps : Array Value) (w : World) (r : Nat) (v0 v1 : Value) (b : Int) (hp : tmps[4]?.getD undef = .pointer (some ⟨r, 0, none⟩)) (hq : tmps[5]?.getD undef = .int .i64 b) (h : Blk w r 31 #[v0, v1]) :
    (results Try.f18 tmps).run Try.prog w = .ok (.tuple #[.agg #[v0, v1], .int .i64 b]) w := by
  have h0 := bs0 h
  have h1 := bs1 h
  simp [results, Try.results18, hp, hq, go_sem, h0, h1]
/-- The rest of a list behind its first element. -/
theorem RdR.rest {w : World} {B : Nat} {ad : Addr} {xs : List Int} {x : Int} {r : List Int} (h : RdR iR w B (some ad) xs) (e : xs = x :: r) : RdR iR w B (some (ad.add 1)) r := by
  subst e
  have := h.part (i := 1) (m := r.length) (by simp; omega)
  rw [iR_k] at this
  simpa using this
/-- The result's two cells take the value of the variable. -/
theorem fin7 {w V X : World} {r m1 m2 : Nat} {D1 D2 : Option Addr} {d1 d2 hi1 hi2 lo : Nat} {s : Spr} {a b : Value} (K : Kept 0 0 w V) (R : Blk V r 31 #[a, b]) (hr : r = w.heap.size + 1) (hlo : w.heap.size + 2 ≤ lo)
    (P1 : OwnZ V lo hi1 4 1 D1 m1 d1 (bR.flat s.told)) (P2 : OwnZ V lo hi2 2 1 D2 m2 d2 (iR.flat s.work)) (h1 : hi1 ≤ V.heap.size) (h2 : hi2 ≤ V.heap.size) (e1 : m1 = s.told.length) (e2 : m2 = s.work.length)
    (hX : X = (V.setCell ⟨r, 0, none⟩ (.slice D1 m1 d1)).setCell ⟨r, 1, none⟩ (.slice D2 m2 d2)) :
    Blk X r 31 #[.slice D1 m1 d1, .slice D2 m2 d2] ∧ OwnS X w.heap.size X.heap.size (.agg #[.slice D1 m1 d1, .slice D2 m2 d2]) s ∧ Kept 0 0 w X := by
  subst e1 e2
  have kx := kept_set2 V r (.slice D1 s.told.length d1) (.slice D2 s.work.length d2)
  rw [← hX] at kx
  have := kx.size
  exact ⟨by rw [hX]; exact blk_set2 R _ _, ⟨_, _, rfl, ⟨D1, d1, rfl, (P1.kept kx (.inr (.inr (by omega)))).wide (by omega) (by omega)⟩, ⟨D2, d2, rfl, (P2.kept kx (.inr (.inr (by omega)))).wide (by omega) (by omega)⟩⟩, K.trans2 kx (.inr (by omega))⟩

set_option maxHeartbeats 6400000 in
set_option maxRecDepth 100000 in
theorem step7_any (t : List Nd) (s : Spr) (v u : Value) (w : World) (h : RdNd w w.heap.size v t) (h' : RdS w w.heap.size u s) :
    Calls Try.prog 18 #[v, u] w fun e w' => ∃ z, e = .returned (.tuple #[z, .int .i64 (stepI t s)]) ∧ OwnS w' w.heap.size w'.heap.size z (stepS t s) ∧ Kept 0 0 w w' := by
  have HT := Lib.hid h
  have HS := Lib.hid h'
  obtain ⟨A, c, rfl, h⟩ := h
  have hm := h.rd.1
  unfold maxLen at hm
  clear h
  obtain ⟨hv, lv, rfl, ⟨A1, c1, rfl, s1⟩, ⟨A2, c2, rfl, s2⟩⟩ := h'
  clear s1 s2
  obtain ⟨W, hW⟩ : ∃ W, W = (w.alloc (.cells #[.slice A1 s.told.length c1, .slice A2 s.work.length c2] 31)).alloc (.cells #[.slice none 0 0, .slice none 0 0] 31) := ⟨_, rfl⟩
  have KW : Hid (Kept 0 0 w W) := by show Kept _ _ _ _; rw [hW]; exact (Kept.alloc0 _ _).alloc _
  have B0 : Hid (Blk W w.heap.size 31 #[.slice A1 s.told.length c1, .slice A2 s.work.length c2]) := by show Blk _ _ _ _; rw [hW]; exact (Blk.new _ _ _).alloc _
  have R0 : Hid (Blk W (w.heap.size + 1) 31 #[.slice none 0 0, .slice none 0 0]) := by
    show Blk _ _ _ _
    rw [hW]
    have := Blk.new (w.alloc (.cells #[.slice A1 s.told.length c1, .slice A2 s.work.length c2] 31)) 31 #[.slice none 0 0, .slice none 0 0]
    simpa using this
  have CO := Lib.hid (ok7_any t s _ _ W (HT.out.up KW.out) (HS.out.up KW.out))
  have HW := Lib.hid hW
  have zW : w.heap.size + 2 ≤ W.heap.size := by rw [hW]; simp
  clear hW
  have HI := Lib.hid iSlice
  go_enter Try.func18, Try.ntmps18
  go_wp2_with fail
  rw [← HW.out]
  with_reducible refine CO.out.mono ?_
  rintro e w1 ⟨rfl, hk⟩
  have K1 := Lib.hid (KW.out.trans hk)
  have B1 := Lib.hid (B0.out.kept hk (.inl (Nat.le_refl _)))
  have R1 := Lib.hid (R0.out.kept hk (.inl (Nat.le_refl _)))
  have z1 : w.heap.size + 2 ≤ w1.heap.size := Nat.le_trans zW hk.size
  clear hk CO KW B0 HW R0 zW
  cases q1 : spreadB t s
  · have E1 : Hid (stepI t s = -1) := by show _ = _; simp [stepI, q1]
    have E2 : Hid (stepS t s = sprZ) := by show _ = _; simp [stepS, q1]
    have r0 := bs0 R1.out
    have r1 := bs1 R1.out
    have f0 := R1.out.frozen 0
    have f1 := R1.out.frozen 1
    clear q1
    go_wp2_with fail
    have R := Lib.hid (blk_set2 R1.out (.slice none 0 0) (.slice none 0 0))
    have KR := Lib.hid (K1.out.trans2 (kept_set2 _ (w.heap.size + 1) (.slice none 0 0) (.slice none 0 0)) (.inr (by omega)))
    rw [E1.out, E2.out]
    exact bodyPost_ret (results_step7 _ _ (w.heap.size + 1) _ _ (-1) rfl rfl R.out) rfl ⟨_, rfl, OwnS.nil _ _ _, KR.out⟩
  have Q1 := Lib.hid q1
  have HP := Lib.hid (spreadB_true.1 q1)
  clear q1
  have n1 : s.told.length ≤ 1048576 := by have := HP.out.told; have := HP.out.tree.len; omega
  have n2 : s.work.length ≤ 240 := HP.out.cap
  have b0 := bs0 B1.out
  have b1 := bs1 B1.out
  go_wp2_with fail
  with_reducible refine (copy7_any s _ w1 (HS.out.up K1.out) n1 (by omega)).mono ?_
  rintro e w2 ⟨u2, rfl, ⟨_, _, rfl, ⟨D1, d1, rfl, o1⟩, ⟨D2, d2, rfl, o2⟩⟩, hk⟩
  have O1 := Lib.hid o1
  have O2 := Lib.hid o2
  have K2 := Lib.hid (K1.out.trans hk)
  have B2 := Lib.hid (B1.out.kept hk (.inl (Nat.le_refl _)))
  have R2 := Lib.hid (R1.out.kept hk (.inl (Nat.le_refl _)))
  have z2 := hk.size
  clear hk o1 o2 b0 b1 B1 R1 K1
  obtain ⟨V, hV⟩ : ∃ V, V = w2.alloc (.cells #[.slice D1 s.told.length d1, .slice D2 s.work.length d2] 31) := ⟨_, rfl⟩
  have KV : Hid (Kept 0 0 w2 V) := by show Kept _ _ _ _; rw [hV]; exact Kept.alloc0 _ _
  have C3 : Hid (Blk V w2.heap.size 31 #[.slice D1 s.told.length d1, .slice D2 s.work.length d2]) := by show Blk _ _ _ _; rw [hV]; exact Blk.new _ _ _
  have B3 := Lib.hid (B2.out.kept KV.out (.inl (Nat.le_refl _)))
  have R3 := Lib.hid (R2.out.kept KV.out (.inl (Nat.le_refl _)))
  have P1 := Lib.hid (O1.out.kept KV.out (.inl (Nat.le_refl _)))
  have P2 := Lib.hid (O2.out.kept KV.out (.inl (Nat.le_refl _)))
  have K3 := Lib.hid (K2.out.trans KV.out)
  have y3 := C3.out.lt
  have HV := Lib.hid hV
  clear hV
  go_upto_region 4 with fail
  rw [← HV.out]
  clear HV O1 O2 B2 R2 K2 KV
  have b1 := bs1 B3.out
  rcases hw : s.work with _ | ⟨n, r⟩
  · have E1 : Hid (stepI t s = -1) := by show _ = _; simp [stepI, Q1.out, step_nil hw]
    have E2 : Hid (stepS t s = s) := by show _ = _; simp [stepS, Q1.out, step_nil hw]
    have r0 := bs0 R3.out
    have r1 := bs1 R3.out
    have f0 := R3.out.frozen 0
    have f1 := R3.out.frozen 1
    have c0 := bs0 C3.out
    have c1 := bs1 C3.out
    have q3 : ((s.work.length : Int) == 0) = true := by simp [hw]
    clear hw
    go_wp2_with fail
    obtain ⟨R, hO, hK⟩ := fin7 K3.out R3.out rfl z1 P1.out P2.out (by omega) (by omega) rfl rfl rfl
    rw [E1.out, E2.out]
    exact bodyPost_ret (results_step7 _ _ (w.heap.size + 1) _ _ (-1) rfl rfl R) rfl ⟨_, rfl, hO, hK⟩
  have q3 : (((r.length : Int) + 1) == 0) = false := by simp; omega
  have i3 : (0 : Int) < (r.length : Int) + 1 := by omega
  have HW := Lib.hid hw
  have hin := HP.out.work 0 (by rw [hw]; simp)
  have hn0 : s.work[0]'(by rw [hw]; simp) = n := by simp [hw]
  rw [hn0] at hin
  obtain ⟨j, rfl⟩ := Int.eq_ofNat_of_zero_le hin.1
  have hj : j < s.told.length := by have := HP.out.told; omega
  obtain ⟨_, _, e0, ⟨A1', c1', e1, s1⟩, ⟨A2', c2', e2, s2⟩⟩ := HS.out.kept (Nat.le_refl _) K3.out (.inl (Nat.le_refl _))
  injection e0 with e0
  injection e0 with e0
  injection e0 with ea e0
  injection e0 with eb
  subst ea eb
  injection e1 with e1 _ e1'
  subst e1 e1'
  injection e2 with e2 _ e2'
  subst e2 e2'
  have SA := Lib.hid s1.rd
  have m2 := s2.cap
  obtain ⟨ad, rfl, _, c0⟩ := s2.rd.i (k := 0) (by rw [hw]; simp)
  have SB := Lib.hid (s2.rd.rest hw)
  have SM := Lib.hid s2.max
  rw [hn0, show ad.add 0 = ad from by cases ad; rfl] at c0
  have hrl : s.work.length = r.length + 1 := by simp [hw]
  clear hw s1 s2 hin hn0
  rw [hrl] at b1 m2
  go_upto_region 7 with fail
  have b1 := bs1 (B3.out.alloc (.cells #[] 2))
  rw [hrl] at b1
  clear c0
  have mx := SM.out
  unfold maxLen at mx
  by_cases hc : c2 = 1
  case' pos =>
    have hr0 : r.length = 0 := by omega
    rw [hr0, hc] at b1
    have HC1 := Lib.hid hc
    clear hc
    have RN : RdR iR V w.heap.size (some ad) r := by rw [List.eq_nil_of_length_eq_zero hr0]; exact RdR.nil _ _ _
    have HR0 := Lib.hid hr0
    clear hr0 m2 hrl
    have hr9 : r.length ≤ 240 := by rw [HR0.out]; omega
    go_upto_region 8 with (at_builtin; refine wpList_app (R := iR) rfl (.tmp 24) (.tmp 27) rfl HI.out V.heap.size (some ⟨V.heap.size, 0, none⟩) 0 [] rfl (own_emptyZ (Blk.new V 2 #[]) (Nat.le_refl _)) w.heap.size (some ad) 0 r (by show Value.slice (some ad) 0 0 = _; rw [HR0.out]) (RN.kept (by omega) (Kept.alloc0 V (.cells #[] 2)) (.inl (Nat.le_refl _))) (by simp [maxLen]; try omega) (by simp; try omega) (by simp) ?_; intro D3 d3 w3 hown hgrow hat; have k3 := Lib.hid ((Kept.alloc0 V (.cells #[] 2)).trans2 (show Kept V.heap.size (V.heap.size + 1) _ _ from kept_of_row hgrow) (.inr (Nat.le_refl _))); have C4 := Lib.hid (C3.out.kept k3.out (.inl (Nat.le_refl _))); have O3 : Hid (OwnZ w3 V.heap.size w3.heap.size 2 1 D3 r.length d3 (iR.flat r)) := Lib.hid (OwnZ.of_row hown); clear hown hgrow hat; have c01 := bs1 C4.out; have f01 := C4.out.frozen 1)
  case' neg =>
    have hc' : ¬ (c2 : Int) = 1 := by omega
    go_upto_region 8 with (at_builtin; refine wpList_app (R := iR) rfl (.tmp 24) (.tmp 27) rfl HI.out V.heap.size (some ⟨V.heap.size, 0, none⟩) 0 [] rfl (own_emptyZ (Blk.new V 2 #[]) (Nat.le_refl _)) w.heap.size (some (ad.add 1)) (c2 - 1) r rfl (SB.out.kept (by omega) (Kept.alloc0 V (.cells #[] 2)) (.inl (Nat.le_refl _))) (by simp [maxLen]; try omega) (by simp; try omega) (by simp) ?_; intro D3 d3 w3 hown hgrow hat; have k3 := Lib.hid ((Kept.alloc0 V (.cells #[] 2)).trans2 (show Kept V.heap.size (V.heap.size + 1) _ _ from kept_of_row hgrow) (.inr (Nat.le_refl _))); have C4 := Lib.hid (C3.out.kept k3.out (.inl (Nat.le_refl _))); have O3 : Hid (OwnZ w3 V.heap.size w3.heap.size 2 1 D3 r.length d3 (iR.flat r)) := Lib.hid (OwnZ.of_row hown); clear hown hgrow hat; have c01 := bs1 C4.out; have f01 := C4.out.frozen 1)
  all_goals
    have z3 := k3.out.size
    have K4 := Lib.hid (K3.out.trans k3.out)
    have B4 := Lib.hid (B3.out.kept k3.out (.inl (Nat.le_refl _)))
    have R4 := Lib.hid (R3.out.kept k3.out (.inl (Nat.le_refl _)))
    have T4 := Lib.hid (P1.out.kept k3.out (.inl (Nat.le_refl _)))
    have SA4 := Lib.hid (SA.out.kept (by omega) k3.out (.inl (Nat.le_refl _)))
    clear SB b1 SA P1 P2 R3 B3 K3 C3 k3 c01 f01
    obtain ⟨X, hX⟩ : ∃ X, X = w3.setCell ⟨w2.heap.size, 1, none⟩ (.slice D3 r.length d3) := ⟨_, rfl⟩
    rw [← hX]
    have kx := kept_put1 w3 w2.heap.size (.slice D3 r.length d3)
    have C5 : Hid (Blk X w2.heap.size 31 #[.slice D1 s.told.length d1, .slice D3 r.length d3]) := by show Blk _ _ _ _; rw [hX]; exact blk_put1 C4.out _
    rw [← hX] at kx
    have zx := kx.size
    have B5 := Lib.hid (B4.out.kept kx (.inr (.inl (by omega))))
    have R5 := Lib.hid (R4.out.kept kx (.inr (.inl (by omega))))
    have T5 := Lib.hid (T4.out.kept kx (.inr (.inl (Nat.le_refl _))))
    have O5 := Lib.hid (O3.out.kept kx (.inr (.inr (by omega))))
    have K5 := Lib.hid (K4.out.trans2 kx (.inr (by omega)))
    have SA5 := Lib.hid (SA4.out.kept (by omega) kx (.inr (by omega)))
    clear hX kx B4 R4 T4 K4 SA4 O3 C4
    obtain ⟨ad1, rfl, _, c8⟩ := SA5.out.b hj
    have b0 := bs0 B5.out
    have i8 : (j : Int) < (s.told.length : Int) := by omega
    rcases hq : s.told[j] with _ | _
    case true =>
      have h8 : toldAt s (j : Int) = true := by rw [toldAt_nat hj]; exact hq
      have E1 : Hid (stepI t s = -1) := by show _ = _; simp [stepI, Q1.out, step_told HW.out h8]
      have E2 : Hid (stepS t s = ⟨s.told, r⟩) := by show _ = _; simp [stepS, Q1.out, step_told HW.out h8]
      have e0 := bs0 R5.out
      have e1 := bs1 R5.out
      have f0 := R5.out.frozen 0
      have f1 := R5.out.frozen 1
      have d0 := bs0 C5.out
      have d1 := bs1 C5.out
      rw [hq] at c8
      clear hq h8
      go_wp2_with fail
      obtain ⟨R, hO, hK⟩ := fin7 (s := ⟨s.told, r⟩) (lo := w1.heap.size) K5.out R5.out rfl z1 T5.out (O5.out.wide (by omega) (Nat.le_refl _)) (by omega) (by omega) rfl rfl rfl
      rw [E1.out, E2.out]
      exact bodyPost_ret (results_step7 _ _ (w.heap.size + 1) _ _ (-1) rfl rfl R) rfl ⟨_, rfl, hO, hK⟩
    case false =>
      have h8 : toldAt s (j : Int) = false := by rw [toldAt_nat hj]; exact hq
      have H8 := Lib.hid h8
      rw [hq] at c8
      rcases T5.out.form with ⟨_, h0, _⟩ | ⟨g1, rfl, hg1, hg2, _⟩
      · omega
      have c10 : X.cell? ⟨g1, j, none⟩ = some (.bool s.told[j]) := by
        have := own_at (R := bR) T5.out.1 hj 0 (u := .bool s.told[j]) rfl
        rwa [bR_k, Nat.mul_one, Nat.add_zero] at this
      have f10 : X.frozen? ⟨g1, j, none⟩ = false := T5.out.1.frozenAt _
      have c50 := bs0 C5.out
      clear hq h8
      obtain ⟨Y, hY⟩ : ∃ Y, Y = X.setCell ⟨g1, j, none⟩ (.bool true) := ⟨_, rfl⟩
      have kY : Kept g1 (g1 + 1) X Y := by rw [hY]; exact (Kept.refl g1 (g1 + 1) X).setCell (p := ⟨g1, j, none⟩) (.inr ⟨Nat.le_refl _, Nat.lt_succ_self _⟩) _
      have TY : Hid (OwnZ Y w1.heap.size w2.heap.size 4 1 (some ⟨g1, 0, none⟩) s.told.length d1 (bR.flat (s.told.set j true))) := by show OwnZ _ _ _ _ _ _ _ _ _; rw [hY]; exact ⟨own_putB T5.out.1 j true, T5.out.2⟩
      have zY := kY.size
      have C6 := Lib.hid (C5.out.kept kY (by omega))
      have R6 := Lib.hid (R5.out.kept kY (by omega))
      have B6 := Lib.hid (B5.out.kept kY (by omega))
      have O6 := Lib.hid (O5.out.kept kY (by omega))
      have K6 := Lib.hid (K5.out.trans2 kY (by omega))
      have HY := Lib.hid hY
      have r6 := O6.out.range
      clear hY
      go_upto_region 11 with fail
      rw [← HY.out]
      clear c8 c10 f10 c50 b0 C5 R5 B5 O5 K5 T5 SA5 HY
      have KD := Lib.hid K6.out.drew
      have c61 := bs1 C6.out
      have BL := belowL_len t j
      go_cut [6] (fun v6 wx => v6 = .pointer (some ⟨w2.heap.size, 0, none⟩) ∧ ∃ D5 d5, Blk wx w2.heap.size 31 #[.slice (some ⟨g1, 0, none⟩) s.told.length d1, .slice D5 (r ++ belowL t j).length d5] ∧ Blk wx w.heap.size 31 #[.slice (some ad1) s.told.length c1, .slice (some ad) s.work.length c2] ∧ Blk wx (w.heap.size + 1) 31 #[.slice none 0 0, .slice none 0 0] ∧ OwnZ wx w1.heap.size w2.heap.size 4 1 (some ⟨g1, 0, none⟩) s.told.length d1 (bR.flat (s.told.set j true)) ∧ OwnZ wx V.heap.size wx.heap.size 2 1 D5 (r ++ belowL t j).length d5 (iR.flat (r ++ belowL t j)) ∧ Kept 0 0 w wx ∧ w3.heap.size ≤ wx.heap.size)
      case first =>
        go_region_law (first
          | (go_simp; go_at_call 45; ((with_reducible refine (below7_any t j _ Y.drew (HT.out.up KD.out)).mono ?_)); rintro e w4 ⟨_, rfl, ⟨D4, d4, rfl, ho⟩, hk⟩; have k4 : Kept 0 0 Y w4 := (Kept.refl 0 0 Y).drew.trans hk; have O4 := ho.rd.2; have z4 := k4.size; have C7 := C6.out.kept k4 (.inl (Nat.le_refl _)); have c71 := bs1 C7; have N4 := row_kept O6.out.1 k4; clear hk ho)
          | (have _t := N4; refine step_app (R := iR) rfl (.tmp 41) (.tmp 44) rfl HI.out V.heap.size D3 d3 r rfl N4 w4.heap.size D4 d4 (belowL t j) rfl O4 (by unfold maxLen; omega) (by first | omega | (simp; omega)) (by omega) ?_; intro D5 d5 w5 hown hgrow hat; have k5 := kept_app hgrow; have O7 := OwnZ.of_row hown; have z5 := k5.size; have C8 := C7.kept k5 (by omega); have c81 := bs1 C8; have f81 := C8.frozen 1; clear hown hgrow hat))
        all_goals (go_wp2_with fail; go_meet)
        all_goals (obtain ⟨Z, hZ⟩ : ∃ Z, Z = w5.setCell ⟨w2.heap.size, 1, none⟩ (.slice D5 (r.length + (belowL t j).length) d5) := ⟨_, rfl⟩)
        all_goals (have kz := kept_put1 w5 w2.heap.size (.slice D5 (r.length + (belowL t j).length) d5))
        all_goals (have BZ := blk_put1 C8 (.slice D5 (r.length + (belowL t j).length) d5))
        all_goals (rw [← hZ] at kz BZ; have zz := kz.size; have y9 : V.heap.size ≤ w5.heap.size := by omega)
        all_goals (rw [← hZ]; exact ⟨rfl, D5, d5, by rw [List.length_append]; exact BZ, ((B6.out.kept k4 (.inl (Nat.le_refl _))).kept k5 (by omega)).kept kz (.inr (.inl (by omega))), ((R6.out.kept k4 (.inl (Nat.le_refl _))).kept k5 (by omega)).kept kz (.inr (.inl (by omega))), ((TY.out.kept k4 (.inl (Nat.le_refl _))).kept k5 (by omega)).kept kz (.inr (.inl (Nat.le_refl _))), (O7.kept kz (.inr (.inr (by omega)))).wide (Nat.le_refl _) zz, ((K6.out.trans k4).trans2 k5 (by omega)).trans2 kz (.inr (by omega)), by omega⟩)
      case rest =>
        obtain ⟨wx, rfl⟩ : ∃ wx : World, wx = wc := ⟨_, rfl⟩
        obtain ⟨rfl, D5, d5, C9, B9, R9, T9, O9, K9, z9⟩ := hcut
        obtain ⟨ys, hys⟩ : ∃ ys, ys = r ++ belowL t j := ⟨_, rfl⟩
        have HL : Hid (ys.length = r.length + (belowL t j).length) := by show _ = _; rw [hys, List.length_append]
        have HYS := Lib.hid hys
        rw [← hys] at C9 O9
        clear hys c61 TY C6 R6 B6 O6 K6 KD b1 q3 i3 r6
        have c90 := bs0 C9
        have c91 := bs1 C9
        rcases Nat.lt_or_ge 240 ys.length with h9 | h9
        · have h9' : 240 < r.length + (belowL t j).length := by rw [← HL.out]; exact h9
          have E1 : Hid (stepI t s = -1) := by show _ = _; simp [stepI, Q1.out, step_full HW.out H8.out h9']
          have E2 : Hid (stepS t s = s) := by show _ = _; simp [stepS, Q1.out, step_full HW.out H8.out h9']
          have g9 : decide ((240 : Int) < (ys.length : Int)) = true := by simp; omega
          have b90 := bs0 B9
          have b91 := bs1 B9
          have HC := Lib.hid (copy7_any s _ wx (HS.out.up K9) n1 (by omega))
          have R9 := Lib.hid R9
          have K9 := Lib.hid K9
          have zw : w.heap.size + 2 ≤ wx.heap.size := by omega
          clear h9' h9 H8 C9 B9 T9 O9
          try clear hrl
          go_wp2_with fail
          with_reducible refine HC.out.mono ?_
          rintro e w6 ⟨u6, rfl, ⟨_, _, rfl, ⟨D6, d6, rfl, o6⟩, ⟨D7, d7, rfl, o7⟩⟩, hk⟩
          have z6 := hk.size
          have R10 := R9.out.kept hk (.inl (Nat.le_refl _))
          have e0 := bs0 R10
          have e1 := bs1 R10
          have f0 := R10.frozen 0
          have f1 := R10.frozen 1
          have o6 := Lib.hid o6
          have o7 := Lib.hid o7
          have K10 := Lib.hid (K9.out.trans hk)
          clear hk HC b90 b91 c90 c91
          go_wp2_with fail
          obtain ⟨R, hO, hK⟩ := fin7 K10.out R10 rfl zw o6.out o7.out (Nat.le_refl _) (Nat.le_refl _) rfl rfl rfl
          rw [E1.out, E2.out]
          exact bodyPost_ret (results_step7 _ _ (w.heap.size + 1) _ _ (-1) rfl rfl R) rfl ⟨_, rfl, hO, hK⟩
        · have h9' : r.length + (belowL t j).length ≤ 240 := by rw [← HL.out]; exact h9
          have E1 : Hid (stepI t s = (j : Int)) := by show _ = _; simp [stepI, Q1.out, step_new HW.out H8.out h9']
          have E2 : Hid (stepS t s = ⟨s.told.set j true, ys⟩) := by show _ = _; simp [stepS, Q1.out, step_new HW.out H8.out h9', HYS.out]
          have g9 : decide ((240 : Int) < (ys.length : Int)) = false := by simp; omega
          have e0 := bs0 R9
          have e1 := bs1 R9
          have f0 := R9.frozen 0
          have f1 := R9.frozen 1
          have T9 := Lib.hid T9
          have O9 := Lib.hid O9
          clear h9' H8
          try clear hrl
          go_wp2_with fail
          obtain ⟨R, hO, hK⟩ := fin7 (s := ⟨s.told.set j true, ys⟩) (lo := w1.heap.size) K9 R9 rfl z1 T9.out (O9.out.wide (by omega) (Nat.le_refl _)) (by omega) (Nat.le_refl _) (by simp) rfl rfl
          rw [E1.out, E2.out]
          exact bodyPost_ret (results_step7 _ _ (w.heap.size + 1) _ _ (j : Int) rfl rfl R) rfl ⟨_, rfl, hO, hK⟩
end Go.Proofs.Ytlfbmjfbebbdlaa
