/- The program's Begun, SpreadStep and SpreadAll: each returns the plain function of the tree and the spread, in new memory; no condition beyond that the slices can be read. -/
import Derived.Test.YtlfbmjfbebbdlaaWs
import Derived.Deep.LoopGhost
import Derived.Deep.CutBlock
namespace Go.Proofs.Ytlfbmjfbebbdlaa
open Go.RowKit Go.Sort

/-- The result's two cells take what is shown. -/
theorem fin8 {w V X : World} {r lo m1 m2 d1 d2 : Nat} {D1 D2 : Option Addr} {s : Spr} {a b : Value} (K : Kept 0 0 w V) (R : Blk V r 31 #[a, b]) (hr : r = w.heap.size + 1) (hlo : w.heap.size + 2 ≤ lo)
    (P1 : OwnZ V lo V.heap.size 4 1 D1 m1 d1 (bR.flat s.told)) (P2 : OwnZ V lo V.heap.size 2 1 D2 m2 d2 (iR.flat s.work)) (e1 : m1 = s.told.length) (e2 : m2 = s.work.length)
    (hX : X = (V.setCell ⟨r, 0, none⟩ (.slice D1 m1 d1)).setCell ⟨r, 1, none⟩ (.slice D2 m2 d2)) :
    Blk X r 31 #[.slice D1 m1 d1, .slice D2 m2 d2] ∧ OwnS X w.heap.size X.heap.size (.agg #[.slice D1 m1 d1, .slice D2 m2 d2]) s ∧ Kept 0 0 w X := by
  subst e1 e2
  have kx := kept_two V r (.slice D1 s.told.length d1) (.slice D2 s.work.length d2)
  rw [← hX] at kx
  have := kx.size
  exact ⟨by rw [hX]; exact blk_two R _ _, ⟨_, _, rfl, ⟨D1, d1, rfl, (P1.kept kx (.inr (.inr (by omega)))).wide (by omega) (by omega)⟩, ⟨D2, d2, rfl, (P2.kept kx (.inr (.inr (by omega)))).wide (by omega) (by omega)⟩⟩, K.trans2 kx (.inr (by omega))⟩
theorem results_begunI (tmps : Array Value) (w : World) (r : Nat) (v0 v1 : Value) (b : Bool) (hp : tmps[6]?.getD undef = .pointer (some ⟨r, 0, none⟩)) (hq : tmps[7]?.getD undef = .bool b) (h : Blk w r 31 #[v0, v1]) :
    (results Try.f12 tmps).run Try.prog w = .ok (.tuple #[.agg #[v0, v1], .bool b]) w := by
  have h0 := bz0 h
  have h1 := bz1 h
  simp [results, Try.results12, hp, hq, go_sem, h0, h1]
theorem results_stepI (tmps : Array Value) (w : World) (r : Nat) (v0 v1 : Value) (b : Int) (hp : tmps[4]?.getD undef = .pointer (some ⟨r, 0, none⟩)) (hq : tmps[5]?.getD undef = .int .i64 b) (h : Blk w r 31 #[v0, v1]) :
    (results Try.f17 tmps).run Try.prog w = .ok (.tuple #[.agg #[v0, v1], .int .i64 b]) w := by
  have h0 := bz0 h
  have h1 := bz1 h
  simp [results, Try.results17, hp, hq, go_sem, h0, h1]
theorem results_allI (tmps : Array Value) (w : World) (r : Nat) (v0 v1 : Value) (hp : tmps[4]?.getD undef = .pointer (some ⟨r, 0, none⟩)) (h : Blk w r 31 #[v0, v1]) :
    (results Try.f13 tmps).run Try.prog w = .ok (.agg #[v0, v1]) w := by
  have h0 := bz0 h
  have h1 := bz1 h
  simp [results, Try.results13, hp, go_sem, h0, h1]
theorem hasB_in {t : List Nd} {n : Int} (o : TreeP t) : hasB t n = inB t n := by simp [hasB, inB, treeB_true.2 o]

/-- What moves and what does not. -/
theorem moved_true {t : List Nd} {s : Spr} (o : SprP t s) (h : movedB t s = true) : allP t (stepP t s).1 = allP t s ∧ meas (stepP t s).1 < meas s := by
  rcases hw : s.work with _ | ⟨n, r⟩
  · rw [moved_nil hw] at h; cases h
  have hne : s.work ≠ [] := by rw [hw]; simp
  have hst : stuckB t s = false := by
    cases h1 : toldAt s n
    · have h2 : r.length + (belowL t n).length ≤ 240 := by rw [moved_cons hw, h1] at h; simpa using h
      have hn := o.work 0 (by rw [hw]; simp)
      have hn0 : s.work[0]'(by rw [hw]; simp) = n := by simp [hw]
      rw [hn0] at hn
      unfold stuckB
      rw [step_new hw h1 h2]
      simp; omega
    · unfold stuckB
      rw [step_told hw h1]
      simp [hw]
  exact ⟨(all_step hne hst).symm, meas_lt hne hst⟩
theorem moved_false {t : List Nd} {s : Spr} (h : movedB t s = false) : allP t s = s ∧ (stepP t s).1 = s := by
  rcases hw : s.work with _ | ⟨n, r⟩
  · exact ⟨all_nil hw, by rw [step_nil hw]⟩
  rw [moved_cons hw] at h
  simp only [Bool.or_eq_false_iff, decide_eq_false_iff_not] at h
  have e := step_full (t := t) hw h.1 (by omega)
  exact ⟨all_stuck (by unfold stuckB; rw [e]; simp), by rw [e]⟩

set_option maxHeartbeats 3200000 in
set_option maxRecDepth 100000 in
theorem implBegun (t : List Nd) (s : Spr) (n : Int) (v u : Value) (w : World) (h : RdNd w w.heap.size v t) (h' : RdS w w.heap.size u s) :
    Calls Try.prog 12 #[v, u, .int .i64 n] w fun e w' => ∃ z, e = .returned (.tuple #[z, .bool (begunB t s n)]) ∧ OwnS w' w.heap.size w'.heap.size z (begunS t s n) ∧ Kept 0 0 w w' := by
  have HS := Lib.hid h'
  obtain ⟨A, c, rfl, h1⟩ := h
  have HT : Hid (RdNd w w.heap.size (.slice A t.length c) t) := ⟨A, c, rfl, h1⟩
  obtain ⟨hv, lv, rfl, ⟨A1, c1, rfl, s1⟩, ⟨A2, c2, rfl, s2⟩⟩ := h'
  clear h1 s1 s2
  obtain ⟨W, hW⟩ : ∃ W, W = (w.alloc (.cells #[.slice A1 s.told.length c1, .slice A2 s.work.length c2] 31)).alloc (.cells #[.slice none 0 0, .slice none 0 0] 31) := ⟨_, rfl⟩
  have KW : Hid (Kept 0 0 w W) := by show Kept _ _ _ _; rw [hW]; exact (Kept.alloc0 _ _).alloc _
  have B0 : Hid (Blk W w.heap.size 31 #[.slice A1 s.told.length c1, .slice A2 s.work.length c2]) := by show Blk _ _ _ _; rw [hW]; exact (Blk.new _ _ _).alloc _
  have R0 : Hid (Blk W (w.heap.size + 1) 31 #[.slice none 0 0, .slice none 0 0]) := by
    show Blk _ _ _ _
    rw [hW]
    have := Blk.new (w.alloc (.cells #[.slice A1 s.told.length c1, .slice A2 s.work.length c2] 31)) 31 #[.slice none 0 0, .slice none 0 0]
    simpa using this
  have CN := Lib.hid (notifying_any t s A c _ W (HT.out.up KW.out) (HS.out.up KW.out))
  have HW := Lib.hid hW
  have zW : w.heap.size + 2 ≤ W.heap.size := by rw [hW]; simp
  have b0 := bz0 B0.out
  have b1 := bz1 B0.out
  clear hW
  go_enter Try.func12, Try.ntmps12
  go_upto_region 1 with fail
  rw [← HW.out]
  go_wp2_with fail
  with_reducible refine CN.out.mono ?_
  rintro e w1 ⟨hk, hp⟩
  have K1 := Lib.hid (KW.out.trans hk)
  have R1 := Lib.hid (R0.out.kept hk (.inl (Nat.le_refl _)))
  have z1 := hk.size
  clear hk CN KW B0 HW R0 b0 b1
  have r0 := bz0 R1.out
  have r1 := bz1 R1.out
  have f0 := R1.out.frozen 0
  have f1 := R1.out.frozen 1
  cases q1 : spreadB t s
  · have E1 : Hid (begunB t s n = false) := (begun_no q1).1
    have E2 : Hid (begunS t s n = sprZ) := (begun_no q1).2
    obtain rfl := hp.2 q1
    clear q1 hp
    go_wp2_with fail
    have R := Lib.hid (blk_two R1.out (.slice none 0 0) (.slice none 0 0))
    have KR := Lib.hid (K1.out.trans2 (kept_two _ (w.heap.size + 1) (.slice none 0 0) (.slice none 0 0)) (.inr (by omega)))
    rw [E1.out, E2.out]
    exact bodyPost_ret (results_begunI _ _ (w.heap.size + 1) _ _ false rfl rfl R.out) rfl ⟨_, rfl, OwnS.nil _ _ _, KR.out⟩
  obtain ⟨b, g, D, d, rfl, hN⟩ := hp.1 q1
  have HN := Lib.hid hN
  have HP := Lib.hid (spreadB_true.1 q1)
  have Q1 := Lib.hid q1
  clear q1 hN hp r0 r1 f0 f1
  have CH := Lib.hid (implHas t n _ w1 (HT.out.up K1.out))
  have EH : hasB t n = inB t n := hasB_in HP.out.tree
  rw [EH] at CH
  clear EH
  go_wp2_with fail
  with_reducible refine CH.out.mono ?_
  rintro e w2 ⟨rfl, hk⟩
  have K2 := Lib.hid (K1.out.trans hk)
  have R2 := Lib.hid (R1.out.kept hk (.inl (Nat.le_refl _)))
  have N2 := Lib.hid (HN.out.same hk)
  have z2 := hk.size
  clear hk CH K1 R1 HN
  have n2 := N2.out.n2
  have wl : s.work.length ≤ 240 := HP.out.cap
  have CM := Lib.hid (room_any g _ w2 N2.out.ring)
  have CS := Lib.hid (shown_any w2 _ b g c d A D t s N2.out)
  have OUT : ∀ (w3 : World) (D2 : Option Addr) (d2 : Nat), OwnZ w3 w2.heap.size w3.heap.size 2 1 D2 s.work.length d2 (iR.flat s.work) → Kept 0 0 w2 w3 → ∀ X, X = (w3.setCell ⟨w.heap.size + 1, 0, none⟩ (.slice D s.told.length d)).setCell ⟨w.heap.size + 1, 1, none⟩ (.slice D2 s.work.length d2) →
      Blk X (w.heap.size + 1) 31 #[.slice D s.told.length d, .slice D2 s.work.length d2] ∧ OwnS X w.heap.size X.heap.size (.agg #[.slice D s.told.length d, .slice D2 s.work.length d2]) s ∧ Kept 0 0 w X := by
    intro w3 D2 d2 ho hk X hX
    have z3 := hk.size
    exact fin8 (K2.out.trans hk) (R2.out.kept hk (.inl (Nat.le_refl _))) rfl zW (OwnZ.of_row (row_kept N2.out.told hk)) (ho.wide (by omega) (Nat.le_refl _)) rfl rfl hX
  have OUTH := Lib.hid OUT
  clear OUT
  cases q2 : inB t n
  · have E1 : Hid (begunB t s n = false) := (begun_out Q1.out (by rw [q2]; rfl)).1
    have E2 : Hid (begunS t s n = s) := (begun_out Q1.out (by rw [q2]; rfl)).2
    clear q2 CM n2
    go_upto_region 5 with fail
    go_wp2_with fail
    with_reducible refine CS.out.mono ?_
    rintro e w3 ⟨_, rfl, ⟨D2, d2, rfl, o2⟩, hk⟩
    have R3 := R2.out.kept hk (.inl (Nat.le_refl _))
    have r0 := bz0 R3
    have r1 := bz1 R3
    have f0 := R3.frozen 0
    have f1 := R3.frozen 1
    have O2 := Lib.hid o2
    have K3 := Lib.hid hk
    clear o2 hk CS
    go_wp2_with fail
    obtain ⟨R, hO, hK⟩ := OUTH.out w3 D2 d2 O2.out K3.out _ rfl
    rw [E1.out, E2.out]
    exact bodyPost_ret (results_begunI _ _ (w.heap.size + 1) _ _ false rfl rfl R) rfl ⟨_, rfl, hO, hK⟩
  · by_cases h3 : s.work.length = 240
    · have E1 : Hid (begunB t s n = false) := (begun_out Q1.out (by simp [h3])).1
      have E2 : Hid (begunS t s n = s) := (begun_out Q1.out (by simp [h3])).2
      have g3 : ((240 : Int) - (s.work.length : Int) == 0) = true := by simp; omega
      clear q2 h3
      go_wp2_with fail
      with_reducible refine CM.out.mono ?_
      rintro e w' ⟨rfl, rfl⟩
      clear CM n2
      go_upto_region 5 with fail
      go_wp2_with fail
      with_reducible refine CS.out.mono ?_
      rintro e w3 ⟨_, rfl, ⟨D2, d2, rfl, o2⟩, hk⟩
      have R3 := R2.out.kept hk (.inl (Nat.le_refl _))
      have r0 := bz0 R3
      have r1 := bz1 R3
      have f0 := R3.frozen 0
      have f1 := R3.frozen 1
      have O2 := Lib.hid o2
      have K3 := Lib.hid hk
      clear o2 hk CS
      go_wp2_with fail
      obtain ⟨R, hO, hK⟩ := OUTH.out w3 D2 d2 O2.out K3.out _ rfl
      rw [E1.out, E2.out]
      exact bodyPost_ret (results_begunI _ _ (w.heap.size + 1) _ _ false rfl rfl R) rfl ⟨_, rfl, hO, hK⟩
    · have E1 : Hid (begunB t s n = true) := (begun_in Q1.out (by simp [q2, h3])).1
      obtain ⟨ws, hws⟩ : ∃ ws, ws = s.work ++ [n] := ⟨_, rfl⟩
      have E2 : Hid (begunS t s n = ⟨s.told, ws⟩) := by rw [hws]; exact (begun_in Q1.out (by simp [q2, h3])).2
      have g3 : ((240 : Int) - (s.work.length : Int) == 0) = false := by simp; omega
      have CP := Lib.hid (push_any g s.work n w2 N2.out.ring (by omega))
      rw [← hws] at CP
      clear hws
      clear q2 h3 CS OUTH
      go_wp2_with fail
      with_reducible refine CM.out.mono ?_
      rintro e w' ⟨rfl, rfl⟩
      clear CM
      go_wp2_with fail
      with_reducible refine CP.out.mono ?_
      rintro e w3 ⟨rfl, hr, hk⟩
      have N3 := Lib.hid (N2.out.ringed hk hr)
      have hgl := N2.out.hg
      have R3 := Lib.hid (R2.out.kept hk (.inr (.inl (by omega))))
      have K3 := Lib.hid (K2.out.trans2 hk (.inr (by omega)))
      have z3 := hk.size
      clear hr hk CP N2 R2 K2 n2
      have CS := Lib.hid (shown_any w3 _ b g c d A D t _ N3.out)
      go_wp2_with fail
      with_reducible refine CS.out.mono ?_
      rintro e w4 ⟨_, rfl, ⟨D2, d2, rfl, o2⟩, hk⟩
      have R4 := R3.out.kept hk (.inl (Nat.le_refl _))
      have r0 := bz0 R4
      have r1 := bz1 R4
      have f0 := R4.frozen 0
      have f1 := R4.frozen 1
      have z4 := hk.size
      have O2 := Lib.hid (o2.wide (show W.heap.size ≤ w3.heap.size by omega) (Nat.le_refl _))
      have O1 := Lib.hid (OwnZ.of_row (row_kept N3.out.told hk))
      have K4 := Lib.hid (K3.out.trans hk)
      have HR4 := Lib.hid R4
      clear o2 hk CS R4
      go_wp2_with fail
      obtain ⟨R, hO, hK⟩ := fin8 (s := ⟨s.told, ws⟩) K4.out HR4.out rfl zW O1.out O2.out rfl rfl rfl
      rw [E1.out, E2.out]
      exact bodyPost_ret (results_begunI _ _ (w.heap.size + 1) _ _ true rfl rfl R) rfl ⟨_, rfl, hO, hK⟩

set_option maxHeartbeats 3200000 in
set_option maxRecDepth 100000 in
theorem implStep (t : List Nd) (s : Spr) (v u : Value) (w : World) (h : RdNd w w.heap.size v t) (h' : RdS w w.heap.size u s) :
    Calls Try.prog 17 #[v, u] w fun e w' => ∃ z, e = .returned (.tuple #[z, .int .i64 (stepI t s)]) ∧ OwnS w' w.heap.size w'.heap.size z (stepS t s) ∧ Kept 0 0 w w' := by
  have HS := Lib.hid h'
  obtain ⟨A, c, rfl, h1⟩ := h
  have HT : Hid (RdNd w w.heap.size (.slice A t.length c) t) := ⟨A, c, rfl, h1⟩
  obtain ⟨hv, lv, rfl, ⟨A1, c1, rfl, s1⟩, ⟨A2, c2, rfl, s2⟩⟩ := h'
  clear h1 s1 s2
  obtain ⟨W, hW⟩ : ∃ W, W = (w.alloc (.cells #[.slice A1 s.told.length c1, .slice A2 s.work.length c2] 31)).alloc (.cells #[.slice none 0 0, .slice none 0 0] 31) := ⟨_, rfl⟩
  have KW : Hid (Kept 0 0 w W) := by show Kept _ _ _ _; rw [hW]; exact (Kept.alloc0 _ _).alloc _
  have B0 : Hid (Blk W w.heap.size 31 #[.slice A1 s.told.length c1, .slice A2 s.work.length c2]) := by show Blk _ _ _ _; rw [hW]; exact (Blk.new _ _ _).alloc _
  have R0 : Hid (Blk W (w.heap.size + 1) 31 #[.slice none 0 0, .slice none 0 0]) := by
    show Blk _ _ _ _
    rw [hW]
    have := Blk.new (w.alloc (.cells #[.slice A1 s.told.length c1, .slice A2 s.work.length c2] 31)) 31 #[.slice none 0 0, .slice none 0 0]
    simpa using this
  have CN := Lib.hid (notifying_any t s A c _ W (HT.out.up KW.out) (HS.out.up KW.out))
  have HW := Lib.hid hW
  have zW : w.heap.size + 2 ≤ W.heap.size := by rw [hW]; simp
  have b0 := bz0 B0.out
  have b1 := bz1 B0.out
  clear hW
  go_enter Try.func17, Try.ntmps17
  go_upto_region 1 with fail
  rw [← HW.out]
  go_wp2_with fail
  with_reducible refine CN.out.mono ?_
  rintro e w1 ⟨hk, hp⟩
  have K1 := Lib.hid (KW.out.trans hk)
  have R1 := Lib.hid (R0.out.kept hk (.inl (Nat.le_refl _)))
  have z1 := hk.size
  clear hk CN KW B0 HW R0 b0 b1
  have r0 := bz0 R1.out
  have r1 := bz1 R1.out
  have f0 := R1.out.frozen 0
  have f1 := R1.out.frozen 1
  cases q1 : spreadB t s
  · have E1 : Hid (stepI t s = -1) := by show _ = _; simp [stepI, q1]
    have E2 : Hid (stepS t s = sprZ) := by show _ = _; simp [stepS, q1]
    obtain rfl := hp.2 q1
    clear q1 hp
    go_wp2_with fail
    have R := Lib.hid (blk_two R1.out (.slice none 0 0) (.slice none 0 0))
    have KR := Lib.hid (K1.out.trans2 (kept_two _ (w.heap.size + 1) (.slice none 0 0) (.slice none 0 0)) (.inr (by omega)))
    rw [E1.out, E2.out]
    exact bodyPost_ret (results_stepI _ _ (w.heap.size + 1) _ _ (-1) rfl rfl R.out) rfl ⟨_, rfl, OwnS.nil _ _ _, KR.out⟩
  obtain ⟨b, g, D, d, rfl, hN⟩ := hp.1 q1
  have HN := Lib.hid hN
  have HP := Lib.hid (spreadB_true.1 q1)
  have E1 : Hid (stepI t s = (stepP t s).2) := by show _ = _; simp [stepI, q1]
  have E2 : Hid (stepS t s = (stepP t s).1) := by show _ = _; simp [stepS, q1]
  clear q1 hN hp r0 r1 f0 f1
  have CP := Lib.hid (stepN_any w1 _ b g c d A D t s HN.out HP.out)
  obtain ⟨p, hp⟩ : ∃ p, p = (stepP t s).1 := ⟨_, rfl⟩
  obtain ⟨i, hi⟩ : ∃ i, i = (stepP t s).2 := ⟨_, rfl⟩
  rw [← hp] at CP E2
  rw [← hi] at CP E1
  clear hp hi
  go_wp2_with fail
  with_reducible refine CP.out.mono ?_
  rintro e w3 ⟨rfl, hn, hk⟩
  have N3 := Lib.hid hn
  have htop := HN.out.top
  have R3 := Lib.hid (R1.out.kept hk (.inr (.inl (by omega))))
  have K3 := Lib.hid (K1.out.trans2 hk (.inr (by omega)))
  have z3 := hk.size
  clear hn hk CP HN R1 K1
  have CS := Lib.hid (shown_any w3 _ b g c d A D t _ N3.out)
  go_wp2_with fail
  with_reducible refine CS.out.mono ?_
  rintro e w4 ⟨_, rfl, ⟨D2, d2, rfl, o2⟩, hk⟩
  have R4 := R3.out.kept hk (.inl (Nat.le_refl _))
  have r0 := bz0 R4
  have r1 := bz1 R4
  have f0 := R4.frozen 0
  have f1 := R4.frozen 1
  have z4 := hk.size
  have O2 := Lib.hid (o2.wide (show W.heap.size ≤ w3.heap.size by omega) (Nat.le_refl _))
  have O1 := Lib.hid (OwnZ.of_row (row_kept N3.out.told hk))
  have K4 := Lib.hid (K3.out.trans hk)
  have HR4 := Lib.hid R4
  clear o2 hk CS R4
  go_wp2_with fail
  obtain ⟨R, hO, hK⟩ := fin8 (s := p) K4.out HR4.out rfl zW O1.out O2.out rfl rfl rfl
  rw [E1.out, E2.out]
  exact bodyPost_ret (results_stepI _ _ (w.heap.size + 1) _ _ _ rfl rfl R) rfl ⟨_, rfl, hO, hK⟩

set_option maxHeartbeats 3200000 in
set_option maxRecDepth 100000 in
theorem implAll (t : List Nd) (s : Spr) (v u : Value) (w : World) (h : RdNd w w.heap.size v t) (h' : RdS w w.heap.size u s) :
    Calls Try.prog 13 #[v, u] w fun e w' => ∃ z, e = .returned z ∧ OwnS w' w.heap.size w'.heap.size z (allS t s) ∧ Kept 0 0 w w' := by
  have HS := Lib.hid h'
  obtain ⟨A, c, rfl, h1⟩ := h
  have HT : Hid (RdNd w w.heap.size (.slice A t.length c) t) := ⟨A, c, rfl, h1⟩
  obtain ⟨hv, lv, rfl, ⟨A1, c1, rfl, s1⟩, ⟨A2, c2, rfl, s2⟩⟩ := h'
  clear h1 s1 s2
  obtain ⟨W, hW⟩ : ∃ W, W = (w.alloc (.cells #[.slice A1 s.told.length c1, .slice A2 s.work.length c2] 31)).alloc (.cells #[.slice none 0 0, .slice none 0 0] 31) := ⟨_, rfl⟩
  have KW : Hid (Kept 0 0 w W) := by show Kept _ _ _ _; rw [hW]; exact (Kept.alloc0 _ _).alloc _
  have B0 : Hid (Blk W w.heap.size 31 #[.slice A1 s.told.length c1, .slice A2 s.work.length c2]) := by show Blk _ _ _ _; rw [hW]; exact (Blk.new _ _ _).alloc _
  have R0 : Hid (Blk W (w.heap.size + 1) 31 #[.slice none 0 0, .slice none 0 0]) := by
    show Blk _ _ _ _
    rw [hW]
    have := Blk.new (w.alloc (.cells #[.slice A1 s.told.length c1, .slice A2 s.work.length c2] 31)) 31 #[.slice none 0 0, .slice none 0 0]
    simpa using this
  have CN := Lib.hid (notifying_any t s A c _ W (HT.out.up KW.out) (HS.out.up KW.out))
  have HW := Lib.hid hW
  have zW : w.heap.size + 2 ≤ W.heap.size := by rw [hW]; simp
  have b0 := bz0 B0.out
  have b1 := bz1 B0.out
  clear hW
  go_enter Try.func13, Try.ntmps13
  go_upto_region 1 with fail
  rw [← HW.out]
  go_wp2_with fail
  with_reducible refine CN.out.mono ?_
  rintro e w1 ⟨hk, hp⟩
  have K1 := Lib.hid (KW.out.trans hk)
  have R1 := Lib.hid (R0.out.kept hk (.inl (Nat.le_refl _)))
  have z1 := hk.size
  clear hk CN KW B0 HW R0 b0 b1
  have r0 := bz0 R1.out
  have r1 := bz1 R1.out
  have f0 := R1.out.frozen 0
  have f1 := R1.out.frozen 1
  cases q1 : spreadB t s
  · have E2 : Hid (allS t s = sprZ) := by show _ = _; simp [allS, q1]
    obtain rfl := hp.2 q1
    clear q1 hp
    go_wp2_with fail
    have R := Lib.hid (blk_two R1.out (.slice none 0 0) (.slice none 0 0))
    have KR := Lib.hid (K1.out.trans2 (kept_two _ (w.heap.size + 1) (.slice none 0 0) (.slice none 0 0)) (.inr (by omega)))
    rw [E2.out]
    exact bodyPost_ret (results_allI _ _ (w.heap.size + 1) _ _ rfl R.out) rfl ⟨_, rfl, OwnS.nil _ _ _, KR.out⟩
  obtain ⟨b, g, D, d, rfl, hN⟩ := hp.1 q1
  have HN := Lib.hid hN
  have HP := Lib.hid (spreadB_true.1 q1)
  have E2 : Hid (allS t s = allP t s) := by show _ = _; simp [allS, q1]
  clear q1 hN hp r0 r1 f0 f1
  go_wp2_with fail
  go_loopg [7] (meas s + 2) (fun k v7 wr => ∃ (q : Spr) (m : Bool), v7 = .bool m ∧ Hid (SprP t q ∧ allP t q = allP t s) ∧ Hid ((m = true → meas q + 1 < k) ∧ (m = false → allP t q = q)) ∧ Hid (Ntf wr W.heap.size b g A c t D d q) ∧ Hid (Blk wr (w.heap.size + 1) 31 #[.slice none 0 0, .slice none 0 0]) ∧ Hid (Kept 0 0 w wr))
  case atStart => exact ⟨s, true, rfl, Lib.hid ⟨HP.out, rfl⟩, Lib.hid ⟨fun _ => Nat.lt_succ_self _, fun h => by cases h⟩, HN, R1, K1⟩
  case round =>
    obtain ⟨q, m, rfl, HQ, HM, HNq, R3, HK⟩ := hrel
    have hgl := HNq.out.hg
    cases m with
    | true =>
      have mq : meas q + 1 < gk := HM.out.1 rfl
      have CP := Lib.hid (stepN_any wr _ b g c d A D t q HNq.out HQ.out.1)
      have HST := Lib.hid HQ.out.1.step
      have HT1 := Lib.hid (moved_true HQ.out.1)
      have HT0 := Lib.hid (moved_false (t := t) (s := q))
      obtain ⟨q2, hq2⟩ : ∃ q2, q2 = (stepP t q).1 := ⟨_, rfl⟩
      obtain ⟨mv, hmv⟩ : ∃ mv, mv = movedB t q := ⟨_, rfl⟩
      rw [← hq2] at CP HST HT1 HT0
      rw [← hmv] at CP HT1 HT0
      clear hq2 hmv
      go_wp2_with fail
      with_reducible refine CP.out.mono ?_
      rintro e w3 ⟨rfl, hn, hk⟩
      have N3 := Lib.hid hn
      have htop := HNq.out.top
      have K3 := Lib.hid (HK.out.trans2 hk (.inr (by omega)))
      have R4 := Lib.hid (R3.out.kept hk (.inr (.inl (by omega))))
      clear hn hk CP HNq HK R3
      go_wp2_with fail
      cases mv with
      | true =>
        have ⟨ha, hb⟩ := HT1.out rfl
        have HA := Lib.hid (ha.trans HQ.out.2)
        clear ha
        go_roundg (meas q2 + 2)
        case measure => omega
        case rel => exact ⟨q2, true, rfl, Lib.hid ⟨HST.out, HA.out⟩, Lib.hid ⟨fun _ => Nat.lt_succ_self _, fun h => by cases h⟩, N3, R4, K3⟩
      | false =>
        have ⟨ha, hb⟩ := HT0.out rfl
        subst hb
        have HA := Lib.hid ha
        clear ha
        go_roundg (0)
        case measure => omega
        case rel => exact ⟨q2, false, rfl, HQ, Lib.hid ⟨(fun h => by cases h), fun _ => HA.out⟩, N3, R4, K3⟩
    | false =>
      have E3 : Hid (allS t s = q) := by show _ = _; rw [E2.out, ← HQ.out.2, HM.out.2 rfl]
      have CS := Lib.hid (shown_any wr _ b g c d A D t _ HNq.out)
      clear HM
      go_wp2_with fail
      with_reducible refine CS.out.mono ?_
      rintro e w4 ⟨_, rfl, ⟨D2, d2, rfl, o2⟩, hk⟩
      have R4 := R3.out.kept hk (.inl (Nat.le_refl _))
      have r0 := bz0 R4
      have r1 := bz1 R4
      have f0 := R4.frozen 0
      have f1 := R4.frozen 1
      have z4 := hk.size
      have zr := HNq.out.top
      have O2 := Lib.hid (o2.wide (show W.heap.size ≤ wr.heap.size by omega) (Nat.le_refl _))
      have O1 := Lib.hid (OwnZ.of_row (row_kept HNq.out.told hk))
      have K4 := Lib.hid (HK.out.trans hk)
      have HR4 := Lib.hid R4
      clear o2 hk CS R4
      go_wp2_with fail
      obtain ⟨R, hO, hK⟩ := fin8 (s := q) K4.out HR4.out rfl zW O1.out O2.out rfl rfl rfl
      rw [E3.out]
      exact bodyPost_ret (results_allI _ _ (w.heap.size + 1) _ _ rfl R) rfl ⟨_, rfl, hO, hK⟩
end Go.Proofs.Ytlfbmjfbebbdlaa
