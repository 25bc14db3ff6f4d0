/- The program's Started; no condition beyond that the afters can be read. -/
import Derived.Test.YtnnbfcmbcjkpoaaCz
import Derived.Test.YtnnbfcmbcjkpoaaCh
namespace Go.Proofs.Ytnnbfcmbcjkpoaa
open Go.RowKit Go.Sort

/-- Afters and a function stored into two elder boxes. -/
theorem stored8 {w4 : World} {r lo lo' k1 k2 k3 : Nat} {E1 E2 E3 : Option Addr} {t : Afs} {x y z x0 x1 x2 x3 x4 : Value} (hR : Blk w4 r 34 #[x, y, z]) (hT : Blk w4 (r + 1) 42 #[x0, x1, x2, x3, x4]) (hr : r + 1 < lo) (hl : lo' ≤ lo) (p0 p1 p2 p3 p4 : Value)
    (o1 : OwnZ w4 lo w4.heap.size 2 1 E1 t.slots.ages.length k1 (iR.flat t.slots.ages)) (o2 : OwnZ w4 lo w4.heap.size 4 1 E2 t.slots.used.length k2 (bR.flat t.slots.used)) (o3 : OwnZ w4 lo w4.heap.size 42 5 E3 t.list.length k3 (afR.flat t.list)) :
    ∃ F, F = (((((((w4.setCell ⟨r, 0, none⟩ (.slice E1 t.slots.ages.length k1)).setCell ⟨r, 1, none⟩ (.slice E2 t.slots.used.length k2)).setCell ⟨r, 2, none⟩ (.slice E3 t.list.length k3)).setCell ⟨r + 1, 0, none⟩ p0).setCell ⟨r + 1, 1, none⟩ p1).setCell ⟨r + 1, 2, none⟩ p2).setCell ⟨r + 1, 3, none⟩ p3).setCell ⟨r + 1, 4, none⟩ p4 ∧
      Blk F r 34 #[.slice E1 t.slots.ages.length k1, .slice E2 t.slots.used.length k2, .slice E3 t.list.length k3] ∧ Blk F (r + 1) 42 #[p0, p1, p2, p3, p4] ∧ Kept r (r + 2) w4 F ∧ OwnAs F lo' F.heap.size (.agg #[.slice E1 t.slots.ages.length k1, .slice E2 t.slots.used.length k2, .slice E3 t.list.length k3]) t := by
  have BF := blkB hR hT (.slice E1 t.slots.ages.length k1) (.slice E2 t.slots.used.length k2) (.slice E3 t.list.length k3) p0 p1 p2 p3 p4
  have kF := keptB w4 r (.slice E1 t.slots.ages.length k1) (.slice E2 t.slots.used.length k2) (.slice E3 t.list.length k3) p0 p1 p2 p3 p4
  have zF := kF.size
  refine ⟨_, rfl, BF.1, BF.2, kF, ?_⟩
  refine ⟨_, _, _, rfl, ⟨E1, k1, rfl, ?_⟩, ⟨E2, k2, rfl, ?_⟩, ⟨E3, k3, rfl, ?_⟩⟩
  · exact (o1.kept kF (.inr (.inr (by omega)))).wide hl zF
  · exact (o2.kept kF (.inr (.inr (by omega)))).wide hl zF
  · exact (o3.kept kF (.inr (.inr (by omega)))).wide hl zF
/-- What is started: the results' boxes. -/
def StP (w : World) (t : Afs) (x : Aft) (wx : World) : Prop := ∃ (D1 : Option Addr) (d1 : Nat) (D2 : Option Addr) (d2 : Nat) (D3 : Option Addr) (d3 : Nat), Blk wx (w.heap.size + 1) 34 #[.slice D1 t.slots.ages.length d1, .slice D2 t.slots.used.length d2, .slice D3 t.list.length d3] ∧ Blk wx (w.heap.size + 1 + 1) 42 #[.int .i64 x.slot, .int .i64 x.age, .int .i64 x.node, .int .i64 x.func, .bool x.queued] ∧
    OwnAs wx w.heap.size wx.heap.size (.agg #[.slice D1 t.slots.ages.length d1, .slice D2 t.slots.used.length d2, .slice D3 t.list.length d3]) t ∧ Kept 0 0 w wx

set_option maxHeartbeats 6400000 in
set_option maxRecDepth 100000 in
theorem implStart : DoesAsS 15 := fun a v w h => by
  have HA := Lib.hid h
  obtain ⟨_, _, _, rfl, ⟨A1, c1, rfl, s1⟩, ⟨A2, c2, rfl, s2⟩, ⟨A3, c3, rfl, s3⟩⟩ := h
  clear s1 s2 s3
  obtain ⟨W, hW⟩ : ∃ W, W = ((w.alloc (.cells #[.slice A1 a.slots.ages.length c1, .slice A2 a.slots.used.length c2, .slice A3 a.list.length c3] 34)).alloc (.cells #[.slice none 0 0, .slice none 0 0, .slice none 0 0] 34)).alloc (.cells #[.int .i64 0, .int .i64 0, .int .i64 0, .int .i64 0, .bool false] 42) := ⟨_, rfl⟩
  have KW : Hid (Kept 0 0 w W) := by show Kept _ _ _ _; rw [hW]; exact ((Kept.alloc0 _ _).alloc _).alloc _
  have B0 : Hid (Blk W w.heap.size 34 #[.slice A1 a.slots.ages.length c1, .slice A2 a.slots.used.length c2, .slice A3 a.list.length c3]) := by show Blk _ _ _ _; rw [hW]; exact ((Blk.new _ _ _).alloc _).alloc _
  have R0 : Hid (Blk W (w.heap.size + 1) 34 #[.slice none 0 0, .slice none 0 0, .slice none 0 0]) := by
    show Blk _ _ _ _
    rw [hW]
    have := Blk.new (w.alloc (.cells #[.slice A1 a.slots.ages.length c1, .slice A2 a.slots.used.length c2, .slice A3 a.list.length c3] 34)) 34 #[.slice none 0 0, .slice none 0 0, .slice none 0 0]
    simp only [World.size_alloc] at this
    exact this.alloc _
  have T0 : Hid (Blk W (w.heap.size + 1 + 1) 42 #[.int .i64 0, .int .i64 0, .int .i64 0, .int .i64 0, .bool false]) := by
    show Blk _ _ _ _
    rw [hW]
    have := Blk.new ((w.alloc (.cells #[.slice A1 a.slots.ages.length c1, .slice A2 a.slots.used.length c2, .slice A3 a.list.length c3] 34)).alloc (.cells #[.slice none 0 0, .slice none 0 0, .slice none 0 0] 34)) 42 #[.int .i64 0, .int .i64 0, .int .i64 0, .int .i64 0, .bool false]
    simpa using this
  have zW : w.heap.size + 3 ≤ W.heap.size := by rw [hW]; simp
  have HW := Lib.hid hW
  have b0 := ax0 B0.out
  have b1 := ax1 B0.out
  have b2 := ax2 B0.out
  clear hW
  have CO := Lib.hid (deferringOf_any a _ W (HA.out.up KW.out))
  go_enter Try.func15, Try.ntmps15
  go_upto_region 1 with fail
  rw [← HW.out]
  go_wp2_with fail
  clear b0 b1 b2
  with_reducible refine CO.out.mono ?_
  rintro e w1 ⟨p, rfl, hk, hdf⟩
  have K1 := Lib.hid (KW.out.trans hk)
  have B1 := Lib.hid (B0.out.kept hk (.inl (Nat.le_refl _)))
  have R1 := Lib.hid (R0.out.kept hk (.inl (Nat.le_refl _)))
  have T1 := Lib.hid (T0.out.kept hk (.inl (Nat.le_refl _)))
  have z1 := hk.size
  have HDF := Lib.hid hdf
  clear hk hdf CO B0 T0 R0 KW HW B1
  cases q1 : aftersB a
  · have E := Lib.hid (pick_bad (p := goB) q1)
    have r0 := ax0 R1.out
    have f0 := R1.out.frozen 0
    have r1 := ax1 R1.out
    have f1 := R1.out.frozen 1
    have r2 := ax2 R1.out
    have f2 := R1.out.frozen 2
    have t0 := az0 T1.out
    have h0 := T1.out.frozen 0
    have t1 := az1 T1.out
    have h1 := T1.out.frozen 1
    have t2 := az2 T1.out
    have h2 := T1.out.frozen 2
    have t3 := az3 T1.out
    have h3 := T1.out.frozen 3
    have t4 := az4 T1.out
    have h4 := T1.out.frozen 4
    have BF := blkB R1.out T1.out (.slice none 0 0) (.slice none 0 0) (.slice none 0 0) (.int .i64 0) (.int .i64 0) (.int .i64 0) (.int .i64 0) (.bool false)
    have F0 := ax0 BF.1
    have F1 := ax1 BF.1
    have F2 := ax2 BF.1
    have G0 := az0 BF.2
    have G1 := az1 BF.2
    have G2 := az2 BF.2
    have G3 := az3 BF.2
    have G4 := az4 BF.2
    have KF := Lib.hid (keptB w1 (w.heap.size + 1) (.slice none 0 0) (.slice none 0 0) (.slice none 0 0) (.int .i64 0) (.int .i64 0) (.int .i64 0) (.int .i64 0) (.bool false))
    clear q1 BF
    go_wp2_with fail
    refine bodyPost_ret (v := .tuple #[.agg #[.slice none 0 0, .slice none 0 0, .slice none 0 0], .agg #[.int .i64 0, .int .i64 0, .int .i64 0, .int .i64 0, .bool false], .bool false]) (by simp [results, Try.results15, go_sem, F0, F1, F2, G0, G1, G2, G3, G4]) rfl ⟨_, ret_uxb (x := ⟨0, 0, 0, 0, false⟩) rfl E.out.2.2.symm E.out.1.symm, by rw [E.out.2.1]; exact OwnAs.asZ _ _ _, K1.out.trans2 KF.out (.inr (by omega))⟩
  have OK := Lib.hid (aftersB_true.1 q1)
  have Q1 := Lib.hid q1
  obtain ⟨g, m, D1, d1, D2, d2, D3, d3, ps, rfl, hd, hpe⟩ := HDF.out q1
  have ST : Hid (Shows w1 W.heap.size g a w1) := Shows.start OK.out hd hpe z1
  obtain ⟨hs, hhs⟩ : ∃ hs, hs = ps.map fun p => hnd p.1 := ⟨_, rfl⟩
  rw [← hhs] at hd
  have HL : Hid (hs.length = a.list.length) := by show _ = _; rw [hhs, ← hpe]; simp
  have HE : Hid (∀ n (h : n < hs.length) (h' : n < a.list.length), hs[n] = hnd a.list[n]) := by
    intro n h h'
    have h1 := congrArg (fun l => l[n]?) hhs
    have h2 := congrArg (fun l => l[n]?) hpe
    have hq : n < ps.length := by rw [hhs] at h; simpa using h
    simp only [List.getElem?_map, List.getElem?_eq_getElem hq, List.getElem?_eq_getElem h, List.getElem?_eq_getElem h', Option.map_some, Option.some.injEq] at h1 h2
    rw [h1, h2]
  have RW := Lib.hid (OwnZ.rd (R := hdR) hd.row).2
  have g2 : w1.cell? ⟨g, 2, none⟩ = some (.slice D3 a.list.length d3) := by have := hd.blk.cell 2; rw [HL.out] at this; exact this
  have zg := hd.blk.lt
  have ll := OK.out.len
  clear q1 HDF hd hpe hhs
  go_wp2_with fail
  go_loopw [24] (fun i wr => ∃ n : Nat, n ≤ a.list.length ∧ i = .int .i64 n ∧ Hid (NoneP goB a.list n) ∧ Hid (Kept 0 0 w1 wr)) (fun i _ => a.list.length - (intOf i).toNat)
  case atStart => exact ⟨0, Nat.zero_le _, rfl, Lib.hid (NoneP.zero _ _), Lib.hid (Kept.refl _ _ _)⟩
  case round =>
    obtain ⟨n, hn, rfl, HP, HK⟩ := hrel
    have SR := Lib.hid (ST.out.kept HK.out)
    have zR := HK.out.size
    by_cases hlt : n < a.list.length
    · have i1 : (n : Int) < (a.list.length : Int) := by omega
      obtain ⟨ad, rfl, _, e0, e1⟩ := (RW.out.kept (Nat.le_refl _) HK.out (.inl (Nat.le_refl _))).hd (k := n) (by rw [HL.out]; exact hlt)
      rw [HE.out n _ hlt] at e0 e1
      obtain ⟨x, hx⟩ : ∃ x, x = a.list[n] := ⟨_, rfl⟩
      rw [← hx] at e0 e1
      simp only [hnd] at e0 e1
      have HX := Lib.hid hx
      clear hx
      obtain ⟨V, hV⟩ : ∃ V, V = wr.alloc (.cells #[.int .i64 x.slot, .int .i64 x.age] 40) := ⟨_, rfl⟩
      have KV : Hid (Kept 0 0 wr V) := by show Kept _ _ _ _; rw [hV]; exact Kept.alloc0 _ _
      have BV : Hid (Blk V wr.heap.size 40 #[.int .i64 x.slot, .int .i64 x.age]) := by show Blk _ _ _ _; rw [hV]; exact Blk.new _ _ _
      have HV := Lib.hid hV
      have zV := KV.out.size
      clear hV
      go_upto_region 7 with fail
      rw [← HV.out]
      have v0 : V.cell? ⟨wr.heap.size, 0, none⟩ = some (.int .i64 x.slot) := BV.out.cell 0
      have v1 : V.cell? ⟨wr.heap.size, 1, none⟩ = some (.int .i64 x.age) := BV.out.cell 1
      have CF := Lib.hid (find_s (SR.out.kept KV.out) hlt)
      rw [← HX.out] at CF
      unfold hkey hnd afC at CF
      clear HV e0 e1
      go_wp2_with fail
      with_reducible refine CF.out.mono ?_
      rintro e w3 ⟨rfl, hk⟩
      obtain ⟨Y, hY⟩ : ∃ Y, Y = w3.alloc (.cells #[.int .i64 x.slot, .int .i64 x.age, .int .i64 x.node, .int .i64 x.func, .bool x.queued] 42) := ⟨_, rfl⟩
      have kY : Kept 0 0 w3 Y := by rw [hY]; exact Kept.alloc0 _ _
      have BY : Hid (Blk Y w3.heap.size 42 #[.int .i64 x.slot, .int .i64 x.age, .int .i64 x.node, .int .i64 x.func, .bool x.queued]) := by show Blk _ _ _ _; rw [hY]; exact Blk.new _ _ _
      have HBY := Lib.hid ((BV.out.kept hk (.inl (Nat.le_refl _))).kept kY (.inl (Nat.le_refl _)))
      have KY : Hid (Kept 0 0 w1 Y) := ((HK.out.trans KV.out).trans hk).trans kY
      have SY := Lib.hid (ST.out.kept KY.out)
      have HY := Lib.hid hY
      have zY : W.heap.size ≤ w3.heap.size := by have := hk.size; omega
      have y4 : Y.cell? ⟨w3.heap.size, 4, none⟩ = some (.bool x.queued) := BY.out.cell 4
      have u0 : Y.cell? ⟨wr.heap.size, 0, none⟩ = some (.int .i64 x.slot) := HBY.out.cell 0
      have u1 : Y.cell? ⟨wr.heap.size, 1, none⟩ = some (.int .i64 x.age) := HBY.out.cell 1
      clear hk hY kY CF v0 v1
      go_upto_region 8 with fail
      rw [← HY.out]
      clear HY
      cases d2 : x.queued
      case false =>
        rw [d2] at y4
        have ED : Hid (NoneP goB a.list (n + 1)) := HP.out.succ hlt (by rw [← HX.out]; unfold goB; simp [d2])
        clear d2
        go_wp2_with fail
        go_roundw
        case rel => exact ⟨n + 1, by omega, by go_num, ED, KY⟩
        case measure => simp [intOf]; omega
      rw [d2] at y4
      have DA : Hid (dropSB a.slots x.slot x.age = decide (x.age < 1000000)) := by show _ = _; have := drop_of_after OK.out hlt; rwa [← HX.out] at this
      by_cases d3 : x.age < 1000000
      case neg =>
        have ED : Hid (NoneP goB a.list (n + 1)) := HP.out.succ hlt (by rw [← HX.out]; unfold goB; simp [d2, d3])
        have CR := Lib.hid (remove_s_no SY.out (b := (x.slot, x.age)) (by rw [DA.out]; simpa using d3))
        unfold hkey at CR
        clear d2 d3
        go_wp2_with fail
        with_reducible refine CR.out.mono ?_
        rintro e w4 ⟨rfl, hk⟩
        have KF := Lib.hid (KY.out.trans hk)
        clear hk
        go_wp2_with fail
        go_roundw
        case rel => exact ⟨n + 1, by omega, by go_num, ED, KF⟩
        case measure => simp [intOf]; omega
      have ED := Lib.hid (pick_some (p := goB) Q1.out hlt (by rw [← HX.out]; unfold goB; simp [d2, d3]) HP.out)
      rw [← HX.out] at ED
      have CR := Lib.hid (remove_s_yes SY.out hlt (by rw [← HX.out, DA.out]; simpa using d3))
      rw [← HX.out] at CR
      unfold hkey hnd at CR
      obtain ⟨t, ht⟩ : ∃ t, t = awayA a n := ⟨_, rfl⟩
      rw [← ht] at CR ED
      clear d2 d3 ht
      go_wp2_with fail
      with_reducible refine CR.out.mono ?_
      rintro e w5 ⟨rfl, hsh, hof⟩
      have S5 := Lib.hid hsh
      have BO := Lib.hid (BY.out.off hof (by rfl))
      have B5 := Lib.hid hsh.below
      have R5 := Lib.hid (R1.out.below B5.out (by omega))
      have T5 := Lib.hid (T1.out.below B5.out (by omega))
      have K5 : Hid (Kept 0 0 w w5) := K1.out.trans2 (Kept.of_below_from B5.out) (.inr (by omega))
      have z5 := B5.out.size
      have CS := Lib.hid (shown_s (S5.out.kept (Kept.refl 0 0 w5).drew))
      have o0 := az0 BO.out
      have o1 := az1 BO.out
      have o2 := az2 BO.out
      have o3 := az3 BO.out
      have o4 := az4 BO.out
      have zo := BO.out.lt
      clear hsh hof CR y4 u0 u1
      go_upto_region 9 with fail
      go_cut [4] (fun v4 wx => v4 = .bool true ∧ StP w t x wx)
      case first =>
        go_region_with ((with_reducible refine CS.out.mono ?_); rintro e w6 ⟨_, rfl, ⟨_, _, _, rfl, ⟨E1, k1, rfl, p1⟩, ⟨E2, k2, rfl, p2⟩, ⟨E3, k3, rfl, p3⟩⟩, hk6⟩; have k6 : Kept 0 0 w5 w6 := (Kept.refl 0 0 w5).drew.trans hk6; have R6 := R5.out.kept k6 (.inl (Nat.le_refl _)); have T6 := T5.out.kept k6 (.inl (Nat.le_refl _)); have O6 := BO.out.kept k6 (.inl (Nat.le_refl _)); have o0 := az0 O6; have o1 := az1 O6; have o2 := az2 O6; have o3 := az3 O6; have o4 := az4 O6; have r0 := ax0 R6; have r1 := ax1 R6; have r2 := ax2 R6; have f0 := R6.frozen 0; have f1 := R6.frozen 1; have f2 := R6.frozen 2; have t0 := az0 T6; have t1 := az1 T6; have t2 := az2 T6; have t3 := az3 T6; have t4 := az4 T6; have h0 := T6.frozen 0; have h1 := T6.frozen 1; have h2 := T6.frozen 2; have h3 := T6.frozen 3; have h4 := T6.frozen 4)
        all_goals (go_wp2_with fail; go_meet)
        all_goals (
          obtain ⟨F, hF, BF, BG, kF, res⟩ := stored8 (lo' := w.heap.size) R6 T6 (by omega) (by omega) (.int .i64 x.slot) (.int .i64 x.age) (.int .i64 x.node) (.int .i64 x.func) (.bool x.queued) p1 p2 p3
          have KF : Kept 0 0 w F := (K5.out.trans k6).trans2 kF (.inr (by omega))
          refine ⟨rfl, ?_⟩
          show StP w t x _
          rw [← hF]
          exact ⟨E1, k1, E2, k2, E3, k3, BF, BG, res, KF⟩)
      case rest =>
        obtain ⟨rfl, D1, d1, D2, d2, D3, d3, U1, U2, HO, HK9⟩ := hcut
        have F0 := ax0 U1
        have F1 := ax1 U1
        have F2 := ax2 U1
        have G0 := az0 U2
        have G1 := az1 U2
        have G2 := az2 U2
        have G3 := az3 U2
        have G4 := az4 U2
        go_wp2_with fail
        exact bodyPost_ret (v := .tuple #[.agg #[.slice D1 t.slots.ages.length d1, .slice D2 t.slots.used.length d2, .slice D3 t.list.length d3], .agg #[.int .i64 x.slot, .int .i64 x.age, .int .i64 x.node, .int .i64 x.func, .bool x.queued], .bool true]) (by simp [results, Try.results15, go_sem, F0, F1, F2, G0, G1, G2, G3, G4]) rfl ⟨_, ret_uxb (x := x) rfl ED.out.2.2.symm ED.out.1.symm, by rw [ED.out.2.1]; exact HO, HK9⟩
    · have E := Lib.hid (pick_none (p := goB) Q1.out (show NoneP _ _ _ from by have := HP.out; rwa [show n = a.list.length by omega] at this))
      have j1 : ¬ (n : Int) < (a.list.length : Int) := by omega
      have CS := Lib.hid (shown_s SR.out)
      have RR := Lib.hid (R1.out.kept HK.out (.inl (Nat.le_refl _)))
      have TR := Lib.hid (T1.out.kept HK.out (.inl (Nat.le_refl _)))
      have KR := Lib.hid (K1.out.trans HK.out)
      go_wp2_with fail
      with_reducible refine CS.out.mono ?_
      rintro e w4 ⟨_, rfl, ⟨_, _, _, rfl, ⟨E1, k1, rfl, p1⟩, ⟨E2, k2, rfl, p2⟩, ⟨E3, k3, rfl, p3⟩⟩, hk4⟩
      have R4 := RR.out.kept hk4 (.inl (Nat.le_refl _))
      have T4 := TR.out.kept hk4 (.inl (Nat.le_refl _))
      obtain ⟨F, hF, BF, BG, kF, res⟩ := stored8 (lo' := w.heap.size) R4 T4 (by omega) (by omega) (.int .i64 0) (.int .i64 0) (.int .i64 0) (.int .i64 0) (.bool false) p1 p2 p3
      have KF : Hid (Kept 0 0 w F) := (KR.out.trans hk4).trans2 kF (.inr (by omega))
      have RES := Lib.hid res
      have HF := Lib.hid hF
      have FF := Lib.hid (And.intro BF BG)
      have r0 := ax0 R4
      have r1 := ax1 R4
      have r2 := ax2 R4
      have f0 := R4.frozen 0
      have f1 := R4.frozen 1
      have f2 := R4.frozen 2
      have t0 := az0 T4
      have t1 := az1 T4
      have t2 := az2 T4
      have t3 := az3 T4
      have t4 := az4 T4
      have h0 := T4.frozen 0
      have h1 := T4.frozen 1
      have h2 := T4.frozen 2
      have h3 := T4.frozen 3
      have h4 := T4.frozen 4
      clear hF BF BG kF res R4 T4 p1 p2 p3 hk4 CS
      go_wp2_with fail
      rw [← HF.out]
      have F0 := ax0 FF.out.1
      have F1 := ax1 FF.out.1
      have F2 := ax2 FF.out.1
      have G0 := az0 FF.out.2
      have G1 := az1 FF.out.2
      have G2 := az2 FF.out.2
      have G3 := az3 FF.out.2
      have G4 := az4 FF.out.2
      exact bodyPost_ret (v := .tuple #[.agg #[.slice E1 a.slots.ages.length k1, .slice E2 a.slots.used.length k2, .slice E3 a.list.length k3], .agg #[.int .i64 0, .int .i64 0, .int .i64 0, .int .i64 0, .bool false], .bool false]) (by simp [results, Try.results15, go_sem, F0, F1, F2, G0, G1, G2, G3, G4]) rfl ⟨_, ret_uxb (x := ⟨0, 0, 0, 0, false⟩) rfl E.out.2.2.symm E.out.1.symm, by rw [E.out.2.1]; exact RES.out, KF.out⟩
end Go.Proofs.Ytnnbfcmbcjkpoaa
