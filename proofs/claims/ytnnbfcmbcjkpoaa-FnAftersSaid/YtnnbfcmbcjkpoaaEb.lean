/- The program's Registered; no condition beyond that the afters can be read. -/
import Derived.Test.YtnnbfcmbcjkpoaaEa
import Derived.Test.YtnnbfcmbcjkpoaaCj
namespace Go.Proofs.Ytnnbfcmbcjkpoaa
open Go.RowKit Go.Sort

/-- Afters and a handle stored into two elder boxes. -/
theorem stored5 {w4 : World} {r lo lo' k1 k2 k3 : Nat} {E1 E2 E3 : Option Addr} {t : Afs} {x y z x0 x1 : Value} (hR : Blk w4 r 34 #[x, y, z]) (hT : Blk w4 (r + 1) 40 #[x0, x1]) (hr : r + 1 < lo) (hl : lo' ≤ lo) (p0 p1 : Value)
    (o1 : OwnZ w4 lo w4.heap.size 2 1 E1 t.slots.ages.length k1 (iR.flat t.slots.ages)) (o2 : OwnZ w4 lo w4.heap.size 4 1 E2 t.slots.used.length k2 (bR.flat t.slots.used)) (o3 : OwnZ w4 lo w4.heap.size 42 5 E3 t.list.length k3 (afR.flat t.list)) :
    ∃ F, F = ((((w4.setCell ⟨r, 0, none⟩ (.slice E1 t.slots.ages.length k1)).setCell ⟨r, 1, none⟩ (.slice E2 t.slots.used.length k2)).setCell ⟨r, 2, none⟩ (.slice E3 t.list.length k3)).setCell ⟨r + 1, 0, none⟩ p0).setCell ⟨r + 1, 1, none⟩ p1 ∧
      Blk F r 34 #[.slice E1 t.slots.ages.length k1, .slice E2 t.slots.used.length k2, .slice E3 t.list.length k3] ∧ Blk F (r + 1) 40 #[p0, p1] ∧ Kept r (r + 2) w4 F ∧ OwnAs F lo' F.heap.size (.agg #[.slice E1 t.slots.ages.length k1, .slice E2 t.slots.used.length k2, .slice E3 t.list.length k3]) t := by
  have BF := blkC hR hT (.slice E1 t.slots.ages.length k1) (.slice E2 t.slots.used.length k2) (.slice E3 t.list.length k3) p0 p1
  have kF := keptC w4 r (.slice E1 t.slots.ages.length k1) (.slice E2 t.slots.used.length k2) (.slice E3 t.list.length k3) p0 p1
  have zF := kF.size
  refine ⟨_, rfl, BF.1, BF.2, kF, ?_⟩
  refine ⟨_, _, _, rfl, ⟨E1, k1, rfl, ?_⟩, ⟨E2, k2, rfl, ?_⟩, ⟨E3, k3, rfl, ?_⟩⟩
  · exact (o1.kept kF (.inr (.inr (by omega)))).wide hl zF
  · exact (o2.kept kF (.inr (.inr (by omega)))).wide hl zF
  · exact (o3.kept kF (.inr (.inr (by omega)))).wide hl zF
/-- What is registered: the results' boxes. -/
def RgP (w : World) (t : Afs) (h : Int × Int) (wx : World) : Prop := ∃ (D1 : Option Addr) (d1 : Nat) (D2 : Option Addr) (d2 : Nat) (D3 : Option Addr) (d3 : Nat), Blk wx (w.heap.size + 1) 34 #[.slice D1 t.slots.ages.length d1, .slice D2 t.slots.used.length d2, .slice D3 t.list.length d3] ∧ Blk wx (w.heap.size + 1 + 1) 40 #[.int .i64 h.1, .int .i64 h.2] ∧
    OwnAs wx w.heap.size wx.heap.size (.agg #[.slice D1 t.slots.ages.length d1, .slice D2 t.slots.used.length d2, .slice D3 t.list.length d3]) t ∧ Kept 0 0 w wx
/-- The handle that is taken is no held one. -/
theorem taken_new {s : Slt} (hb : takeSB s = true) {x : Aft} (hx : slHolds s x.slot x.age = true) : hnd x ≠ takeSH s := by
  intro e
  unfold takeSB at hb
  cases hf : freeO s with
  | none => rw [hf] at hb; cases hb
  | some k =>
    have e1 : x.slot = (k : Int) := by have := congrArg Prod.fst e; simpa [hnd, takeSH, hf] using this
    have h2 : holdsB s.ages s.used x.slot x.age = true := hx
    simp only [holdsB, Bool.and_eq_true, e1, Int.toNat_natCast] at h2
    unfold freeO at hf
    split at hf
    · have h3 := List.find?_some hf
      simp only [freeB, Bool.and_eq_true, Bool.not_eq_true'] at h3
      have h4 := h2.1.2
      have h5 := h3.1
      by_cases hk : k < s.used.length
      · simp [hk] at h4 h5
        rw [h4] at h5
        cases h5
      · simp [hk] at h4
    · cases hf

set_option maxHeartbeats 6400000 in
set_option maxRecDepth 100000 in
theorem implReg : DoesAsR 17 := fun a node fn v w h => by
  have HA := Lib.hid h
  obtain ⟨_, _, _, rfl, ⟨A1, c1, rfl, s1⟩, ⟨A2, c2, rfl, s2⟩, ⟨A3, c3, rfl, s3⟩⟩ := h
  clear s1 s2 s3
  obtain ⟨W, hW⟩ : ∃ W, W = ((w.alloc (.cells #[.slice A1 a.slots.ages.length c1, .slice A2 a.slots.used.length c2, .slice A3 a.list.length c3] 34)).alloc (.cells #[.slice none 0 0, .slice none 0 0, .slice none 0 0] 34)).alloc (.cells #[.int .i64 0, .int .i64 0] 40) := ⟨_, rfl⟩
  have KW : Hid (Kept 0 0 w W) := by show Kept _ _ _ _; rw [hW]; exact ((Kept.alloc0 _ _).alloc _).alloc _
  have B0 : Hid (Blk W w.heap.size 34 #[.slice A1 a.slots.ages.length c1, .slice A2 a.slots.used.length c2, .slice A3 a.list.length c3]) := by show Blk _ _ _ _; rw [hW]; exact ((Blk.new _ _ _).alloc _).alloc _
  have R0 : Hid (Blk W (w.heap.size + 1) 34 #[.slice none 0 0, .slice none 0 0, .slice none 0 0]) := by
    show Blk _ _ _ _
    rw [hW]
    have := Blk.new (w.alloc (.cells #[.slice A1 a.slots.ages.length c1, .slice A2 a.slots.used.length c2, .slice A3 a.list.length c3] 34)) 34 #[.slice none 0 0, .slice none 0 0, .slice none 0 0]
    simp only [World.size_alloc] at this
    exact this.alloc _
  have T0 : Hid (Blk W (w.heap.size + 1 + 1) 40 #[.int .i64 0, .int .i64 0]) := by
    show Blk _ _ _ _
    rw [hW]
    have := Blk.new ((w.alloc (.cells #[.slice A1 a.slots.ages.length c1, .slice A2 a.slots.used.length c2, .slice A3 a.list.length c3] 34)).alloc (.cells #[.slice none 0 0, .slice none 0 0, .slice none 0 0] 34)) 40 #[.int .i64 0, .int .i64 0]
    simpa using this
  have zW : w.heap.size + 3 ≤ W.heap.size := by rw [hW]; simp
  have HW := Lib.hid hW
  have b0 := ax0 B0.out
  have b1 := ax1 B0.out
  have b2 := ax2 B0.out
  clear hW
  have CO := Lib.hid (deferringOf_any a _ W (HA.out.up KW.out))
  go_enter Try.func17, Try.ntmps17
  go_upto_region 1 with fail
  rw [← HW.out]
  go_wp2_with fail
  clear b0 b1 b2
  with_reducible refine CO.out.mono ?_
  rintro e w1 ⟨p, rfl, hk, hdf⟩
  have K1 := Lib.hid (KW.out.trans hk)
  have B1 := Lib.hid (B0.out.kept hk (.inl (Nat.le_refl _)))
  have R1 := Lib.hid (R0.out.kept hk (.inl (Nat.le_refl _)))
  have T1 := Lib.hid (T0.out.kept hk (.inl (Nat.le_refl _)))
  have z1 := hk.size
  have HDF := Lib.hid hdf
  clear hk hdf CO B0 R0 T0 KW HW B1
  cases q1 : aftersB a
  · have E := Lib.hid (reg_bad (node := node) (fn := fn) q1)
    have r0 := ax0 R1.out
    have f0 := R1.out.frozen 0
    have r1 := ax1 R1.out
    have f1 := R1.out.frozen 1
    have r2 := ax2 R1.out
    have f2 := R1.out.frozen 2
    have t0 := ay0 T1.out
    have h0 := T1.out.frozen 0
    have t1 := ay1 T1.out
    have h1 := T1.out.frozen 1
    have BF := blkC R1.out T1.out (.slice none 0 0) (.slice none 0 0) (.slice none 0 0) (.int .i64 0) (.int .i64 0)
    have F0 := ax0 BF.1
    have F1 := ax1 BF.1
    have F2 := ax2 BF.1
    have G0 := ay0 BF.2
    have G1 := ay1 BF.2
    have KF := Lib.hid (keptC w1 (w.heap.size + 1) (.slice none 0 0) (.slice none 0 0) (.slice none 0 0) (.int .i64 0) (.int .i64 0))
    clear q1 BF
    go_wp2_with fail
    refine bodyPost_ret (v := .tuple #[.agg #[.slice none 0 0, .slice none 0 0, .slice none 0 0], .agg #[.int .i64 0, .int .i64 0], .bool false]) (by simp [results, Try.results17, go_sem, F0, F1, F2, G0, G1]) rfl ⟨_, ret_reg (s := (0, 0)) E.out.2.2.symm E.out.1.symm, by rw [E.out.2.1]; exact OwnAs.asZ _ _ _, K1.out.trans2 KF.out (.inr (by omega))⟩
  have OK := Lib.hid (aftersB_true.1 q1)
  have Q1 := Lib.hid q1
  obtain ⟨g, m, D1, d1, D2, d2, D3, d3, ps, rfl, hd, hpe⟩ := HDF.out q1
  have ST : Hid (Shows w1 W.heap.size g a w1) := Shows.start OK.out hd hpe z1
  have HD := Lib.hid hd
  have HPE := Lib.hid hpe
  have CT := Lib.hid (implTake a.slots _ w1 hd.rdS)
  have b0 : w1.cell? ⟨g, 0, none⟩ = some (.slice D1 a.slots.ages.length d1) := hd.blk.cell 0
  have b1 : w1.cell? ⟨g, 1, none⟩ = some (.slice D2 a.slots.used.length d2) := hd.blk.cell 1
  have zg := hd.blk.lt
  obtain ⟨th, hth⟩ : ∃ th, th = takeSH a.slots := ⟨_, rfl⟩
  obtain ⟨tt, htt⟩ : ∃ tt, tt = takeST a.slots := ⟨_, rfl⟩
  obtain ⟨tb, htb⟩ : ∃ tb, tb = takeSB a.slots := ⟨_, rfl⟩
  rw [← hth, ← htt, ← htb] at CT
  have HTH := Lib.hid hth
  have HTT := Lib.hid htt
  have HTB := Lib.hid htb
  clear q1 HDF hd hpe hth htt htb
  go_wp2_with fail
  with_reducible refine CT.out.mono ?_
  rintro e w2 ⟨_, rfl, ⟨_, _, rfl, ⟨E1, k1, rfl, o1⟩, ⟨E2, k2, rfl, o2⟩⟩, hk2⟩
  obtain ⟨X, hX⟩ : ∃ X, X = (w2.alloc (.cells #[.slice E1 tt.ages.length k1, .slice E2 tt.used.length k2] 31)).alloc (.cells #[.int .i64 th.1, .int .i64 th.2] 40) := ⟨_, rfl⟩
  have kX : Kept 0 0 w2 X := by rw [hX]; exact (Kept.alloc0 _ _).alloc _
  have zX : w2.heap.size + 2 = X.heap.size := by rw [hX]; simp
  have z2 := hk2.size
  have BS : Hid (Blk X w2.heap.size 31 #[.slice E1 tt.ages.length k1, .slice E2 tt.used.length k2]) := by show Blk _ _ _ _; rw [hX]; exact (Blk.new _ _ _).alloc _
  have BH : Hid (Blk X (w2.heap.size + 1) 40 #[.int .i64 th.1, .int .i64 th.2]) := by
    show Blk _ _ _ _
    rw [hX]
    have := Blk.new (w2.alloc (.cells #[.slice E1 tt.ages.length k1, .slice E2 tt.used.length k2] 31)) 40 #[.int .i64 th.1, .int .i64 th.2]
    simpa using this
  have O1 := Lib.hid ((o1.kept kX (.inl (Nat.le_refl _))).wide (show W.heap.size ≤ w1.heap.size from z1) kX.size)
  have O2 := Lib.hid ((o2.kept kX (.inl (Nat.le_refl _))).wide (show W.heap.size ≤ w1.heap.size from z1) kX.size)
  have KX : Hid (Kept 0 0 w1 X) := hk2.trans kX
  have HXX := Lib.hid hX
  clear hX kX hk2 o1 o2 CT b0 b1
  go_upto_region 5 with fail
  rw [← HXX.out]
  clear HXX
  have h0 : X.cell? ⟨w2.heap.size + 1, 0, none⟩ = some (.int .i64 th.1) := BH.out.cell 0
  have h1 : X.cell? ⟨w2.heap.size + 1, 1, none⟩ = some (.int .i64 th.2) := BH.out.cell 1
  obtain ⟨Y, hY⟩ : ∃ Y, Y = X.alloc (.cells #[.int .i64 th.1, .int .i64 th.2, .int .i64 node, .int .i64 fn, .bool false] 42) := ⟨_, rfl⟩
  have kY : Kept 0 0 X Y := by rw [hY]; exact Kept.alloc0 _ _
  have BY : Hid (Blk Y X.heap.size 42 #[.int .i64 th.1, .int .i64 th.2, .int .i64 node, .int .i64 fn, .bool false]) := by show Blk _ _ _ _; rw [hY]; exact Blk.new _ _ _
  have zY := kY.size
  have KY : Hid (Kept 0 0 w1 Y) := KX.out.trans kY
  have SY := Lib.hid (BS.out.kept kY (.inl (Nat.le_refl _)))
  have HY := Lib.hid (BH.out.kept kY (.inl (Nat.le_refl _)))
  have P1 := Lib.hid ((O1.out.kept kY (.inl (Nat.le_refl _))).wide (Nat.le_refl _) kY.size)
  have P2 := Lib.hid ((O2.out.kept kY (.inl (Nat.le_refl _))).wide (Nat.le_refl _) kY.size)
  have HYY := Lib.hid hY
  clear hY kY
  go_upto_region 6 with fail
  rw [← HYY.out]
  clear HYY h0 h1 O1 O2 BS BH
  have y0 := az0 BY.out
  have y1 := az1 BY.out
  have y2 := az2 BY.out
  have y3 := az3 BY.out
  have y4 := az4 BY.out
  have CI := Lib.hid (isAfter_any ⟨th.1, th.2, node, fn, false⟩ Y)
  unfold afC at CI
  -- behind region 6: nothing turned, and the test
  go_cut [13, 43] (fun v13 v43 wx => (∃ b, v13 = .bool b) ∧ v43 = .bool (!(regOk a node fn)) ∧ Hid (Kept 0 0 Y wx))
  case first =>
    cases q2 : tb
    · have E : Hid (regOk a node fn = false) := by show _ = _; unfold regOk; rw [← HTB.out, q2]; rfl
      clear q2
      go_wp2_with fail
      go_meet
      exact ⟨⟨_, rfl⟩, by rw [E.out]; rfl, Lib.hid (Kept.refl _ _ _)⟩
    · have E : Hid (regOk a node fn = isAfB ⟨th.1, th.2, node, fn, false⟩) := by show _ = _; unfold regOk; rw [← HTB.out, q2]; rfl
      clear q2
      go_wp2_with fail
      with_reducible refine CI.out.mono ?_
      rintro e w3 ⟨rfl, hk3⟩
      have K3 := Lib.hid hk3
      clear hk3
      go_wp2_with fail
      go_meet
      exact ⟨⟨_, rfl⟩, by rw [E.out], K3⟩
  case rest =>
  obtain ⟨Z, rfl⟩ : ∃ Z : World, Z = wc := ⟨_, rfl⟩
  obtain ⟨⟨b13, rfl⟩, rfl, KZ⟩ := hcut
  have zZ := KZ.out.size
  have K1Z : Hid (Kept 0 0 w1 Z) := KY.out.trans KZ.out
  clear y0 y1 y2 y3 y4 CI
  cases q3 : regOk a node fn
  · have E := Lib.hid (reg_no (node := node) (fn := fn) Q1.out q3)
    have CS := Lib.hid (shown_s (ST.out.kept K1Z.out))
    have RR := Lib.hid (R1.out.kept K1Z.out (.inl (Nat.le_refl _)))
    have TR := Lib.hid (T1.out.kept K1Z.out (.inl (Nat.le_refl _)))
    have KR := Lib.hid (K1.out.trans K1Z.out)
    clear q3
    go_wp2_with fail
    with_reducible refine CS.out.mono ?_
    rintro e w4 ⟨_, rfl, ⟨_, _, _, rfl, ⟨E1, k1, rfl, p1⟩, ⟨E2, k2, rfl, p2⟩, ⟨E3, k3, rfl, p3⟩⟩, hk4⟩
    have R4 := RR.out.kept hk4 (.inl (Nat.le_refl _))
    have T4 := TR.out.kept hk4 (.inl (Nat.le_refl _))
    obtain ⟨F, hF, BF, BG, kF, res⟩ := stored5 (lo' := w.heap.size) R4 T4 (by omega) (by omega) (.int .i64 0) (.int .i64 0) p1 p2 p3
    have KF : Hid (Kept 0 0 w F) := (KR.out.trans hk4).trans2 kF (.inr (by omega))
    have RES := Lib.hid res
    have HF := Lib.hid hF
    have FF := Lib.hid (And.intro BF BG)
    have r0 := ax0 R4
    have r1 := ax1 R4
    have r2 := ax2 R4
    have f0 := R4.frozen 0
    have f1 := R4.frozen 1
    have f2 := R4.frozen 2
    have t0 := ay0 T4
    have t1 := ay1 T4
    have h0 := T4.frozen 0
    have h1 := T4.frozen 1
    clear hF BF BG kF res R4 T4 p1 p2 p3 hk4 CS
    go_wp2_with fail
    rw [← HF.out]
    have F0 := ax0 FF.out.1
    have F1 := ax1 FF.out.1
    have F2 := ax2 FF.out.1
    have G0 := ay0 FF.out.2
    have G1 := ay1 FF.out.2
    exact bodyPost_ret (v := .tuple #[.agg #[.slice E1 a.slots.ages.length k1, .slice E2 a.slots.used.length k2, .slice E3 a.list.length k3], .agg #[.int .i64 0, .int .i64 0], .bool false]) (by simp [results, Try.results17, go_sem, F0, F1, F2, G0, G1]) rfl ⟨_, ret_reg (s := (0, 0)) E.out.2.2.symm E.out.1.symm, by rw [E.out.2.1]; exact RES.out, KF.out⟩
  have E := Lib.hid (reg_yes (node := node) (fn := fn) Q1.out q3)
  have TB : Hid (takeSB a.slots = true) := by show _ = _; unfold regOk at q3; simp only [Bool.and_eq_true] at q3; exact q3.1
  have NB : Hid (0 ≤ node) := by show _ ≤ _; unfold regOk at q3; simp only [Bool.and_eq_true, inR_true] at q3; exact q3.2.1.1
  obtain ⟨x, hx⟩ : ∃ x : Aft, x = ⟨th.1, th.2, node, fn, false⟩ := ⟨_, rfl⟩
  have HX := Lib.hid hx
  have SZ := Lib.hid (SY.out.kept KZ.out (.inl (Nat.le_refl _)))
  have HZ := Lib.hid (HY.out.kept KZ.out (.inl (Nat.le_refl _)))
  have BZ := Lib.hid (BY.out.kept KZ.out (.inl (Nat.le_refl _)))
  have DZ := Lib.hid (HD.out.kept K1Z.out)
  have DV := Lib.hid (DZ.out.slots ((P1.out.kept KZ.out (.inl (Nat.le_refl _))).wide (Nat.le_refl _) KZ.out.size) ((P2.out.kept KZ.out (.inl (Nat.le_refl _))).wide (Nat.le_refl _) KZ.out.size))
  obtain ⟨V, hV⟩ : ∃ V, V = (Z.setCell ⟨g, 0, none⟩ (.slice E1 tt.ages.length k1)).setCell ⟨g, 1, none⟩ (.slice E2 tt.used.length k2) := ⟨_, rfl⟩
  rw [← hV] at DV
  have kV : Kept g (g + 1) Z V := by rw [hV]; exact ((Kept.refl g (g + 1) Z).setCell (p := ⟨g, 0, none⟩) (.inr ⟨Nat.le_refl _, Nat.lt_succ_self _⟩) _).setCell (p := ⟨g, 1, none⟩) (.inr ⟨Nat.le_refl _, Nat.lt_succ_self _⟩) _
  have zV := kV.size
  have HV1 := Lib.hid (HZ.out.kept kV (by omega))
  have BV := Lib.hid (BZ.out.kept kV (by omega))
  have LV : Hid (Below W.heap.size w1 V) := (K1Z.out.below z1 (.inl (Nat.le_refl _))).trans (kV.below (by omega) (.inr HD.out.glo))
  have HV := Lib.hid hV
  have s0 : Z.cell? ⟨w2.heap.size, 0, none⟩ = some (.slice E1 tt.ages.length k1) := SZ.out.cell 0
  have s1 : Z.cell? ⟨w2.heap.size, 1, none⟩ = some (.slice E2 tt.used.length k2) := SZ.out.cell 1
  have g0 : Z.cell? ⟨g, 0, none⟩ = some (.slice D1 a.slots.ages.length d1) := DZ.out.blk.cell 0
  have g1 : Z.cell? ⟨g, 1, none⟩ = some (.slice D2 a.slots.used.length d2) := DZ.out.blk.cell 1
  have f0 := DZ.out.blk.frozen 0
  have f1 := DZ.out.blk.frozen 1
  clear q3 hx hV kV
  go_upto_region 9 with fail
  rw [← HV.out]
  clear HV s0 s1 g0 g1 f0 f1
  obtain ⟨hnd0, hnode, hpl⟩ := dfr_facts OK.out HPE.out
  have l64 := OK.out.len
  have NK : Hid (NoKey (kvOf ps) (hnd x)) := by
    intro p hp e
    obtain ⟨y, hy, rfl⟩ := List.mem_map.1 hp
    have hm : y.1 ∈ a.list := by rw [← HPE.out]; exact List.mem_map_of_mem hy
    obtain ⟨i, hi, he⟩ := List.getElem_of_mem hm
    have h1 := OK.out.each i hi
    rw [aftB_eq] at h1
    simp only [Bool.and_eq_true] at h1
    rw [he] at h1
    refine taken_new TB.out h1.1 ?_
    rw [← HTH.out]
    have : hnd x = th := by rw [HX.out]; rfl
    rw [← this]
    exact e
  have CA := Lib.hid (add_any DV.out x NK.out (by simp; omega) (by omega))
  rw [HX.out] at CA
  unfold afC at CA
  have HND := Lib.hid hnd0
  have HNO := Lib.hid hnode
  have y0 := az0 BV.out
  have y1 := az1 BV.out
  have y2 := az2 BV.out
  have y3 := az3 BV.out
  have y4 := az4 BV.out
  clear hnd0 hnode
  go_wp2_with fail
  with_reducible refine CA.out.mono ?_
  rintro e w5 ⟨rfl, D5, d5, bb, hd5, hb5, hfr⟩
  obtain ⟨t, ht⟩ : ∃ t : Afs, t = ⟨tt, a.list ++ [x]⟩ := ⟨_, rfl⟩
  have ET : Hid (regA a node fn = t) := by
    show _ = _
    rw [E.out.2.1, ht, HX.out, HTT.out, HTH.out]
  have S5 : Hid (Shows w1 W.heap.size g t w5) := by
    rw [ht]
    refine ⟨m, E1, k1, E2, k2, D5, d5, ps ++ [(x, bb)], ?_, ?_, ?_, ?_, ?_, LV.out.trans hb5, z1⟩
    · rw [List.map_append]
      rw [← HX.out] at hd5
      exact hd5
    · rw [List.map_append, List.nodup_append]
      refine ⟨HND.out, by simp, ?_⟩
      intro b1 hb1 b2 hb2 e
      simp at hb2
      subst hb2
      subst e
      obtain ⟨y, hy, he⟩ := List.mem_map.1 hb1
      exact NK.out (hnd y.1, clo y.2) (List.mem_map_of_mem (f := fun p : Aft × Nat => (hnd p.1, clo p.2)) hy) he
    · intro p hp
      rcases List.mem_append.1 hp with hp | hp
      · exact HNO.out p hp
      · simp only [List.mem_cons, List.not_mem_nil, or_false] at hp
        subst hp
        rw [HX.out]
        exact NB.out
    · simp; omega
    · rw [List.map_append, HPE.out]; rfl
  have H5 : Hid (Blk w5 (w2.heap.size + 1) 40 #[.int .i64 th.1, .int .i64 th.2]) := by
    show Blk _ _ _ _
    have hm := HD.out.map.lt
    have := hfr (w2.heap.size + 1) (by omega) (by omega) (by omega) (by
      intro e
      have := own_row_lo HD.out.o _ e.symm
      omega)
    exact this.trans HV1.out
  have B5 := Lib.hid S5.out.below
  have z5 := B5.out.size
  have R5 := Lib.hid (R1.out.below B5.out (by omega))
  have T5 := Lib.hid (T1.out.below B5.out (by omega))
  have K5 : Hid (Kept 0 0 w w5) := K1.out.trans2 (Kept.of_below_from B5.out) (.inr (by omega))
  have CS := Lib.hid (shown_s (S5.out.kept (Kept.refl 0 0 w5).drew))
  have x0 := ay0 H5.out
  have x1 := ay1 H5.out
  have zh := H5.out.lt
  clear hd5 hb5 hfr CA y0 y1 y2 y3 y4 ht
  go_upto_region 10 with fail
  go_cut [8] (fun v8 wx => v8 = .bool true ∧ RgP w t th wx)
  case first =>
    go_region_with ((with_reducible refine CS.out.mono ?_); rintro e w6 ⟨_, rfl, ⟨_, _, _, rfl, ⟨G1, j1, rfl, p1⟩, ⟨G2, j2, rfl, p2⟩, ⟨G3, j3, rfl, p3⟩⟩, hk6⟩; have k6 : Kept 0 0 w5 w6 := (Kept.refl 0 0 w5).drew.trans hk6; have R6 := R5.out.kept k6 (.inl (Nat.le_refl _)); have T6 := T5.out.kept k6 (.inl (Nat.le_refl _)); have O6 := H5.out.kept k6 (.inl (Nat.le_refl _)); have x0 := ay0 O6; have x1 := ay1 O6; have r0 := ax0 R6; have r1 := ax1 R6; have r2 := ax2 R6; have f0 := R6.frozen 0; have f1 := R6.frozen 1; have f2 := R6.frozen 2; have t0 := ay0 T6; have t1 := ay1 T6; have h0 := T6.frozen 0; have h1 := T6.frozen 1)
    all_goals (go_wp2_with fail; go_meet)
    all_goals (
      obtain ⟨F, hF, BF, BG, kF, res⟩ := stored5 (lo' := w.heap.size) R6 T6 (by omega) (by omega) (.int .i64 th.1) (.int .i64 th.2) p1 p2 p3
      have KF : Kept 0 0 w F := (K5.out.trans k6).trans2 kF (.inr (by omega))
      refine ⟨rfl, ?_⟩
      show RgP w t th _
      rw [← hF]
      exact ⟨G1, j1, G2, j2, G3, j3, BF, BG, res, KF⟩)
  case rest =>
    obtain ⟨rfl, G1, j1, G2, j2, G3, j3, U1, U2, HO, HK9⟩ := hcut
    have F0 := ax0 U1
    have F1 := ax1 U1
    have F2 := ax2 U1
    have G4 := ay0 U2
    have G5 := ay1 U2
    go_wp2_with fail
    exact bodyPost_ret (v := .tuple #[.agg #[.slice G1 t.slots.ages.length j1, .slice G2 t.slots.used.length j2, .slice G3 t.list.length j3], .agg #[.int .i64 th.1, .int .i64 th.2], .bool true]) (by simp [results, Try.results17, go_sem, F0, F1, F2, G4, G5]) rfl ⟨_, ret_reg (s := th) (by rw [E.out.2.2, HTH.out]) E.out.1.symm, by rw [ET.out]; exact HO, HK9⟩
end Go.Proofs.Ytnnbfcmbcjkpoaa
