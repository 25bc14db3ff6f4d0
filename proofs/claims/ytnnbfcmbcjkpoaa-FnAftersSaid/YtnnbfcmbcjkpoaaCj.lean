/- The reference's Registered; no condition beyond that the afters can be read. -/
import Derived.Test.YtnnbfcmbcjkpoaaCi
namespace Go.Proofs.Ytnnbfcmbcjkpoaa
open Go.RowKit Go.Sort

section
variable {w : World} {g : Nat} {ty ty' : TypeId} {x0 x1 y0 y1 y2 : Value}
theorem keptC (w : World) (g : Nat) (a b c p q : Value) : Kept g (g + 2) w (((((w.setCell ⟨g, 0, none⟩ a).setCell ⟨g, 1, none⟩ b).setCell ⟨g, 2, none⟩ c).setCell ⟨g + 1, 0, none⟩ p).setCell ⟨g + 1, 1, none⟩ q) := by
  refine (((((Kept.refl g (g + 2) w).setCell (.inr ⟨?_, ?_⟩) _).setCell (.inr ⟨?_, ?_⟩) _).setCell (.inr ⟨?_, ?_⟩) _).setCell (.inr ⟨?_, ?_⟩) _).setCell (.inr ⟨?_, ?_⟩) _ <;> (simp only; omega)
theorem blkC (h : Blk w g ty #[y0, y1, y2]) (h' : Blk w (g + 1) ty' #[x0, x1]) (a b c p q : Value) :
    Blk (((((w.setCell ⟨g, 0, none⟩ a).setCell ⟨g, 1, none⟩ b).setCell ⟨g, 2, none⟩ c).setCell ⟨g + 1, 0, none⟩ p).setCell ⟨g + 1, 1, none⟩ q) g ty #[a, b, c] ∧ Blk (((((w.setCell ⟨g, 0, none⟩ a).setCell ⟨g, 1, none⟩ b).setCell ⟨g, 2, none⟩ c).setCell ⟨g + 1, 0, none⟩ p).setCell ⟨g + 1, 1, none⟩ q) (g + 1) ty' #[p, q] := by
  constructor
  · exact ((blkA h a b c).far (by simp) _).far (by simp) _
  · exact ((((h'.far (by simp) _).far (by simp) _).far (by simp) _).set_ 0 _).set_ 1 _
end
theorem own_litA (w : World) (x : Aft) : (w.alloc (.cells #[.int .i64 x.slot, .int .i64 x.age, .int .i64 x.node, .int .i64 x.func, .bool x.queued] 42)).ownsRow w.heap.size 42 5 (.slice (some ⟨w.heap.size, 0, none⟩) 1 1) 1 (afR.flat [x]) :=
  World.ownsRow_lit w #[.int .i64 x.slot, .int .i64 x.age, .int .i64 x.node, .int .i64 x.func, .bool x.queued] 1 (Nat.le_refl _) (by unfold maxLen; omega) rfl
theorem ret_reg {u : Value} {s s' : Int × Int} {p q : Bool} (h : s = s') (h' : p = q) : Ending.returned (.tuple #[u, .agg #[.int .i64 s.1, .int .i64 s.2], .bool p]) = Ending.returned (.tuple #[u, .agg #[.int .i64 s'.1, .int .i64 s'.2], .bool q]) := by rw [h, h']
section
variable {a : Afs} {node fn : Int}
theorem reg_bad (h : aftersB a = false) : regB a node fn = false ∧ regA a node fn = asZ ∧ regH a node fn = (0, 0) := by simp [regB, regA, regH, h]
theorem reg_no (h : aftersB a = true) (h1 : regOk a node fn = false) : regB a node fn = false ∧ regA a node fn = a ∧ regH a node fn = (0, 0) := by simp [regB, regA, regH, h, h1]
theorem reg_yes (h : aftersB a = true) (h1 : regOk a node fn = true) : regB a node fn = true ∧ regA a node fn = ⟨takeST a.slots, a.list ++ [⟨(takeSH a.slots).1, (takeSH a.slots).2, node, fn, false⟩]⟩ ∧ regH a node fn = takeSH a.slots := by simp [regB, regA, regH, h, h1]
end

set_option maxHeartbeats 6400000 in
set_option maxRecDepth 100000 in
theorem specReg : DoesAsR 27 := fun a node fn v w h => by
  have HA := Lib.hid h
  obtain ⟨_, _, _, rfl, ⟨A1, c1, rfl, s1⟩, ⟨A2, c2, rfl, s2⟩, ⟨A3, c3, rfl, s3⟩⟩ := h
  clear s1 s2 s3
  obtain ⟨W, hW⟩ : ∃ W, W = ((w.alloc (.cells #[.slice A1 a.slots.ages.length c1, .slice A2 a.slots.used.length c2, .slice A3 a.list.length c3] 34)).alloc (.cells #[.slice none 0 0, .slice none 0 0, .slice none 0 0] 34)).alloc (.cells #[.int .i64 0, .int .i64 0] 40) := ⟨_, rfl⟩
  have KW : Hid (Kept 0 0 w W) := by show Kept _ _ _ _; rw [hW]; exact ((Kept.alloc0 _ _).alloc _).alloc _
  have B0 : Hid (Blk W w.heap.size 34 #[.slice A1 a.slots.ages.length c1, .slice A2 a.slots.used.length c2, .slice A3 a.list.length c3]) := by show Blk _ _ _ _; rw [hW]; exact ((Blk.new _ _ _).alloc _).alloc _
  have R0 : Hid (Blk W (w.heap.size + 1) 34 #[.slice none 0 0, .slice none 0 0, .slice none 0 0]) := by
    show Blk _ _ _ _
    rw [hW]
    have := Blk.new (w.alloc (.cells #[.slice A1 a.slots.ages.length c1, .slice A2 a.slots.used.length c2, .slice A3 a.list.length c3] 34)) 34 #[.slice none 0 0, .slice none 0 0, .slice none 0 0]
    simp only [World.size_alloc] at this
    exact this.alloc _
  have T0 : Hid (Blk W (w.heap.size + 1 + 1) 40 #[.int .i64 0, .int .i64 0]) := by
    show Blk _ _ _ _
    rw [hW]
    have := Blk.new ((w.alloc (.cells #[.slice A1 a.slots.ages.length c1, .slice A2 a.slots.used.length c2, .slice A3 a.list.length c3] 34)).alloc (.cells #[.slice none 0 0, .slice none 0 0, .slice none 0 0] 34)) 40 #[.int .i64 0, .int .i64 0]
    simpa using this
  have zW : w.heap.size + 3 ≤ W.heap.size := by rw [hW]; simp
  have HW := Lib.hid hW
  have b0 := ax0 B0.out
  have b1 := ax1 B0.out
  have b2 := ax2 B0.out
  clear hW
  have CO := Lib.hid (as8_any a _ W (HA.out.up KW.out))
  go_enter Try.func27, Try.ntmps27
  go_upto_region 1 with fail
  rw [← HW.out]
  go_wp2_with fail
  clear b0 b1 b2
  with_reducible refine CO.out.mono ?_
  rintro e w1 ⟨rfl, hk⟩
  have K1 := Lib.hid (KW.out.trans hk)
  have B1 := Lib.hid (B0.out.kept hk (.inl (Nat.le_refl _)))
  have R1 := Lib.hid (R0.out.kept hk (.inl (Nat.le_refl _)))
  have T1 := Lib.hid (T0.out.kept hk (.inl (Nat.le_refl _)))
  have z1 := hk.size
  clear hk CO B0 R0 T0 KW HW
  cases q1 : aftersB a
  · have E := Lib.hid (reg_bad (node := node) (fn := fn) q1)
    have r0 := ax0 R1.out
    have f0 := R1.out.frozen 0
    have r1 := ax1 R1.out
    have f1 := R1.out.frozen 1
    have r2 := ax2 R1.out
    have f2 := R1.out.frozen 2
    have t0 := ay0 T1.out
    have h0 := T1.out.frozen 0
    have t1 := ay1 T1.out
    have h1 := T1.out.frozen 1
    have BF := blkC R1.out T1.out (.slice none 0 0) (.slice none 0 0) (.slice none 0 0) (.int .i64 0) (.int .i64 0)
    have F0 := ax0 BF.1
    have F1 := ax1 BF.1
    have F2 := ax2 BF.1
    have G0 := ay0 BF.2
    have G1 := ay1 BF.2
    have KF := Lib.hid (keptC w1 (w.heap.size + 1) (.slice none 0 0) (.slice none 0 0) (.slice none 0 0) (.int .i64 0) (.int .i64 0))
    clear q1 BF
    go_wp2_with fail
    refine bodyPost_ret (v := .tuple #[.agg #[.slice none 0 0, .slice none 0 0, .slice none 0 0], .agg #[.int .i64 0, .int .i64 0], .bool false]) (by simp [results, Try.results27, go_sem, F0, F1, F2, G0, G1]) rfl ⟨_, ret_reg (s := (0, 0)) E.out.2.2.symm E.out.1.symm, by rw [E.out.2.1]; exact OwnAs.asZ _ _ _, K1.out.trans2 KF.out (.inr (by omega))⟩
  have Q1 := Lib.hid q1
  have OK := aftersB_true.1 q1
  have ll := OK.len
  have CC := Lib.hid (copy8_any a _ w1 (HA.out.up K1.out) OK.slots ll)
  have b0 := ax0 B1.out
  have b1 := ax1 B1.out
  have b2 := ax2 B1.out
  clear q1 OK
  go_wp2_with fail
  clear b0 b1 b2
  with_reducible refine CC.out.mono ?_
  rintro e w2 ⟨_, rfl, ⟨_, _, _, rfl, ⟨D1, d1, rfl, o1⟩, ⟨D2, d2, rfl, o2⟩, ⟨D3, d3, rfl, o3⟩⟩, hk⟩
  obtain ⟨V, hV⟩ : ∃ V, V = w2.alloc (.cells #[.slice D1 a.slots.ages.length d1, .slice D2 a.slots.used.length d2, .slice D3 a.list.length d3] 34) := ⟨_, rfl⟩
  have kV : Kept 0 0 w2 V := by rw [hV]; exact Kept.alloc0 _ _
  have K2 := Lib.hid (K1.out.trans (hk.trans kV))
  have B2 := Lib.hid (B1.out.kept (hk.trans kV) (.inl (Nat.le_refl _)))
  have R2 := Lib.hid (R1.out.kept (hk.trans kV) (.inl (Nat.le_refl _)))
  have T2 := Lib.hid (T1.out.kept (hk.trans kV) (.inl (Nat.le_refl _)))
  have U2 : Hid (Blk V w2.heap.size 34 #[.slice D1 a.slots.ages.length d1, .slice D2 a.slots.used.length d2, .slice D3 a.list.length d3]) := by show Blk _ _ _ _; rw [hV]; exact Blk.new _ _ _
  have O1 := Lib.hid (o1.kept kV (.inl (Nat.le_refl _)))
  have O2 := Lib.hid (o2.kept kV (.inl (Nat.le_refl _)))
  have O3 := Lib.hid (o3.kept kV (.inl (Nat.le_refl _)))
  have z2 := hk.size
  have zV := U2.out.lt
  have HV := Lib.hid hV
  have CT := Lib.hid (specTake a.slots _ V ((HA.out.up K2.out).sl.1))
  clear hk kV CC B1 R1 T1 K1 hV o1 o2 o3
  have b0 := ax0 B2.out
  have b1 := ax1 B2.out
  go_upto_region 4 with fail
  rw [← HV.out]
  go_wp2_with fail
  clear b0 b1
  with_reducible refine CT.out.mono ?_
  rintro e w3 ⟨_, rfl, ⟨_, _, rfl, ⟨E1, k1, rfl, p1⟩, ⟨E2, k2, rfl, p2⟩⟩, hk⟩
  clear CT
  obtain ⟨t, ht⟩ : ∃ t, t = takeST a.slots := ⟨_, rfl⟩
  obtain ⟨hs, hhs⟩ : ∃ hs, hs = takeSH a.slots := ⟨_, rfl⟩
  rw [← ht] at p1 p2
  rw [← ht, ← hhs]
  obtain ⟨Y, hY⟩ : ∃ Y, Y = (w3.alloc (.cells #[.slice E1 t.ages.length k1, .slice E2 t.used.length k2] 31)).alloc (.cells #[.int .i64 hs.1, .int .i64 hs.2] 40) := ⟨_, rfl⟩
  have kY : Kept 0 0 w3 Y := by rw [hY]; exact (Kept.alloc0 _ _).alloc _
  have BS : Hid (Blk Y w3.heap.size 31 #[.slice E1 t.ages.length k1, .slice E2 t.used.length k2]) := by show Blk _ _ _ _; rw [hY]; exact (Blk.new _ _ _).alloc _
  have BH : Hid (Blk Y (w3.heap.size + 1) 40 #[.int .i64 hs.1, .int .i64 hs.2]) := by
    show Blk _ _ _ _
    rw [hY]
    have := Blk.new (w3.alloc (.cells #[.slice E1 t.ages.length k1, .slice E2 t.used.length k2] 31)) 40 #[.int .i64 hs.1, .int .i64 hs.2]
    simpa using this
  have K4 := Lib.hid (K2.out.trans (hk.trans kY))
  have R4 := Lib.hid (R2.out.kept (hk.trans kY) (.inl (Nat.le_refl _)))
  have T4 := Lib.hid (T2.out.kept (hk.trans kY) (.inl (Nat.le_refl _)))
  have U4 := Lib.hid (U2.out.kept (hk.trans kY) (.inl (Nat.le_refl _)))
  have M1 := Lib.hid (O1.out.kept (hk.trans kY) (.inl (Nat.le_refl _)))
  have M2 := Lib.hid (O2.out.kept (hk.trans kY) (.inl (Nat.le_refl _)))
  have M3 := Lib.hid (O3.out.kept (hk.trans kY) (.inl (Nat.le_refl _)))
  have P1 := Lib.hid (p1.kept kY (.inl (Nat.le_refl _)))
  have P2 := Lib.hid (p2.kept kY (.inl (Nat.le_refl _)))
  have z3 := hk.size
  have zY := BH.out.lt
  have TS := Lib.hid ht
  have HS := Lib.hid hhs
  have HY := Lib.hid hY
  clear hk kY ht hhs hY p1 p2 O1 O2 O3 R2 T2 U2 B2 K2 HV
  go_upto_region 5 with fail
  rw [← HY.out]
  clear HY
  cases q2 : takeSB a.slots
  · have E := Lib.hid (reg_no (node := node) (fn := fn) Q1.out (by unfold regOk; rw [q2]; rfl))
    clear q2
    have r0 := ax0 R4.out
    have f0 := R4.out.frozen 0
    have r1 := ax1 R4.out
    have f1 := R4.out.frozen 1
    have r2 := ax2 R4.out
    have f2 := R4.out.frozen 2
    have t0 := ay0 T4.out
    have h0 := T4.out.frozen 0
    have t1 := ay1 T4.out
    have h1 := T4.out.frozen 1
    have BF := blkC R4.out T4.out (.slice D1 a.slots.ages.length d1) (.slice D2 a.slots.used.length d2) (.slice D3 a.list.length d3) (.int .i64 0) (.int .i64 0)
    have F0 := ax0 BF.1
    have F1 := ax1 BF.1
    have F2 := ax2 BF.1
    have G0 := ay0 BF.2
    have G1 := ay1 BF.2
    have KF := Lib.hid (keptC Y (w.heap.size + 1) (.slice D1 a.slots.ages.length d1) (.slice D2 a.slots.used.length d2) (.slice D3 a.list.length d3) (.int .i64 0) (.int .i64 0))
    have u0 := ax0 U4.out
    have u1 := ax1 U4.out
    have u2 := ax2 U4.out
    have y1 := KF.out.size
    clear BF
    go_wp2_with fail
    refine bodyPost_ret (v := .tuple #[.agg #[.slice D1 a.slots.ages.length d1, .slice D2 a.slots.used.length d2, .slice D3 a.list.length d3], .agg #[.int .i64 0, .int .i64 0], .bool false]) (by simp [results, Try.results27, go_sem, F0, F1, F2, G0, G1]) rfl ⟨_, ret_reg (s := (0, 0)) E.out.2.2.symm E.out.1.symm, ?_, K4.out.trans2 KF.out (.inr (by omega))⟩
    rw [E.out.2.1]
    exact ⟨_, _, _, rfl, ⟨D1, d1, rfl, (M1.out.kept KF.out (.inr (.inr (by omega)))).wide (by omega) (by omega)⟩, ⟨D2, d2, rfl, (M2.out.kept KF.out (.inr (.inr (by omega)))).wide (by omega) (by omega)⟩, ⟨D3, d3, rfl, (M3.out.kept KF.out (.inr (.inr (by omega)))).wide (by omega) (by omega)⟩⟩
  have Q2 := Lib.hid q2
  clear q2
  go_wp2_with fail
  with_reducible refine (l1In_any _ _ _ _).mono ?_
  rintro e w' ⟨rfl, rfl⟩
  cases q3 : (decide (0 ≤ node) && decide (node ≤ 59))
  · have E := Lib.hid (reg_no (node := node) (fn := fn) Q1.out (by unfold regOk inR; rw [Q2.out, q3]; rfl))
    clear q3
    have r0 := ax0 R4.out
    have f0 := R4.out.frozen 0
    have r1 := ax1 R4.out
    have f1 := R4.out.frozen 1
    have r2 := ax2 R4.out
    have f2 := R4.out.frozen 2
    have t0 := ay0 T4.out
    have h0 := T4.out.frozen 0
    have t1 := ay1 T4.out
    have h1 := T4.out.frozen 1
    have BF := blkC R4.out T4.out (.slice D1 a.slots.ages.length d1) (.slice D2 a.slots.used.length d2) (.slice D3 a.list.length d3) (.int .i64 0) (.int .i64 0)
    have F0 := ax0 BF.1
    have F1 := ax1 BF.1
    have F2 := ax2 BF.1
    have G0 := ay0 BF.2
    have G1 := ay1 BF.2
    have KF := Lib.hid (keptC Y (w.heap.size + 1) (.slice D1 a.slots.ages.length d1) (.slice D2 a.slots.used.length d2) (.slice D3 a.list.length d3) (.int .i64 0) (.int .i64 0))
    have u0 := ax0 U4.out
    have u1 := ax1 U4.out
    have u2 := ax2 U4.out
    have y1 := KF.out.size
    clear BF
    go_wp2_with fail
    refine bodyPost_ret (v := .tuple #[.agg #[.slice D1 a.slots.ages.length d1, .slice D2 a.slots.used.length d2, .slice D3 a.list.length d3], .agg #[.int .i64 0, .int .i64 0], .bool false]) (by simp [results, Try.results27, go_sem, F0, F1, F2, G0, G1]) rfl ⟨_, ret_reg (s := (0, 0)) E.out.2.2.symm E.out.1.symm, ?_, K4.out.trans2 KF.out (.inr (by omega))⟩
    rw [E.out.2.1]
    exact ⟨_, _, _, rfl, ⟨D1, d1, rfl, (M1.out.kept KF.out (.inr (.inr (by omega)))).wide (by omega) (by omega)⟩, ⟨D2, d2, rfl, (M2.out.kept KF.out (.inr (.inr (by omega)))).wide (by omega) (by omega)⟩, ⟨D3, d3, rfl, (M3.out.kept KF.out (.inr (.inr (by omega)))).wide (by omega) (by omega)⟩⟩
  have Q3 := Lib.hid q3
  clear q3
  go_wp2_with fail
  with_reducible refine (l1In_any _ _ _ _).mono ?_
  rintro e w' ⟨rfl, rfl⟩
  cases q4 : (decide (0 ≤ fn) && decide (fn ≤ 99))
  · have E := Lib.hid (reg_no (node := node) (fn := fn) Q1.out (by unfold regOk inR; rw [Q2.out, Q3.out, q4]; rfl))
    clear q4
    have r0 := ax0 R4.out
    have f0 := R4.out.frozen 0
    have r1 := ax1 R4.out
    have f1 := R4.out.frozen 1
    have r2 := ax2 R4.out
    have f2 := R4.out.frozen 2
    have t0 := ay0 T4.out
    have h0 := T4.out.frozen 0
    have t1 := ay1 T4.out
    have h1 := T4.out.frozen 1
    have BF := blkC R4.out T4.out (.slice D1 a.slots.ages.length d1) (.slice D2 a.slots.used.length d2) (.slice D3 a.list.length d3) (.int .i64 0) (.int .i64 0)
    have F0 := ax0 BF.1
    have F1 := ax1 BF.1
    have F2 := ax2 BF.1
    have G0 := ay0 BF.2
    have G1 := ay1 BF.2
    have KF := Lib.hid (keptC Y (w.heap.size + 1) (.slice D1 a.slots.ages.length d1) (.slice D2 a.slots.used.length d2) (.slice D3 a.list.length d3) (.int .i64 0) (.int .i64 0))
    have u0 := ax0 U4.out
    have u1 := ax1 U4.out
    have u2 := ax2 U4.out
    have y1 := KF.out.size
    clear BF
    go_wp2_with fail
    refine bodyPost_ret (v := .tuple #[.agg #[.slice D1 a.slots.ages.length d1, .slice D2 a.slots.used.length d2, .slice D3 a.list.length d3], .agg #[.int .i64 0, .int .i64 0], .bool false]) (by simp [results, Try.results27, go_sem, F0, F1, F2, G0, G1]) rfl ⟨_, ret_reg (s := (0, 0)) E.out.2.2.symm E.out.1.symm, ?_, K4.out.trans2 KF.out (.inr (by omega))⟩
    rw [E.out.2.1]
    exact ⟨_, _, _, rfl, ⟨D1, d1, rfl, (M1.out.kept KF.out (.inr (.inr (by omega)))).wide (by omega) (by omega)⟩, ⟨D2, d2, rfl, (M2.out.kept KF.out (.inr (.inr (by omega)))).wide (by omega) (by omega)⟩, ⟨D3, d3, rfl, (M3.out.kept KF.out (.inr (.inr (by omega)))).wide (by omega) (by omega)⟩⟩
  have E := Lib.hid (reg_yes (node := node) (fn := fn) Q1.out (by unfold regOk inR; rw [Q2.out, Q3.out, q4]; rfl))
  rw [← TS.out, ← HS.out] at E
  clear q4
  have u0 := ax0 U4.out
  have u1 := ax1 U4.out
  have g0 := U4.out.frozen 0
  have g1 := U4.out.frozen 1
  have s0 := ay0 BS.out
  have s1 := ay1 BS.out
  obtain ⟨Y7, hY7⟩ : ∃ Y7, Y7 = (Y.setCell ⟨w2.heap.size, 0, none⟩ (.slice E1 t.ages.length k1)).setCell ⟨w2.heap.size, 1, none⟩ (.slice E2 t.used.length k2) := ⟨_, rfl⟩
  have k7 : Kept w2.heap.size (w2.heap.size + 1) Y Y7 := by rw [hY7]; exact ((Kept.refl w2.heap.size (w2.heap.size + 1) Y).setCell (.inr ⟨Nat.le_refl _, Nat.lt_succ_self _⟩) _).setCell (.inr ⟨Nat.le_refl _, Nat.lt_succ_self _⟩) _
  have U7 : Hid (Blk Y7 w2.heap.size 34 #[.slice E1 t.ages.length k1, .slice E2 t.used.length k2, .slice D3 a.list.length d3]) := by show Blk _ _ _ _; rw [hY7]; exact (U4.out.set_ 0 _).set_ 1 _
  have K7 := Lib.hid (K4.out.trans2 k7 (.inr (by omega)))
  have R7 := Lib.hid (R4.out.kept k7 (.inr (.inl (by omega))))
  have T7 := Lib.hid (T4.out.kept k7 (.inr (.inl (by omega))))
  have H7 := Lib.hid (BH.out.kept k7 (.inr (.inr (by omega))))
  have N1 := Lib.hid (P1.out.kept k7 (.inr (.inr (by omega))))
  have N2 := Lib.hid (P2.out.kept k7 (.inr (.inr (by omega))))
  have N3 := Lib.hid (M3.out.kept k7 (.inr (.inl (by omega))))
  have z7 := k7.size
  have HY7 := Lib.hid hY7
  clear k7 hY7 M1 M2 M3 P1 P2 R4 T4 BH K4
  go_upto_region 8 with fail
  rw [← HY7.out]
  clear HY7 u0 u1 g0 g1 s0 s1 BS U4
  have HT := Lib.hid afSlice
  have rg := N3.out.range
  obtain ⟨x, hx5⟩ : ∃ x : Aft, x = ⟨hs.1, hs.2, node, fn, false⟩ := ⟨_, rfl⟩
  obtain ⟨W5, hW5⟩ : ∃ W5, W5 = Y7.alloc (.cells #[.int .i64 hs.1, .int .i64 hs.2, .int .i64 node, .int .i64 fn, .bool false] 42) := ⟨_, rfl⟩
  have k5 : Kept 0 0 Y7 W5 := by rw [hW5]; exact Kept.alloc0 _ _
  have RX : Hid (RdR afR W5 W5.heap.size (some ⟨Y7.heap.size, 0, none⟩) [x]) := by
    show RdR _ _ _ _ _
    rw [hW5, hx5]
    exact (OwnZ.rd (R := afR) (OwnZ.of_row (own_litA Y7 ⟨hs.1, hs.2, node, fn, false⟩))).2
  have RO := Lib.hid (row_kept N3.out.1 k5)
  have z5 := k5.size
  have K5 := Lib.hid (K7.out.trans k5)
  have R5 := Lib.hid (R7.out.kept k5 (.inl (Nat.le_refl _)))
  have T5 := Lib.hid (T7.out.kept k5 (.inl (Nat.le_refl _)))
  have U5 := Lib.hid (U7.out.kept k5 (.inl (Nat.le_refl _)))
  have H5 := Lib.hid (H7.out.kept k5 (.inl (Nat.le_refl _)))
  have L1 := Lib.hid (N1.out.kept k5 (.inl (Nat.le_refl _)))
  have L2 := Lib.hid (N2.out.kept k5 (.inl (Nat.le_refl _)))
  have zb : w1.heap.size ≤ W5.heap.size := by omega
  have HX := Lib.hid hx5
  have HW5 := Lib.hid hW5
  have u2 := ax2 U7.out
  have h0 := ay0 H7.out
  have h1 := ay1 H7.out
  rw [hW5] at RX RO zb
  clear hx5 hW5
  go_upto_region 9 with (at_builtin; refine wpList_app (R := afR) rfl (.tmp 44) (.tmp 49) rfl HT.out w1.heap.size D3 d3 a.list rfl RO.out _ (some ⟨Y7.heap.size, 0, none⟩) 1 [x] rfl RX.out (by simp [maxLen]; omega) (by simp; omega) zb ?_; intro D5 d5 w5 hown hgrow hat; have hgrow' := HW5.out ▸ hgrow; have c5 : Kept (aLo D3) (aHi D3) W5 w5 := kept_appA hgrow'; have O5 := Lib.hid hown; have U6' := U5.out.kept c5 (by omega); have v1' := ax2 U6'; have fv1 := U6'.frozen 2; clear hown hgrow hat hgrow')
  have lx : Hid ((a.list ++ [x]).length = a.list.length + 1) := by show _ = _; simp
  rw [lx.out] at O5
  obtain ⟨V6, hV6⟩ : ∃ V6, V6 = w5.setCell ⟨w2.heap.size, 2, none⟩ (.slice D5 (a.list.length + 1) d5) := ⟨_, rfl⟩
  have k6 : Kept w2.heap.size (w2.heap.size + 1) w5 V6 := by rw [hV6]; exact (Kept.refl w2.heap.size (w2.heap.size + 1) w5).setCell (.inr ⟨Nat.le_refl _, Nat.lt_succ_self _⟩) _
  have U6 : Hid (Blk V6 w2.heap.size 34 #[.slice E1 t.ages.length k1, .slice E2 t.used.length k2, .slice D5 (a.list.length + 1) d5]) := by show Blk _ _ _ _; rw [hV6]; have := U6'.set_ 2 (.slice D5 (a.list.length + 1) d5); simpa using this
  have K6 := Lib.hid ((K5.out.trans2 c5 (by omega)).trans2 k6 (.inr (by omega)))
  have R6 := Lib.hid ((R5.out.kept c5 (by omega)).kept k6 (by omega))
  have T6 := Lib.hid ((T5.out.kept c5 (by omega)).kept k6 (by omega))
  have H6 := Lib.hid ((H5.out.kept c5 (by omega)).kept k6 (by omega))
  have J1 := Lib.hid ((L1.out.kept c5 (by omega)).kept k6 (by omega))
  have J2 := Lib.hid ((L2.out.kept c5 (by omega)).kept k6 (by omega))
  have O6 := Lib.hid (row_other O5.out (row_ne O5.out U6' (by decide)) k6)
  have z6 := c5.size
  have y6 := k6.size
  have HV6 := Lib.hid hV6
  rw [← hV6]
  clear c5 k6 hV6 HV6 U6' v1' fv1 u2 h0 h1 RX RO zb HW5 R7 T7 U7 H7 N1 N2 N3 K7 R5 T5 U5 H5 L1 L2 K5 O5
  have u0 := ax0 U6.out
  have u1 := ax1 U6.out
  have u2 := ax2 U6.out
  have v0 := ay0 H6.out
  have v1 := ay1 H6.out
  have r0 := ax0 R6.out
  have f0 := R6.out.frozen 0
  have r1 := ax1 R6.out
  have f1 := R6.out.frozen 1
  have r2 := ax2 R6.out
  have f2 := R6.out.frozen 2
  have t0 := ay0 T6.out
  have h0 := T6.out.frozen 0
  have t1 := ay1 T6.out
  have h1 := T6.out.frozen 1
  have BF := blkC R6.out T6.out (.slice E1 t.ages.length k1) (.slice E2 t.used.length k2) (.slice D5 (a.list.length + 1) d5) (.int .i64 hs.1) (.int .i64 hs.2)
  have F0 := ax0 BF.1
  have F1 := ax1 BF.1
  have F2 := ax2 BF.1
  have G0 := ay0 BF.2
  have G1 := ay1 BF.2
  have KF := Lib.hid (keptC V6 (w.heap.size + 1) (.slice E1 t.ages.length k1) (.slice E2 t.used.length k2) (.slice D5 (a.list.length + 1) d5) (.int .i64 hs.1) (.int .i64 hs.2))
  have y1 := KF.out.size
  have OF := Lib.hid ((OwnZ.of_row O6.out).kept KF.out (.inr (.inr (by omega))))
  have I1 := Lib.hid (J1.out.kept KF.out (.inr (.inr (by omega))))
  have I2 := Lib.hid (J2.out.kept KF.out (.inr (.inr (by omega))))
  have KK := Lib.hid (K6.out.trans2 KF.out (.inr (by omega)))
  rw [← HX.out] at E
  clear BF J1 J2 O6 K6 R6 T6 U6 H6
  go_wp2_with fail
  all_goals go_region
  all_goals go_wp2_with fail
  all_goals refine bodyPost_ret (v := .tuple #[.agg #[.slice E1 t.ages.length k1, .slice E2 t.used.length k2, .slice D5 (a.list.length + 1) d5], .agg #[.int .i64 hs.1, .int .i64 hs.2], .bool true]) (by simp [results, Try.results27, go_sem, F0, F1, F2, G0, G1]) rfl ⟨_, ret_reg (s := hs) E.out.2.2.symm E.out.1.symm, ?_, KK.out.drew⟩
  all_goals rw [E.out.2.1]
  all_goals exact ⟨_, _, _, rfl, ⟨E1, k1, rfl, (I1.out.kept ((Kept.refl 0 0 _).drew) (.inl (Nat.le_refl _))).wide (by omega) (Nat.le_trans (by omega : w3.heap.size ≤ V6.heap.size) y1)⟩, ⟨E2, k2, rfl, (I2.out.kept ((Kept.refl 0 0 _).drew) (.inl (Nat.le_refl _))).wide (by omega) (Nat.le_trans (by omega : w3.heap.size ≤ V6.heap.size) y1)⟩, ⟨D5, d5, by rw [lx.out], by show OwnZ _ _ _ _ _ _ _ _ _; rw [lx.out]; exact (OF.out.kept ((Kept.refl 0 0 _).drew) (.inl (Nat.le_refl _))).wide (by omega) y1⟩⟩
end Go.Proofs.Ytnnbfcmbcjkpoaa
