/- The reference's Started; no condition beyond that the afters can be read. -/
import Derived.Test.YtnnbfcmbcjkpoaaCg
namespace Go.Proofs.Ytnnbfcmbcjkpoaa
open Go.RowKit Go.Sort

section
variable {w : World} {g : Nat} {ty ty' : TypeId} {x0 x1 x2 x3 x4 y0 y1 y2 : Value}
theorem az0 (h : Blk w g ty #[x0, x1, x2, x3, x4]) : w.cell? ⟨g, 0, none⟩ = some x0 := h.cell 0
theorem az1 (h : Blk w g ty #[x0, x1, x2, x3, x4]) : w.cell? ⟨g, 1, none⟩ = some x1 := h.cell 1
theorem az2 (h : Blk w g ty #[x0, x1, x2, x3, x4]) : w.cell? ⟨g, 2, none⟩ = some x2 := h.cell 2
theorem az3 (h : Blk w g ty #[x0, x1, x2, x3, x4]) : w.cell? ⟨g, 3, none⟩ = some x3 := h.cell 3
theorem az4 (h : Blk w g ty #[x0, x1, x2, x3, x4]) : w.cell? ⟨g, 4, none⟩ = some x4 := h.cell 4
theorem keptB (w : World) (g : Nat) (a b c p q r s t : Value) : Kept g (g + 2) w ((((((((w.setCell ⟨g, 0, none⟩ a).setCell ⟨g, 1, none⟩ b).setCell ⟨g, 2, none⟩ c).setCell ⟨g + 1, 0, none⟩ p).setCell ⟨g + 1, 1, none⟩ q).setCell ⟨g + 1, 2, none⟩ r).setCell ⟨g + 1, 3, none⟩ s).setCell ⟨g + 1, 4, none⟩ t) := by
  refine ((((((((Kept.refl g (g + 2) w).setCell (.inr ⟨?_, ?_⟩) _).setCell (.inr ⟨?_, ?_⟩) _).setCell (.inr ⟨?_, ?_⟩) _).setCell (.inr ⟨?_, ?_⟩) _).setCell (.inr ⟨?_, ?_⟩) _).setCell (.inr ⟨?_, ?_⟩) _).setCell (.inr ⟨?_, ?_⟩) _).setCell (.inr ⟨?_, ?_⟩) _ <;> (simp only; omega)
theorem blkB (h : Blk w g ty #[y0, y1, y2]) (h' : Blk w (g + 1) ty' #[x0, x1, x2, x3, x4]) (a b c p q r s t : Value) :
    Blk ((((((((w.setCell ⟨g, 0, none⟩ a).setCell ⟨g, 1, none⟩ b).setCell ⟨g, 2, none⟩ c).setCell ⟨g + 1, 0, none⟩ p).setCell ⟨g + 1, 1, none⟩ q).setCell ⟨g + 1, 2, none⟩ r).setCell ⟨g + 1, 3, none⟩ s).setCell ⟨g + 1, 4, none⟩ t) g ty #[a, b, c] ∧
    Blk ((((((((w.setCell ⟨g, 0, none⟩ a).setCell ⟨g, 1, none⟩ b).setCell ⟨g, 2, none⟩ c).setCell ⟨g + 1, 0, none⟩ p).setCell ⟨g + 1, 1, none⟩ q).setCell ⟨g + 1, 2, none⟩ r).setCell ⟨g + 1, 3, none⟩ s).setCell ⟨g + 1, 4, none⟩ t) (g + 1) ty' #[p, q, r, s, t] := by
  constructor
  · exact (((((blkA h a b c).far (by simp) _).far (by simp) _).far (by simp) _).far (by simp) _).far (by simp) _
  · exact (((((((h'.far (by simp) _).far (by simp) _).far (by simp) _).set_ 0 _).set_ 1 _).set_ 2 _).set_ 3 _).set_ 4 _
end
theorem ret_uxb {u v : Value} {x y : Aft} {p q : Bool} (hv : v = .agg #[.int .i64 x.slot, .int .i64 x.age, .int .i64 x.node, .int .i64 x.func, .bool x.queued]) (h : x = y) (h' : p = q) :
    Ending.returned (.tuple #[u, v, .bool p]) = Ending.returned (.tuple #[u, .agg #[.int .i64 y.slot, .int .i64 y.age, .int .i64 y.node, .int .i64 y.func, .bool y.queued], .bool q]) := by subst hv h h'; rfl
/-- What is started: the results' boxes. -/
def StSt (w : World) (t : Afs) (x : Aft) (wx : World) : Prop := ∃ (D1 : Option Addr) (d1 : Nat) (D2 : Option Addr) (d2 : Nat) (D3 : Option Addr) (d3 : Nat), Blk wx (w.heap.size + 1) 34 #[.slice D1 t.slots.ages.length d1, .slice D2 t.slots.used.length d2, .slice D3 t.list.length d3] ∧ Blk wx (w.heap.size + 1 + 1) 42 #[.int .i64 x.slot, .int .i64 x.age, .int .i64 x.node, .int .i64 x.func, .bool x.queued] ∧
    OwnAs wx w.heap.size wx.heap.size (.agg #[.slice D1 t.slots.ages.length d1, .slice D2 t.slots.used.length d2, .slice D3 t.list.length d3]) t ∧ Kept 0 0 w wx
set_option maxHeartbeats 6400000 in
set_option maxRecDepth 100000 in
theorem specStart : DoesAsS 32 := fun a v w h => by
  have HA := Lib.hid h
  obtain ⟨_, _, _, rfl, ⟨A1, c1, rfl, s1⟩, ⟨A2, c2, rfl, s2⟩, ⟨A3, c3, rfl, s3⟩⟩ := h
  have m3 := s3.rd.1
  unfold maxLen at m3
  have S3 := Lib.hid s3.rd
  clear s1 s2 s3
  obtain ⟨W, hW⟩ : ∃ W, W = ((w.alloc (.cells #[.slice A1 a.slots.ages.length c1, .slice A2 a.slots.used.length c2, .slice A3 a.list.length c3] 34)).alloc (.cells #[.slice none 0 0, .slice none 0 0, .slice none 0 0] 34)).alloc (.cells #[.int .i64 0, .int .i64 0, .int .i64 0, .int .i64 0, .bool false] 42) := ⟨_, rfl⟩
  have KW : Hid (Kept 0 0 w W) := by show Kept _ _ _ _; rw [hW]; exact ((Kept.alloc0 _ _).alloc _).alloc _
  have B0 : Hid (Blk W w.heap.size 34 #[.slice A1 a.slots.ages.length c1, .slice A2 a.slots.used.length c2, .slice A3 a.list.length c3]) := by show Blk _ _ _ _; rw [hW]; exact ((Blk.new _ _ _).alloc _).alloc _
  have R0 : Hid (Blk W (w.heap.size + 1) 34 #[.slice none 0 0, .slice none 0 0, .slice none 0 0]) := by
    show Blk _ _ _ _
    rw [hW]
    have := Blk.new (w.alloc (.cells #[.slice A1 a.slots.ages.length c1, .slice A2 a.slots.used.length c2, .slice A3 a.list.length c3] 34)) 34 #[.slice none 0 0, .slice none 0 0, .slice none 0 0]
    simp only [World.size_alloc] at this
    exact this.alloc _
  have T0 : Hid (Blk W (w.heap.size + 1 + 1) 42 #[.int .i64 0, .int .i64 0, .int .i64 0, .int .i64 0, .bool false]) := by
    show Blk _ _ _ _
    rw [hW]
    have := Blk.new ((w.alloc (.cells #[.slice A1 a.slots.ages.length c1, .slice A2 a.slots.used.length c2, .slice A3 a.list.length c3] 34)).alloc (.cells #[.slice none 0 0, .slice none 0 0, .slice none 0 0] 34)) 42 #[.int .i64 0, .int .i64 0, .int .i64 0, .int .i64 0, .bool false]
    simpa using this
  have zW : w.heap.size + 3 ≤ W.heap.size := by rw [hW]; simp
  have HW := Lib.hid hW
  have b0 := ax0 B0.out
  have b1 := ax1 B0.out
  have b2 := ax2 B0.out
  clear hW
  have CO := Lib.hid (as8_any a _ W (HA.out.up KW.out))
  go_enter Try.func32, Try.ntmps32
  go_upto_region 1 with fail
  rw [← HW.out]
  go_wp2_with fail
  clear b0 b1 b2
  with_reducible refine CO.out.mono ?_
  rintro e w1 ⟨rfl, hk⟩
  have K1 := Lib.hid (KW.out.trans hk)
  have B1 := Lib.hid (B0.out.kept hk (.inl (Nat.le_refl _)))
  have R1 := Lib.hid (R0.out.kept hk (.inl (Nat.le_refl _)))
  have T1 := Lib.hid (T0.out.kept hk (.inl (Nat.le_refl _)))
  have z1 := hk.size
  clear hk CO B0 T0 R0 KW HW
  cases q1 : aftersB a
  · have E := Lib.hid (pick_bad (p := goB) q1)
    have r0 := ax0 R1.out
    have f0 := R1.out.frozen 0
    have r1 := ax1 R1.out
    have f1 := R1.out.frozen 1
    have r2 := ax2 R1.out
    have f2 := R1.out.frozen 2
    have t0 := az0 T1.out
    have h0 := T1.out.frozen 0
    have t1 := az1 T1.out
    have h1 := T1.out.frozen 1
    have t2 := az2 T1.out
    have h2 := T1.out.frozen 2
    have t3 := az3 T1.out
    have h3 := T1.out.frozen 3
    have t4 := az4 T1.out
    have h4 := T1.out.frozen 4
    have BF := blkB R1.out T1.out (.slice none 0 0) (.slice none 0 0) (.slice none 0 0) (.int .i64 0) (.int .i64 0) (.int .i64 0) (.int .i64 0) (.bool false)
    have F0 := ax0 BF.1
    have F1 := ax1 BF.1
    have F2 := ax2 BF.1
    have G0 := az0 BF.2
    have G1 := az1 BF.2
    have G2 := az2 BF.2
    have G3 := az3 BF.2
    have G4 := az4 BF.2
    have KF := Lib.hid (keptB w1 (w.heap.size + 1) (.slice none 0 0) (.slice none 0 0) (.slice none 0 0) (.int .i64 0) (.int .i64 0) (.int .i64 0) (.int .i64 0) (.bool false))
    clear q1 BF
    go_wp2_with fail
    refine bodyPost_ret (v := .tuple #[.agg #[.slice none 0 0, .slice none 0 0, .slice none 0 0], .agg #[.int .i64 0, .int .i64 0, .int .i64 0, .int .i64 0, .bool false], .bool false]) (by simp [results, Try.results32, go_sem, F0, F1, F2, G0, G1, G2, G3, G4]) rfl ⟨_, ret_uxb (x := ⟨0, 0, 0, 0, false⟩) rfl E.out.2.2.symm E.out.1.symm, by rw [E.out.2.1]; exact OwnAs.asZ _ _ _, K1.out.trans2 KF.out (.inr (by omega))⟩
  have Q1 := Lib.hid q1
  have OK := aftersB_true.1 q1
  have ll := OK.len
  have SB := Lib.hid OK.slots
  clear q1 OK
  go_wp2_with fail
  go_loopw [5] (fun i wr => ∃ n : Nat, n ≤ a.list.length ∧ i = .int .i64 n ∧ Hid (NoneP goB a.list n) ∧ Hid (Kept 0 0 w1 wr)) (fun i _ => a.list.length - (intOf i).toNat)
  case atStart => exact ⟨0, Nat.zero_le _, rfl, Lib.hid (NoneP.zero _ _), Lib.hid (Kept.refl _ _ _)⟩
  case round =>
    obtain ⟨n, hn, rfl, HP, HK⟩ := hrel
    have BR := Lib.hid (B1.out.kept HK.out (.inl (Nat.le_refl _)))
    have TR := Lib.hid (T1.out.kept HK.out (.inl (Nat.le_refl _)))
    have RR := Lib.hid (R1.out.kept HK.out (.inl (Nat.le_refl _)))
    have KR := Lib.hid (K1.out.trans HK.out)
    have zR := HK.out.size
    have b2 := ax2 BR.out
    by_cases hlt : n < a.list.length
    · have i1 : (n : Int) < (a.list.length : Int) := by omega
      obtain ⟨ad, rfl, hab, e0, e1, e2, e3, e4⟩ := (S3.out.kept (Nat.le_refl _) KR.out (.inl (Nat.le_refl _))).af hlt
      have ne1 : ¬ ad.block = w.heap.size + 1 := by omega
      have ne2 : ¬ w.heap.size + 1 = ad.block := by omega
      have ne3 : ¬ (ad.add (n * 5)).block = w.heap.size + 1 := by rw [block_add]; omega
      have ne4 : ¬ w.heap.size + 1 = (ad.add (n * 5)).block := by rw [block_add]; omega
      have na0 : (⟨w.heap.size + 1, 0, none⟩ : Addr) ≠ ad.add (n * 5) := fun e => ne4 (congrArg Addr.block e)
      have nb0 : ad.add (n * 5) ≠ (⟨w.heap.size + 1, 0, none⟩ : Addr) := fun e => ne3 (congrArg Addr.block e)
      have na1 : (⟨w.heap.size + 1, 1, none⟩ : Addr) ≠ ad.add (n * 5) := fun e => ne4 (congrArg Addr.block e)
      have nb1 : ad.add (n * 5) ≠ (⟨w.heap.size + 1, 1, none⟩ : Addr) := fun e => ne3 (congrArg Addr.block e)
      have na2 : (⟨w.heap.size + 1, 2, none⟩ : Addr) ≠ ad.add (n * 5) := fun e => ne4 (congrArg Addr.block e)
      have nb2 : ad.add (n * 5) ≠ (⟨w.heap.size + 1, 2, none⟩ : Addr) := fun e => ne3 (congrArg Addr.block e)
      clear hab
      obtain ⟨x, hx⟩ : ∃ x, x = a.list[n] := ⟨_, rfl⟩
      rw [← hx] at e0 e1 e2 e3 e4
      have HX := Lib.hid hx
      clear hx
      go_upto_region 6 with fail
      cases d2 : x.queued
      case false =>
        rw [d2] at e4
        have ED : Hid (NoneP goB a.list (n + 1)) := HP.out.succ hlt (by rw [← HX.out]; unfold goB; simp [d2])
        have KF := HK
        go_wp2_with fail
        go_roundw
        case rel => exact ⟨n + 1, by omega, by go_num, ED, KF⟩
        case measure => simp [intOf]; omega
      have e4' := e4
      rw [d2] at e4
      by_cases d3 : x.age < 1000000
      case neg =>
        have ED : Hid (NoneP goB a.list (n + 1)) := HP.out.succ hlt (by rw [← HX.out]; unfold goB; simp [d2, d3])
        have KF := HK
        go_wp2_with fail
        go_roundw
        case rel => exact ⟨n + 1, by omega, by go_num, ED, KF⟩
        case measure => simp [intOf]; omega
      have ED := Lib.hid (pick_some (p := goB) Q1.out hlt (by rw [← HX.out]; unfold goB; simp [d2, d3]) HP.out)
      have KD := Lib.hid KR.out.drew
      have RD := Lib.hid RR.out.drew
      have TD := Lib.hid TR.out.drew
      have CA := Lib.hid (away8_any a n _ wr.drew (HA.out.up KD.out) Q1.out hlt)
      obtain ⟨t, ht⟩ : ∃ t, t = awayA a n := ⟨_, rfl⟩
      rw [← ht] at CA ED
      go_upto_region 7 with fail
      clear d3 ht e4
      have b0 := ax0 BR.out
      have b1 := ax1 BR.out
      have Q2 := Lib.hid d2
      clear d2
      go_cut [4] (fun v4 wx => v4 = .bool true ∧ StSt w t x wx)
      case rest =>
        obtain ⟨rfl, D1, d1, D2, d2, D3, d3, U1, U2, HO, HK9⟩ := hcut
        have F0 := ax0 U1
        have F1 := ax1 U1
        have F2 := ax2 U1
        have G0 := az0 U2
        have G1 := az1 U2
        have G2 := az2 U2
        have G3 := az3 U2
        have G4 := az4 U2
        go_wp2_with fail
        refine bodyPost_ret (v := .tuple #[.agg #[.slice D1 t.slots.ages.length d1, .slice D2 t.slots.used.length d2, .slice D3 t.list.length d3], .agg #[.int .i64 x.slot, .int .i64 x.age, .int .i64 x.node, .int .i64 x.func, .bool x.queued], .bool true]) (by simp [results, Try.results32, go_sem, F0, F1, F2, G0, G1, G2, G3, G4]) rfl ⟨_, ret_uxb (x := x) rfl (by rw [ED.out.2.2]; exact HX.out) ED.out.1.symm, ?_, HK9⟩
        rw [ED.out.2.1]
        exact HO
      case first =>
       go_region_with ((with_reducible refine CA.out.mono ?_); rintro e w2 ⟨_, rfl, ⟨_, _, _, rfl, ⟨D1, d1, rfl, o1⟩, ⟨D2, d2, rfl, o2⟩, ⟨D3, d3, rfl, o3⟩⟩, hk⟩; have R2 := RD.out.kept hk (.inl (Nat.le_refl _)); have T2 := TD.out.kept hk (.inl (Nat.le_refl _)); have B2 := BR.out.drew.kept hk (.inl (Nat.le_refl _)); have b2 := ax2 B2; have r0 := ax0 R2; have f0 := R2.frozen 0; have r1 := ax1 R2; have f1 := R2.frozen 1; have r2 := ax2 R2; have f2 := R2.frozen 2; have t0 := az0 T2; have h0 := T2.frozen 0; have t1 := az1 T2; have h1 := T2.frozen 1; have t2 := az2 T2; have h2 := T2.frozen 2; have t3 := az3 T2; have h3 := T2.frozen 3; have t4 := az4 T2; have h4 := T2.frozen 4; obtain ⟨ad', e', _, e0, e1, e2, e3, e4'⟩ := (S3.out.kept (Nat.le_refl _) (KD.out.trans hk) (.inl (Nat.le_refl _))).af hlt; injection e' with e'; subst e'; rw [← HX.out] at e0 e1 e2 e3 e4')
       all_goals (go_wp2_with fail; go_meet)
       all_goals (have zD : wr.drew.heap.size = wr.heap.size := rfl; have z2 := hk.size; have BF := blkB R2 T2 (.slice D1 t.slots.ages.length d1) (.slice D2 t.slots.used.length d2) (.slice D3 t.list.length d3) (.int .i64 x.slot) (.int .i64 x.age) (.int .i64 x.node) (.int .i64 x.func) (.bool x.queued); have KF := keptB w2 (w.heap.size + 1) (.slice D1 t.slots.ages.length d1) (.slice D2 t.slots.used.length d2) (.slice D3 t.list.length d3) (.int .i64 x.slot) (.int .i64 x.age) (.int .i64 x.node) (.int .i64 x.func) (.bool x.queued); have q1 := KF.size)
       all_goals exact ⟨rfl, D1, d1, D2, d2, D3, d3, BF.1, BF.2, ⟨_, _, _, rfl, ⟨D1, d1, rfl, (o1.kept KF (.inr (.inr (by omega)))).wide (by omega) q1⟩, ⟨D2, d2, rfl, (o2.kept KF (.inr (.inr (by omega)))).wide (by omega) q1⟩, ⟨D3, d3, rfl, (o3.kept KF (.inr (.inr (by omega)))).wide (by omega) q1⟩⟩, (KD.out.trans hk).trans2 KF (.inr (by omega))⟩
    · have E := Lib.hid (pick_none (p := goB) Q1.out (show NoneP _ _ _ from by have := HP.out; rwa [show n = a.list.length by omega] at this))
      have j1 : ¬ (n : Int) < (a.list.length : Int) := by omega
      have b0 := ax0 BR.out
      have b1 := ax1 BR.out
      have CC := Lib.hid (copy8_any a _ wr (HA.out.up KR.out) SB.out ll)
      go_wp2_with fail
      with_reducible refine CC.out.mono ?_
      rintro e w2 ⟨_, rfl, ⟨_, _, _, rfl, ⟨D1, d1, rfl, o1⟩, ⟨D2, d2, rfl, o2⟩, ⟨D3, d3, rfl, o3⟩⟩, hk⟩
      have K2 := Lib.hid (KR.out.trans hk)
      have R2 := RR.out.kept hk (.inl (Nat.le_refl _))
      have T2 := TR.out.kept hk (.inl (Nat.le_refl _))
      have z2 := hk.size
      have r0 := ax0 R2
      have f0 := R2.frozen 0
      have r1 := ax1 R2
      have f1 := R2.frozen 1
      have r2 := ax2 R2
      have f2 := R2.frozen 2
      have t0 := az0 T2
      have h0 := T2.frozen 0
      have t1 := az1 T2
      have h1 := T2.frozen 1
      have t2 := az2 T2
      have h2 := T2.frozen 2
      have t3 := az3 T2
      have h3 := T2.frozen 3
      have t4 := az4 T2
      have h4 := T2.frozen 4
      have BF := blkB R2 T2 (.slice D1 a.slots.ages.length d1) (.slice D2 a.slots.used.length d2) (.slice D3 a.list.length d3) (.int .i64 0) (.int .i64 0) (.int .i64 0) (.int .i64 0) (.bool false)
      have F0 := ax0 BF.1
      have F1 := ax1 BF.1
      have F2 := ax2 BF.1
      have G0 := az0 BF.2
      have G1 := az1 BF.2
      have G2 := az2 BF.2
      have G3 := az3 BF.2
      have G4 := az4 BF.2
      have KF := Lib.hid (keptB w2 (w.heap.size + 1) (.slice D1 a.slots.ages.length d1) (.slice D2 a.slots.used.length d2) (.slice D3 a.list.length d3) (.int .i64 0) (.int .i64 0) (.int .i64 0) (.int .i64 0) (.bool false))
      have q1 := KF.out.size
      have HH := Lib.hid (And.intro o1 (And.intro o2 o3))
      clear R2 T2 BF hk CC o1 o2 o3 b0 b1 b2
      go_wp2_with fail
      refine bodyPost_ret (v := .tuple #[.agg #[.slice D1 a.slots.ages.length d1, .slice D2 a.slots.used.length d2, .slice D3 a.list.length d3], .agg #[.int .i64 0, .int .i64 0, .int .i64 0, .int .i64 0, .bool false], .bool false]) (by simp [results, Try.results32, go_sem, F0, F1, F2, G0, G1, G2, G3, G4]) rfl ⟨_, ret_uxb (x := ⟨0, 0, 0, 0, false⟩) rfl E.out.2.2.symm E.out.1.symm, ?_, K2.out.trans2 KF.out (.inr (by omega))⟩
      rw [E.out.2.1]
      exact ⟨_, _, _, rfl, ⟨D1, d1, rfl, (HH.out.1.kept KF.out (.inr (.inr (by omega)))).wide (by omega) (by omega)⟩, ⟨D2, d2, rfl, (HH.out.2.1.kept KF.out (.inr (.inr (by omega)))).wide (by omega) (by omega)⟩, ⟨D3, d3, rfl, (HH.out.2.2.kept KF.out (.inr (.inr (by omega)))).wide (by omega) (by omega)⟩⟩
end Go.Proofs.Ytnnbfcmbcjkpoaa
