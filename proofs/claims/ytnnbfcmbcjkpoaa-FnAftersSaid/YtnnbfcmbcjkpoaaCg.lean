/- The reference's CalledOff; no condition beyond that the afters can be read. -/
import Derived.Test.YtnnbfcmbcjkpoaaCf
namespace Go.Proofs.Ytnnbfcmbcjkpoaa
open Go.RowKit Go.Sort

/-- Nothing among the first n. -/
def NoneP (p : Aft → Bool) (l : List Aft) (n : Nat) : Prop := ∀ j (hj : j < l.length), j < n → p l[j] = false
theorem NoneP.zero (p : Aft → Bool) (l : List Aft) : NoneP p l 0 := fun j _ h => by omega
theorem NoneP.succ {p : Aft → Bool} {l : List Aft} {n : Nat} (h : NoneP p l n) (hn : n < l.length) (h1 : p l[n] = false) : NoneP p l (n + 1) := fun j hj hjn => by
  rcases Nat.lt_or_ge j n with h' | h'
  · exact h j hj h'
  · obtain rfl : j = n := by omega
    exact h1
section
variable {p : Aft → Bool} {a : Afs}
theorem pick_bad (h : aftersB a = false) : pickB p a = false ∧ pickA p a = asZ ∧ pickX p a = ⟨0, 0, 0, 0, false⟩ := by simp [pickB, pickA, pickX, h]
theorem pick_none (h : aftersB a = true) (hn : NoneP p a.list a.list.length) : pickB p a = false ∧ pickA p a = a ∧ pickX p a = ⟨0, 0, 0, 0, false⟩ := by
  have e : firstP p a.list = none := firstP_none fun i hi => hn i hi hi
  simp [pickB, pickA, pickX, h, e]
theorem pick_some {n : Nat} (h : aftersB a = true) (hn : n < a.list.length) (h1 : p a.list[n] = true) (h2 : NoneP p a.list n) : pickB p a = true ∧ pickA p a = awayA a n ∧ pickX p a = a.list[n] := by
  have e : firstP p a.list = some n := firstP_some hn h1 h2
  simp [pickB, pickA, pickX, h, e, hn]
end
/-- The zero afters stored. -/
theorem OwnAs.asZ (w : World) (lo hi : Nat) : OwnAs w lo hi (.agg #[.slice none 0 0, .slice none 0 0, .slice none 0 0]) asZ := OwnAs.nil w lo hi
theorem ret_ub' {u : Value} {p q : Bool} (h : p = q) : Ending.returned (.tuple #[u, .bool p]) = Ending.returned (.tuple #[u, .bool q]) := by rw [h]
theorem keptA (w : World) (g : Nat) (a b c : Value) : Kept g (g + 1) w (((w.setCell ⟨g, 0, none⟩ a).setCell ⟨g, 1, none⟩ b).setCell ⟨g, 2, none⟩ c) :=
  (((Kept.refl g (g + 1) w).setCell (.inr ⟨Nat.le_refl _, Nat.lt_succ_self _⟩) _).setCell (.inr ⟨Nat.le_refl _, Nat.lt_succ_self _⟩) _).setCell (.inr ⟨Nat.le_refl _, Nat.lt_succ_self _⟩) _
theorem blkA {w : World} {g : Nat} {ty : TypeId} {x y z : Value} (h : Blk w g ty #[x, y, z]) (a b c : Value) : Blk (((w.setCell ⟨g, 0, none⟩ a).setCell ⟨g, 1, none⟩ b).setCell ⟨g, 2, none⟩ c) g ty #[a, b, c] := by
  have := ((h.set_ 0 a).set_ 1 b).set_ 2 c
  simpa using this

set_option maxHeartbeats 6400000 in
set_option maxRecDepth 100000 in
theorem specOff : DoesAsC 29 := fun a s g v w h => by
  have HA := Lib.hid h
  obtain ⟨_, _, _, rfl, ⟨A1, c1, rfl, s1⟩, ⟨A2, c2, rfl, s2⟩, ⟨A3, c3, rfl, s3⟩⟩ := h
  have m3 := s3.rd.1
  unfold maxLen at m3
  have S3 := Lib.hid s3.rd
  clear s1 s2 s3
  obtain ⟨W, hW⟩ : ∃ W, W = ((w.alloc (.cells #[.slice A1 a.slots.ages.length c1, .slice A2 a.slots.used.length c2, .slice A3 a.list.length c3] 34)).alloc (.cells #[.int .i64 s, .int .i64 g] 40)).alloc (.cells #[.slice none 0 0, .slice none 0 0, .slice none 0 0] 34) := ⟨_, rfl⟩
  have KW : Hid (Kept 0 0 w W) := by show Kept _ _ _ _; rw [hW]; exact ((Kept.alloc0 _ _).alloc _).alloc _
  have B0 : Hid (Blk W w.heap.size 34 #[.slice A1 a.slots.ages.length c1, .slice A2 a.slots.used.length c2, .slice A3 a.list.length c3]) := by show Blk _ _ _ _; rw [hW]; exact ((Blk.new _ _ _).alloc _).alloc _
  have H0 : Hid (Blk W (w.heap.size + 1) 40 #[.int .i64 s, .int .i64 g]) := by
    show Blk _ _ _ _
    rw [hW]
    have := Blk.new (w.alloc (.cells #[.slice A1 a.slots.ages.length c1, .slice A2 a.slots.used.length c2, .slice A3 a.list.length c3] 34)) 40 #[.int .i64 s, .int .i64 g]
    simp only [World.size_alloc] at this
    exact this.alloc _
  have R0 : Hid (Blk W (w.heap.size + 2) 34 #[.slice none 0 0, .slice none 0 0, .slice none 0 0]) := by
    show Blk _ _ _ _
    rw [hW]
    have := Blk.new ((w.alloc (.cells #[.slice A1 a.slots.ages.length c1, .slice A2 a.slots.used.length c2, .slice A3 a.list.length c3] 34)).alloc (.cells #[.int .i64 s, .int .i64 g] 40)) 34 #[.slice none 0 0, .slice none 0 0, .slice none 0 0]
    simpa using this
  have zW : w.heap.size + 3 ≤ W.heap.size := by rw [hW]; simp
  have HW := Lib.hid hW
  have b0 := ax0 B0.out
  have b1 := ax1 B0.out
  have b2 := ax2 B0.out
  clear hW
  have CO := Lib.hid (as8_any a _ W (HA.out.up KW.out))
  go_enter Try.func29, Try.ntmps29
  go_upto_region 1 with fail
  rw [← HW.out]
  go_wp2_with fail
  clear b0 b1 b2
  with_reducible refine CO.out.mono ?_
  rintro e w1 ⟨rfl, hk⟩
  have K1 := Lib.hid (KW.out.trans hk)
  have B1 := Lib.hid (B0.out.kept hk (.inl (Nat.le_refl _)))
  have H1 := Lib.hid (H0.out.kept hk (.inl (Nat.le_refl _)))
  have R1 := Lib.hid (R0.out.kept hk (.inl (Nat.le_refl _)))
  have z1 := hk.size
  clear hk CO B0 H0 R0 KW HW
  cases q1 : aftersB a
  · have E := Lib.hid (pick_bad (p := offB s g) q1)
    have r0 := ax0 R1.out
    have r1 := ax1 R1.out
    have r2 := ax2 R1.out
    have f0 := R1.out.frozen 0
    have f1 := R1.out.frozen 1
    have f2 := R1.out.frozen 2
    have BF := blkA R1.out (.slice none 0 0) (.slice none 0 0) (.slice none 0 0)
    have F0 := ax0 BF
    have F1 := ax1 BF
    have F2 := ax2 BF
    have KF := Lib.hid (keptA w1 (w.heap.size + 2) (.slice none 0 0) (.slice none 0 0) (.slice none 0 0))
    clear q1 BF
    go_wp2_with fail
    refine bodyPost_ret (v := .tuple #[.agg #[.slice none 0 0, .slice none 0 0, .slice none 0 0], .bool false]) (by simp [results, Try.results29, go_sem, F0, F1, F2]) rfl ⟨_, ret_ub' E.out.1.symm, by rw [E.out.2.1]; exact OwnAs.asZ _ _ _, K1.out.trans2 KF.out (.inr (by omega))⟩
  have Q1 := Lib.hid q1
  have OK := aftersB_true.1 q1
  have ll := OK.len
  have SB := Lib.hid OK.slots
  clear q1 OK
  go_wp2_with fail
  go_loopw [6] (fun i wr => ∃ n : Nat, n ≤ a.list.length ∧ i = .int .i64 n ∧ Hid (NoneP (offB s g) a.list n) ∧ Hid (Kept 0 0 w1 wr)) (fun i _ => a.list.length - (intOf i).toNat)
  case atStart => exact ⟨0, Nat.zero_le _, rfl, Lib.hid (NoneP.zero _ _), Lib.hid (Kept.refl _ _ _)⟩
  case round =>
    obtain ⟨n, hn, rfl, HP, HK⟩ := hrel
    have BR := Lib.hid (B1.out.kept HK.out (.inl (Nat.le_refl _)))
    have HR := Lib.hid (H1.out.kept HK.out (.inl (Nat.le_refl _)))
    have RR := Lib.hid (R1.out.kept HK.out (.inl (Nat.le_refl _)))
    have KR := Lib.hid (K1.out.trans HK.out)
    have zR := HK.out.size
    have b2 := ax2 BR.out
    by_cases hlt : n < a.list.length
    · have i1 : (n : Int) < (a.list.length : Int) := by omega
      obtain ⟨ad, rfl, _, e0, e1, e2, e3, e4⟩ := (S3.out.kept (Nat.le_refl _) KR.out (.inl (Nat.le_refl _))).af hlt
      obtain ⟨x, hx⟩ : ∃ x, x = a.list[n] := ⟨_, rfl⟩
      rw [← hx] at e0 e1 e2 e3 e4
      have HX := Lib.hid hx
      have h0 := ay0 HR.out
      have h1 := ay1 HR.out
      clear hx e2 e3
      go_upto_region 6 with fail
      by_cases d0 : x.slot = s
      case neg =>
        have ED : Hid (NoneP (offB s g) a.list (n + 1)) := HP.out.succ hlt (by rw [← HX.out]; unfold offB; simp [d0])
        have KF := Lib.hid HK.out.drew
        go_region
        go_wp2_with fail
        go_roundw
        case rel => exact ⟨n + 1, by omega, by go_num, ED, KF⟩
        case measure => simp [intOf]; omega
      by_cases d1 : x.age = g
      case neg =>
        have ED : Hid (NoneP (offB s g) a.list (n + 1)) := HP.out.succ hlt (by rw [← HX.out]; unfold offB; simp [d0, d1])
        have KF := Lib.hid HK.out.drew
        go_region
        go_wp2_with fail
        go_roundw
        case rel => exact ⟨n + 1, by omega, by go_num, ED, KF⟩
        case measure => simp [intOf]; omega
      cases d2 : x.queued
      case true =>
        rw [d2] at e4
        have ED : Hid (NoneP (offB s g) a.list (n + 1)) := HP.out.succ hlt (by rw [← HX.out]; unfold offB; simp [d0, d1, d2])
        have KF := Lib.hid HK.out.drew
        go_region
        go_wp2_with fail
        go_roundw
        case rel => exact ⟨n + 1, by omega, by go_num, ED, KF⟩
        case measure => simp [intOf]; omega
      rw [d2] at e4
      by_cases d3 : g < 1000000
      case neg =>
        have ED : Hid (NoneP (offB s g) a.list (n + 1)) := HP.out.succ hlt (by rw [← HX.out]; unfold offB; simp [d0, d1, d2, d3])
        have KF := Lib.hid HK.out.drew
        go_region
        go_wp2_with fail
        go_roundw
        case rel => exact ⟨n + 1, by omega, by go_num, ED, KF⟩
        case measure => simp [intOf]; omega
      have ED := Lib.hid (pick_some (p := offB s g) Q1.out hlt (by rw [← HX.out]; unfold offB; simp [d0, d1, d2, d3]) HP.out)
      have KD := Lib.hid KR.out.drew
      have BD := Lib.hid BR.out.drew
      have RD := Lib.hid RR.out.drew
      have CA := Lib.hid (away8_any a n _ wr.drew (HA.out.up KD.out) Q1.out hlt)
      obtain ⟨t, ht⟩ : ∃ t, t = awayA a n := ⟨_, rfl⟩
      rw [← ht] at CA ED
      go_region
      clear b2 e0 e1 e4 h0 h1 d0 d1 d2 d3 ht
      have b0 := ax0 BD.out
      have b1 := ax1 BD.out
      have b2 := ax2 BD.out
      go_wp2_with fail
      with_reducible refine CA.out.mono ?_
      rintro e w2 ⟨_, rfl, ⟨_, _, _, rfl, ⟨D1, d1, rfl, o1⟩, ⟨D2, d2, rfl, o2⟩, ⟨D3, d3, rfl, o3⟩⟩, hk⟩
      have K2 := Lib.hid (KD.out.trans hk)
      have R2 := RD.out.kept hk (.inl (Nat.le_refl _))
      have z2 := hk.size
      have r0 := ax0 R2
      have r1 := ax1 R2
      have r2 := ax2 R2
      have f0 := R2.frozen 0
      have f1 := R2.frozen 1
      have f2 := R2.frozen 2
      have BF := blkA R2 (.slice D1 t.slots.ages.length d1) (.slice D2 t.slots.used.length d2) (.slice D3 t.list.length d3)
      have F0 := ax0 BF
      have F1 := ax1 BF
      have F2 := ax2 BF
      have KF := Lib.hid (keptA w2 (w.heap.size + 2) (.slice D1 t.slots.ages.length d1) (.slice D2 t.slots.used.length d2) (.slice D3 t.list.length d3))
      have q1 := KF.out.size
      have HH := Lib.hid (And.intro o1 (And.intro o2 o3))
      clear R2 BF hk CA o1 o2 o3 b0 b1 b2
      go_wp2_with fail
      refine bodyPost_ret (v := .tuple #[.agg #[.slice D1 t.slots.ages.length d1, .slice D2 t.slots.used.length d2, .slice D3 t.list.length d3], .bool true]) (by simp [results, Try.results29, go_sem, F0, F1, F2]) rfl ⟨_, ret_ub' ED.out.1.symm, ?_, K2.out.trans2 KF.out (.inr (by omega))⟩
      rw [ED.out.2.1]
      have zD : wr.drew.heap.size = wr.heap.size := rfl
      exact ⟨_, _, _, rfl, ⟨D1, d1, rfl, (HH.out.1.kept KF.out (.inr (.inr (by omega)))).wide (by omega) (by omega)⟩, ⟨D2, d2, rfl, (HH.out.2.1.kept KF.out (.inr (.inr (by omega)))).wide (by omega) (by omega)⟩, ⟨D3, d3, rfl, (HH.out.2.2.kept KF.out (.inr (.inr (by omega)))).wide (by omega) (by omega)⟩⟩
    · have E := Lib.hid (pick_none (p := offB s g) Q1.out (show NoneP _ _ _ from by have := HP.out; rwa [show n = a.list.length by omega] at this))
      have j1 : ¬ (n : Int) < (a.list.length : Int) := by omega
      have b0 := ax0 BR.out
      have b1 := ax1 BR.out
      have CC := Lib.hid (copy8_any a _ wr (HA.out.up KR.out) SB.out ll)
      go_wp2_with fail
      with_reducible refine CC.out.mono ?_
      rintro e w2 ⟨_, rfl, ⟨_, _, _, rfl, ⟨D1, d1, rfl, o1⟩, ⟨D2, d2, rfl, o2⟩, ⟨D3, d3, rfl, o3⟩⟩, hk⟩
      have K2 := Lib.hid (KR.out.trans hk)
      have R2 := RR.out.kept hk (.inl (Nat.le_refl _))
      have z2 := hk.size
      have r0 := ax0 R2
      have r1 := ax1 R2
      have r2 := ax2 R2
      have f0 := R2.frozen 0
      have f1 := R2.frozen 1
      have f2 := R2.frozen 2
      have BF := blkA R2 (.slice D1 a.slots.ages.length d1) (.slice D2 a.slots.used.length d2) (.slice D3 a.list.length d3)
      have F0 := ax0 BF
      have F1 := ax1 BF
      have F2 := ax2 BF
      have KF := Lib.hid (keptA w2 (w.heap.size + 2) (.slice D1 a.slots.ages.length d1) (.slice D2 a.slots.used.length d2) (.slice D3 a.list.length d3))
      have q1 := KF.out.size
      have HH := Lib.hid (And.intro o1 (And.intro o2 o3))
      clear R2 BF hk CC o1 o2 o3 b0 b1 b2
      go_wp2_with fail
      refine bodyPost_ret (v := .tuple #[.agg #[.slice D1 a.slots.ages.length d1, .slice D2 a.slots.used.length d2, .slice D3 a.list.length d3], .bool false]) (by simp [results, Try.results29, go_sem, F0, F1, F2]) rfl ⟨_, ret_ub' E.out.1.symm, ?_, K2.out.trans2 KF.out (.inr (by omega))⟩
      rw [E.out.2.1]
      exact ⟨_, _, _, rfl, ⟨D1, d1, rfl, (HH.out.1.kept KF.out (.inr (.inr (by omega)))).wide (by omega) (by omega)⟩, ⟨D2, d2, rfl, (HH.out.2.1.kept KF.out (.inr (.inr (by omega)))).wide (by omega) (by omega)⟩, ⟨D3, d3, rfl, (HH.out.2.2.kept KF.out (.inr (.inr (by omega)))).wide (by omega) (by omega)⟩⟩
end Go.Proofs.Ytnnbfcmbcjkpoaa
