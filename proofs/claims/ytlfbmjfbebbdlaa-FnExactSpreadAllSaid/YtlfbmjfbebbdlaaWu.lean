/- The exact laws of Begun, SpreadStep and SpreadAll, and that of SpreadOk, return true for every tree and spread that can be read; condition: the contracts of the program's functions. -/
import Derived.Test.YtlfbmjfbebbdlaaWl
import Derived.Deep.DeepCutAuto
namespace Go.Proofs.Ytlfbmjfbebbdlaa
open Go.RowKit Go.Sort

/-- A box that holds a spread in memory of its own, made behind the world c. -/
def SprAt (c w : World) (p : Value) (N : Spr) : Prop := ∃ r D1 D2 d1 d2, p = .pointer (some ⟨r, 0, none⟩) ∧ c.heap.size ≤ r ∧ Blk w r 31 #[.slice D1 N.told.length d1, .slice D2 N.work.length d2] ∧ OwnS w c.heap.size w.heap.size (.agg #[.slice D1 N.told.length d1, .slice D2 N.work.length d2]) N ∧ Kept 0 0 c w
theorem sprAt_new {c w : World} {N : Spr} {D1 D2 : Option Addr} {d1 d2 : Nat} (ho : OwnS w c.heap.size w.heap.size (.agg #[.slice D1 N.told.length d1, .slice D2 N.work.length d2]) N) (hk : Kept 0 0 c w) :
    SprAt c (w.alloc (.cells #[.slice D1 N.told.length d1, .slice D2 N.work.length d2] 31)) (.pointer (some ⟨w.heap.size, 0, none⟩)) N :=
  ⟨_, _, _, _, _, rfl, hk.size, Blk.new _ _ _, (ho.kept (Kept.alloc0 _ _) (.inl (Nat.le_refl _))).wide (Nat.le_refl _) (by simp), hk.alloc _⟩
theorem sprAt_set {c w : World} {r : Nat} {N : Spr} {D1 D2 : Option Addr} {d1 d2 : Nat} (hx : Blk w r 31 #[.slice none 0 0, .slice none 0 0]) (ho : OwnS w c.heap.size w.heap.size (.agg #[.slice D1 N.told.length d1, .slice D2 N.work.length d2]) N) (hk : Kept 0 0 c w) (hr : c.heap.size ≤ r) :
    SprAt c ((w.setCell ⟨r, 0, none⟩ (.slice D1 N.told.length d1)).setCell ⟨r, 1, none⟩ (.slice D2 N.work.length d2)) (.pointer (some ⟨r, 0, none⟩)) N := by
  have kx := kept_set2 w r (.slice D1 N.told.length d1) (.slice D2 N.work.length d2)
  obtain ⟨_, _, e, ⟨E1, x1, e1, o1⟩, ⟨E2, x2, e2, o2⟩⟩ := ho
  injection e with e
  injection e with e
  injection e with ea e
  injection e with eb
  rw [← ea] at e1
  rw [← eb] at e2
  injection e1 with f1 _ f2
  injection e2 with f3 _ f4
  subst f1 f2 f3 f4
  have hs := kx.size
  exact ⟨_, _, _, _, _, rfl, hr, blk_set2 hx _ _, ⟨_, _, rfl, ⟨_, _, rfl, (o1.off hx (by decide) kx).wide (Nat.le_refl _) hs⟩, ⟨_, _, rfl, (o2.off hx (by decide) kx).wide (Nat.le_refl _) hs⟩⟩, hk.trans2 kx (.inr hr)⟩

theorem sprP_len {t : List Nd} {s : Spr} (o : SprP t s) : s.told.length ≤ 1048576 ∧ s.work.length ≤ 1048576 := by
  have := o.told; have := o.tree.len; have := o.cap; omega
theorem begunS_len (t : List Nd) (s : Spr) (n : Int) : (begunS t s n).told.length ≤ 1048576 ∧ (begunS t s n).work.length ≤ 1048576 := by
  unfold begunS
  split
  · rename_i h
    have o := spreadB_true.1 h
    have := o.told; have := o.tree.len; have := o.cap
    split
    · simp; omega
    · omega
  · simp [sprZ]
theorem stepS_len (t : List Nd) (s : Spr) : (stepS t s).told.length ≤ 1048576 ∧ (stepS t s).work.length ≤ 1048576 := by
  unfold stepS
  split
  · rename_i h; exact sprP_len (spreadB_true.1 h).step
  · simp [sprZ]
theorem allP_P {t : List Nd} : ∀ (k : Nat) (s : Spr), meas s < k → SprP t s → SprP t (allP t s) := by
  intro k
  induction k with
  | zero => intro s h; omega
  | succ k ih =>
    intro s h o
    by_cases hw : s.work = []
    · rw [all_nil hw]; exact o
    · cases hs : stuckB t s
      · have := meas_lt hw hs
        rw [all_step hw hs]
        exact ih _ (by omega) o.step
      · rw [all_stuck hs]; exact o
theorem allS_len (t : List Nd) (s : Spr) : (allS t s).told.length ≤ 1048576 ∧ (allS t s).work.length ≤ 1048576 := by
  unfold allS
  split
  · rename_i h; exact sprP_len (allP_P _ s (Nat.lt_succ_self _) (spreadB_true.1 h))
  · simp [sprZ]

abbrev DoesBegun : Prop := ∀ (t : List Nd) (s : Spr) (n : Int) (v u : Value) (w : World), RdNd w w.heap.size v t → RdS w w.heap.size u s →
    Calls Try.prog 12 #[v, u, .int .i64 n] w fun e w' => ∃ z, e = .returned (.tuple #[z, .bool (begunB t s n)]) ∧ OwnS w' w.heap.size w'.heap.size z (begunS t s n) ∧ Kept 0 0 w w'
abbrev DoesSpreadStep : Prop := ∀ (t : List Nd) (s : Spr) (v u : Value) (w : World), RdNd w w.heap.size v t → RdS w w.heap.size u s →
    Calls Try.prog 17 #[v, u] w fun e w' => ∃ z, e = .returned (.tuple #[z, .int .i64 (stepI t s)]) ∧ OwnS w' w.heap.size w'.heap.size z (stepS t s) ∧ Kept 0 0 w w'
abbrev DoesSpreadAll : Prop := ∀ (t : List Nd) (s : Spr) (v u : Value) (w : World), RdNd w w.heap.size v t → RdS w w.heap.size u s →
    Calls Try.prog 13 #[v, u] w fun e w' => ∃ z, e = .returned z ∧ OwnS w' w.heap.size w'.heap.size z (allS t s) ∧ Kept 0 0 w w'

set_option maxHeartbeats 800000 in
theorem lawSpreadOk (D : DoesSpreadOk) (t : List Nd) (s : Spr) (v u : Value) (w : World) (ha : RdNd w w.heap.size v t) (hb : RdS w w.heap.size u s) :
    Calls Try.prog 5 #[v, u] w fun e w' => e = .returned (.bool true) ∧ Kept 0 0 w w' := by
  rcases Nat.lt_or_ge 1048576 (t.length + s.told.length + s.work.length) with hl | hl
  case inr => exact lawSpreadOk_small D t s v u w ha hb hl
  have Ha := Lib.hid ha
  have m1 := ha.len
  obtain ⟨hv, lv, rfl, ⟨A1, q1, rfl, s2⟩, ⟨A2, q2, rfl, s3⟩⟩ := hb
  have Hb : Hid (RdS w w.heap.size (.agg #[.slice A1 s.told.length q1, .slice A2 s.work.length q2]) s) := ⟨_, _, rfl, ⟨A1, q1, rfl, s2⟩, ⟨A2, q2, rfl, s3⟩⟩
  obtain ⟨W, hW⟩ : ∃ W, W = w.alloc (.cells #[.slice A1 s.told.length q1, .slice A2 s.work.length q2] 43) := ⟨_, rfl⟩
  have KW : Hid (Kept 0 0 w W) := by show Kept _ _ _ _; rw [hW]; exact Kept.alloc0 _ _
  have B0 : Hid (Blk W w.heap.size 43 #[.slice A1 s.told.length q1, .slice A2 s.work.length q2]) := by show Blk _ _ _ _; rw [hW]; exact Blk.new _ _ _
  have HW := Lib.hid hW
  clear hW s2 s3 ha
  rcases Nat.lt_or_ge 1048576 t.length with ht | ht
  · have Ea : Hid (szF 1048576 t.length = -1) := szF_neg (by omega)
    go_enter Try.func5, Try.ntmps5
    go_wp2_with fail
    rw [← HW.out]
    with_reducible refine (szNd t _ _ _ _ (Ha.out.up KW.out) (by omega) (by omega)).mono ?_
    rintro e w' ⟨rfl, rfl⟩
    rw [Ea.out]
    go_wp2
    go_ret
    exact ⟨rfl, KW.out⟩
  · have Ea : Hid (szF (1048576) t.length = 1048576 - t.length) := szF_pos (by omega)
    have sz : (0 : Int) ≤ 1048576 - t.length := by omega
    have b0 := bs0 B0.out
    have b1 := bs1 B0.out
    have CS := Lib.hid (szS_neg s _ (1048576 - (t.length : Int)) W _ (Hb.out.up KW.out) (by omega) (by omega) (by omega))
    go_enter Try.func5, Try.ntmps5
    go_wp2_with fail
    rw [← HW.out]
    with_reducible refine (szNd t _ _ _ _ (Ha.out.up KW.out) (by omega) (by omega)).mono ?_
    rintro e w' ⟨rfl, rfl⟩
    rw [Ea.out]
    go_wp2_with fail
    with_reducible refine CS.out.mono ?_
    rintro e w1 ⟨rfl, hk⟩
    have K1 := Lib.hid (KW.out.trans hk)
    clear hk CS
    go_wp2
    go_ret
    exact ⟨rfl, K1.out⟩

set_option maxHeartbeats 12800000 in
set_option maxRecDepth 100000 in
theorem lawBegun_small (D : DoesBegun) (t : List Nd) (s : Spr) (n : Int) (v u : Value) (w : World) (ha : RdNd w w.heap.size v t) (hb : RdS w w.heap.size u s) (hn : t.length + s.told.length + s.work.length ≤ 1048576) :
    Calls Try.prog 6 #[v, u, .int .i64 n] w fun e w' => e = .returned (.bool true) ∧ Kept 0 0 w w' := by
  have Ha := Lib.hid ha
  obtain ⟨hv, lv, rfl, ⟨A1, q1, rfl, s2⟩, ⟨A2, q2, rfl, s3⟩⟩ := hb
  have Hb : Hid (RdS w w.heap.size (.agg #[.slice A1 s.told.length q1, .slice A2 s.work.length q2]) s) := ⟨_, _, rfl, ⟨A1, q1, rfl, s2⟩, ⟨A2, q2, rfl, s3⟩⟩
  clear s2 s3 ha
  have han : t.length ≤ 1048576 := by omega
  have hbt : s.told.length ≤ 1048576 := by omega
  have hbw : s.work.length ≤ 1048576 := by omega
  have st := hbt
  have sw := hbw
  have Ea : Hid (szF (1048576) t.length = 1048576 - t.length) := szF_pos (by omega)
  obtain ⟨N, hN⟩ : ∃ N, N = begunS t s n := ⟨_, rfl⟩
  obtain ⟨bb, hbb⟩ : ∃ bb, bb = begunB t s n := ⟨_, rfl⟩
  have NL : N.told.length ≤ 1048576 ∧ N.work.length ≤ 1048576 := by rw [hN]; exact begunS_len _ _ _
  have Nt := NL.1
  have Nw := NL.2
  have CS : Hid (∀ (x y : Value) (X : World), RdNd X X.heap.size x t → RdS X X.heap.size y s → Calls Try.prog 27 #[x, y, .int .i64 n] X fun e w' => ∃ z, e = .returned (.tuple #[z, .bool bb]) ∧ OwnS w' X.heap.size w'.heap.size z N ∧ Kept 0 0 X w') := by
    intro x y X h1 h2
    have := beg7_any t s n x y X h1 h2
    rw [← hN, ← hbb] at this
    exact this
  have CI : Hid (∀ (x y : Value) (X : World), RdNd X X.heap.size x t → RdS X X.heap.size y s → Calls Try.prog 12 #[x, y, .int .i64 n] X fun e w' => ∃ z, e = .returned (.tuple #[z, .bool bb]) ∧ OwnS w' X.heap.size w'.heap.size z N ∧ Kept 0 0 X w') := by
    intro x y X h1 h2
    have := D t s n x y X h1 h2
    rw [← hN, ← hbb] at this
    exact this
  clear hN NL hbb
  have qq : (bb != bb) = false := by simp
  go_enter Try.func6, Try.ntmps6
  go_wp2_with fail
  obtain ⟨w1, hw⟩ : ∃ w1, w1 = w.alloc (.cells #[.slice A1 s.told.length q1, .slice A2 s.work.length q2] 43) := ⟨_, rfl⟩
  have hk : Kept 0 0 w w1 := by rw [hw]; exact Kept.alloc0 _ _
  have Na : Hid (Blk w1 w.heap.size 43 #[.slice A1 s.told.length q1, .slice A2 s.work.length q2]) := by show Blk _ _ _ _; rw [hw]; exact Blk.new _ _ _
  rw [← hw]
  have Ba := Na
  clear Na
  have y1 := Ba.out.lt
  have K1 := Lib.hid ((Kept.refl 0 0 w).trans hk)
  have z1 := hk.size
  clear hk hw
  have SZ : Hid ((0 : Int) ≤ 1048576 - t.length - s.told.length - s.work.length) := by show _ ≤ _; omega
  have sz := SZ.out
  with_reducible refine (szNd t _ _ _ _ (Ha.out.up K1.out) (by omega) (by omega)).mono ?_
  rintro e w' ⟨rfl, rfl⟩
  rw [Ea.out]
  have ca0 := bs0 Ba.out
  have ca1 := bs1 Ba.out
  go_wp2_with fail
  clear ca0 ca1
  with_reducible refine (szS_pos s _ _ _ _ (Hb.out.up K1.out) (by omega) (by omega)).mono ?_
  rintro e w2 ⟨rfl, hk⟩
  have Ra := Lib.hid (Ba.out.kept hk (.inl (Nat.le_refl _)))
  clear Ba
  have Ba := Ra
  clear Ra
  have K2 := Lib.hid (K1.out.trans hk)
  have z2 := hk.size
  clear hk K1
  go_upto_region 8 with fail
  go_cut [8, 9] (fun p q wx => SprAt w2 wx p N ∧ q = .bool bb)
  case first =>
    go_region_held3 (fun w' => w'.cell? ⟨w.heap.size, 0, none⟩ = some (.slice A1 s.told.length q1) ∧ w'.cell? ⟨w.heap.size, 1, none⟩ = some (.slice A2 s.work.length q2))
      (first | with_reducible exact ⟨bs0 Ba.out.drew, bs1 Ba.out.drew⟩ | with_reducible exact ⟨bs0 (Ba.out.alloc (.cells #[.slice none 0 0, .slice none 0 0] 31)).drew, bs1 (Ba.out.alloc (.cells #[.slice none 0 0, .slice none 0 0] 31)).drew⟩ | with_reducible exact ⟨bs0 Y1, bs1 Y1⟩ | with_reducible exact ⟨bs0 (Y1.alloc (.cells #[.slice none 0 0, .slice none 0 0] 31)), bs1 (Y1.alloc (.cells #[.slice none 0 0, .slice none 0 0] 31))⟩ | with_reducible exact ⟨bs0 Y2, bs1 Y2⟩ | with_reducible exact ⟨bs0 (Y2.alloc (.cells #[.slice none 0 0, .slice none 0 0] 31)), bs1 (Y2.alloc (.cells #[.slice none 0 0, .slice none 0 0] 31))⟩ | with_reducible exact ⟨bs0 Y3, bs1 Y3⟩ | with_reducible exact ⟨bs0 (Y3.alloc _), bs1 (Y3.alloc _)⟩ | with_reducible exact ⟨bs0 ((Y3.far (by first | omega | (simp; done) | (simp; omega)) _).far (by first | omega | (simp; done) | (simp; omega)) _), bs1 ((Y3.far (by first | omega | (simp; done) | (simp; omega)) _).far (by first | omega | (simp; done) | (simp; omega)) _)⟩)
      (first
        | (go_at_call 22; (with_reducible refine (toNd t v w2.drew (Ha.out.up (K2.out.trans (Kept.refl 0 0 w2).drew)) han).mono ?_); rintro e w1' ⟨u1, rfl, o1, hk⟩; have k1 : Kept 0 0 w2 w1' := (Kept.refl 0 0 w2).drew.trans hk; have Y1 := Ba.out.kept k1 (.inl (Nat.le_refl _)); have z1' := k1.size; clear hk)
        | (go_at_call 22; (with_reducible refine (toNd t v (w2.alloc (.cells #[.slice none 0 0, .slice none 0 0] 31)).drew (Ha.out.up (K2.out.trans (Kept.alloc0 w2 (.cells #[.slice none 0 0, .slice none 0 0] 31)).drew)) han).mono ?_); rintro e w1' ⟨u1, rfl, o1, hk⟩; have k1 : Kept 0 0 w2 w1' := (Kept.alloc0 w2 (.cells #[.slice none 0 0, .slice none 0 0] 31)).drew.trans hk; have Y1 := Ba.out.kept k1 (.inl (Nat.le_refl _)); have z1' := k1.size; have X1 : Blk w1' w2.heap.size 31 #[.slice none 0 0, .slice none 0 0] := (Blk.new w2 31 #[.slice none 0 0, .slice none 0 0]).drew.kept hk (.inl (Nat.le_refl _)); clear hk)
        | (go_at_call 23; have _t := X1; (with_reducible refine (toS s _ w1' (Hb.out.up (K2.out.trans k1)) hbt hbw).mono ?_); rintro e w2' ⟨u2, rfl, p2, hk⟩; have o2 := o1.kept hk (.inl (Nat.le_refl _)); have k2 : Kept 0 0 w2 w2' := k1.trans hk; have z2' : w1'.heap.size ≤ w2'.heap.size := (hk).size; have Y2 := Ba.out.kept k2 (.inl (Nat.le_refl _)); have X2 := X1.kept hk (.inl (Nat.le_refl _)); have rb : w2.heap.size ≤ w2.heap.size := Nat.le_refl _; clear hk)
        | (go_at_call 23; (with_reducible refine (toS s _ (w1'.alloc (.cells #[.slice none 0 0, .slice none 0 0] 31)) (Hb.out.up (K2.out.trans (k1.alloc (.cells #[.slice none 0 0, .slice none 0 0] 31)))) hbt hbw).mono ?_); rintro e w2' ⟨u2, rfl, p2, hk⟩; have o2 := o1.kept ((Kept.alloc0 w1' (.cells #[.slice none 0 0, .slice none 0 0] 31)).trans hk) (.inl (Nat.le_refl _)); have k2 : Kept 0 0 w2 w2' := k1.trans ((Kept.alloc0 w1' (.cells #[.slice none 0 0, .slice none 0 0] 31)).trans hk); have z2' : w1'.heap.size ≤ w2'.heap.size := (((Kept.alloc0 w1' (.cells #[.slice none 0 0, .slice none 0 0] 31)).trans hk)).size; have Y2 := Ba.out.kept k2 (.inl (Nat.le_refl _)); have X2 : Blk w2' w1'.heap.size 31 #[.slice none 0 0, .slice none 0 0] := (Blk.new w1' 31 #[.slice none 0 0, .slice none 0 0]).kept hk (.inl (Nat.le_refl _)); have rb : w2.heap.size ≤ w1'.heap.size := z1'; clear hk)
        | (go_at_call 23; (with_reducible refine (toS s _ w1' (Hb.out.up (K2.out.trans k1)) hbt hbw).mono ?_); rintro e w2' ⟨u2, rfl, p2, hk⟩; have o2 := o1.kept hk (.inl (Nat.le_refl _)); have k2 : Kept 0 0 w2 w2' := k1.trans hk; have z2' : w1'.heap.size ≤ w2'.heap.size := (hk).size; have Y2 := Ba.out.kept k2 (.inl (Nat.le_refl _)); clear hk)
        | (go_at_call 27; have _t := X2; (with_reducible refine (CS.out _ _ w2' (o2.rdW z2') (p2.rdW (Nat.le_refl _))).mono ?_); rintro e w3' ⟨_, rfl, ⟨_, _, rfl, ⟨DAZ, dAZ, rfl, oa⟩, ⟨DBZ, dBZ, rfl, ob⟩⟩, hk⟩; have k3 : Kept 0 0 w2 w3' := k2.trans hk; have z3' : w2'.heap.size ≤ w3'.heap.size := (hk).size; have Y3 := Ba.out.kept k3 (.inl (Nat.le_refl _)); have OO : Hid (OwnS w3' w2.heap.size w3'.heap.size (.agg #[.slice DAZ N.told.length dAZ, .slice DBZ N.work.length dBZ]) N) := OwnS.wide ⟨_, _, rfl, ⟨DAZ, dAZ, rfl, oa⟩, ⟨DBZ, dBZ, rfl, ob⟩⟩ (by omega) (Nat.le_refl _); have HY3 := Lib.hid k3; have X3 := X2.kept hk (.inl (Nat.le_refl _)); have q0 := bs0 X3; have q1 := bs1 X3; have q2 := X3.frozen 0; have q3 := X3.frozen 1; have HX3 := Lib.hid X3; clear hk oa ob)
        | (go_at_call 27; (with_reducible refine (CS.out _ _ (w2'.alloc (.cells #[.slice none 0 0, .slice none 0 0] 31)) ((o2.kept (Kept.alloc0 w2' (.cells #[.slice none 0 0, .slice none 0 0] 31)) (.inl (Nat.le_refl _))).rdW (by simp; omega)) ((p2.kept (Kept.alloc0 w2' (.cells #[.slice none 0 0, .slice none 0 0] 31)) (.inl (Nat.le_refl _))).rdW (by simp))).mono ?_); rintro e w3' ⟨_, rfl, ⟨_, _, rfl, ⟨DAZ, dAZ, rfl, oa⟩, ⟨DBZ, dBZ, rfl, ob⟩⟩, hk⟩; have k3 : Kept 0 0 w2 w3' := k2.trans ((Kept.alloc0 w2' (.cells #[.slice none 0 0, .slice none 0 0] 31)).trans hk); have z3' : w2'.heap.size ≤ w3'.heap.size := (((Kept.alloc0 w2' (.cells #[.slice none 0 0, .slice none 0 0] 31)).trans hk)).size; have Y3 := Ba.out.kept k3 (.inl (Nat.le_refl _)); have OO : Hid (OwnS w3' w2.heap.size w3'.heap.size (.agg #[.slice DAZ N.told.length dAZ, .slice DBZ N.work.length dBZ]) N) := OwnS.wide ⟨_, _, rfl, ⟨DAZ, dAZ, rfl, oa⟩, ⟨DBZ, dBZ, rfl, ob⟩⟩ (by simp; omega) (Nat.le_refl _); have HY3 := Lib.hid k3; have X3 : Blk w3' w2'.heap.size 31 #[.slice none 0 0, .slice none 0 0] := (Blk.new w2' 31 #[.slice none 0 0, .slice none 0 0]).kept hk (.inl (Nat.le_refl _)); have rb : w2.heap.size ≤ w2'.heap.size := Nat.le_trans z1' z2'; have q0 := bs0 X3; have q1 := bs1 X3; have q2 := X3.frozen 0; have q3 := X3.frozen 1; have HX3 := Lib.hid X3; clear hk oa ob)
        | (go_at_call 27; (with_reducible refine (CS.out _ _ w2' (o2.rdW z2') (p2.rdW (Nat.le_refl _))).mono ?_); rintro e w3' ⟨_, rfl, ⟨_, _, rfl, ⟨DAZ, dAZ, rfl, oa⟩, ⟨DBZ, dBZ, rfl, ob⟩⟩, hk⟩; have k3 : Kept 0 0 w2 w3' := k2.trans hk; have z3' : w2'.heap.size ≤ w3'.heap.size := (hk).size; have Y3 := Ba.out.kept k3 (.inl (Nat.le_refl _)); have OO : Hid (OwnS w3' w2.heap.size w3'.heap.size (.agg #[.slice DAZ N.told.length dAZ, .slice DBZ N.work.length dBZ]) N) := OwnS.wide ⟨_, _, rfl, ⟨DAZ, dAZ, rfl, oa⟩, ⟨DBZ, dBZ, rfl, ob⟩⟩ (by omega) (Nat.le_refl _); have HY3 := Lib.hid k3; clear hk oa ob))
    all_goals (go_wp2_with fail; go_meet)
    all_goals first
      | exact ⟨sprAt_new OO.out HY3.out, rfl⟩
      | exact ⟨sprAt_set HX3.out OO.out HY3.out rb, rfl⟩
  case rest =>
    obtain ⟨w3, rfl⟩ : ∃ w3 : World, w3 = wc := ⟨_, rfl⟩
    obtain ⟨⟨rw, DAW, DBW, dAW, dBW, rfl, hrw, hb, ho, hk⟩, rfl⟩ := hcut
    have Ra := Lib.hid (Ba.out.kept hk (.inl (Nat.le_refl _)))
    clear Ba
    have Ba := Ra
    clear Ra
    have OW := Lib.hid ho
    have Bw := Lib.hid hb
    have yw := hb.lt
    have K3 := Lib.hid (K2.out.trans hk)
    have z3 := hk.size
    clear hk hb ho K2
    clear CS
    go_wp2_with fail
    with_reducible refine (toNd t v _ (Ha.out.up K3.out) han).mono ?_
    rintro e w4 ⟨ux, rfl, ho, hk⟩
    have PW := Lib.hid (OW.out.kept hk (.inl (Nat.le_refl _)))
    have Ra := Lib.hid (Ba.out.kept hk (.inl (Nat.le_refl _)))
    have Rw := Lib.hid (Bw.out.kept hk (.inl (Nat.le_refl _)))
    clear OW
    have OW := PW
    clear PW
    clear Ba
    have Ba := Ra
    clear Ra
    clear Bw
    have Bw := Rw
    clear Rw
    have Ox := Lib.hid ho
    have K4 := Lib.hid (K3.out.trans hk)
    have z4 := hk.size
    clear hk ho K3
    have ca0 := bs0 Ba.out
    have ca1 := bs1 Ba.out
    go_wp2_with fail
    clear ca0 ca1
    with_reducible refine (toS s _ _ (Hb.out.up K4.out) hbt hbw).mono ?_
    rintro e w5 ⟨_, rfl, ⟨_, _, rfl, ⟨DAy, dAy, rfl, oa⟩, ⟨DBy, dBy, rfl, ob⟩⟩, hk⟩
    have PW := Lib.hid (OW.out.kept hk (.inl (Nat.le_refl _)))
    have Px := Lib.hid (Ox.out.kept hk (.inl (Nat.le_refl _)))
    have Ra := Lib.hid (Ba.out.kept hk (.inl (Nat.le_refl _)))
    have Rw := Lib.hid (Bw.out.kept hk (.inl (Nat.le_refl _)))
    clear OW
    have OW := PW
    clear PW
    clear Ox
    have Ox := Px
    clear Px
    clear Ba
    have Ba := Ra
    clear Ra
    clear Bw
    have Bw := Rw
    clear Rw
    have Oy : Hid (OwnS w5 w4.heap.size w5.heap.size (.agg #[.slice DAy s.told.length dAy, .slice DBy s.work.length dBy]) s) := ⟨_, _, rfl, ⟨DAy, dAy, rfl, oa⟩, ⟨DBy, dBy, rfl, ob⟩⟩
    have K5 := Lib.hid (K4.out.trans hk)
    have z5 := hk.size
    clear hk oa ob K4
    go_wp2_with fail
    obtain ⟨w6, hw⟩ : ∃ w6, w6 = w5.alloc (.cells #[.slice DAy s.told.length dAy, .slice DBy s.work.length dBy] 31) := ⟨_, rfl⟩
    have hk : Kept 0 0 w5 w6 := by rw [hw]; exact Kept.alloc0 _ _
    have Nx : Hid (Blk w6 w5.heap.size 31 #[.slice DAy s.told.length dAy, .slice DBy s.work.length dBy]) := by show Blk _ _ _ _; rw [hw]; exact Blk.new _ _ _
    rw [← hw]
    have PW := Lib.hid (OW.out.kept hk (.inl (Nat.le_refl _)))
    have Px := Lib.hid (Ox.out.kept hk (.inl (Nat.le_refl _)))
    have Py := Lib.hid (Oy.out.kept hk (.inl (Nat.le_refl _)))
    have Ra := Lib.hid (Ba.out.kept hk (.inl (Nat.le_refl _)))
    have Rw := Lib.hid (Bw.out.kept hk (.inl (Nat.le_refl _)))
    clear OW
    have OW := PW
    clear PW
    clear Ox
    have Ox := Px
    clear Px
    clear Oy
    have Oy := Py
    clear Py
    clear Ba
    have Ba := Ra
    clear Ra
    clear Bw
    have Bw := Rw
    clear Rw
    have Bx := Nx
    clear Nx
    have y6 := Bx.out.lt
    have K6 := Lib.hid (K5.out.trans hk)
    have z6 := hk.size
    clear hk hw K5
    with_reducible refine (CI.out _ _ _ (Ox.out.rdW (by omega)) (Oy.out.rdW (by omega))).mono ?_
    rintro e w7 ⟨_, rfl, ⟨_, _, rfl, ⟨DAG, dAG, rfl, oa⟩, ⟨DBG, dBG, rfl, ob⟩⟩, hk⟩
    have PW := Lib.hid (OW.out.kept hk (.inl (Nat.le_refl _)))
    have Px := Lib.hid (Ox.out.kept hk (.inl (Nat.le_refl _)))
    have Py := Lib.hid (Oy.out.kept hk (.inl (Nat.le_refl _)))
    have Ra := Lib.hid (Ba.out.kept hk (.inl (Nat.le_refl _)))
    have Rw := Lib.hid (Bw.out.kept hk (.inl (Nat.le_refl _)))
    have Rx := Lib.hid (Bx.out.kept hk (.inl (Nat.le_refl _)))
    clear OW
    have OW := PW
    clear PW
    clear Ox
    have Ox := Px
    clear Px
    clear Oy
    have Oy := Py
    clear Py
    clear Ba
    have Ba := Ra
    clear Ra
    clear Bw
    have Bw := Rw
    clear Rw
    clear Bx
    have Bx := Rx
    clear Rx
    have OG : Hid (OwnS w7 w6.heap.size w7.heap.size (.agg #[.slice DAG N.told.length dAG, .slice DBG N.work.length dBG]) N) := ⟨_, _, rfl, ⟨DAG, dAG, rfl, oa⟩, ⟨DBG, dBG, rfl, ob⟩⟩
    have K7 := Lib.hid (K6.out.trans hk)
    have z7 := hk.size
    clear hk oa ob K6
    have cw0 := bs0 Bw.out
    have cw1 := bs1 Bw.out
    have lw : rw < w7.heap.size := Bw.out.lt
    go_wp2_with fail
    clear cw0 cw1
    clear lw
    obtain ⟨w8, hw⟩ : ∃ w8, w8 = w7.alloc (.cells #[.slice DAG N.told.length dAG, .slice DBG N.work.length dBG] 31) := ⟨_, rfl⟩
    have hk : Kept 0 0 w7 w8 := by rw [hw]; exact Kept.alloc0 _ _
    have Ng : Hid (Blk w8 w7.heap.size 31 #[.slice DAG N.told.length dAG, .slice DBG N.work.length dBG]) := by show Blk _ _ _ _; rw [hw]; exact Blk.new _ _ _
    rw [← hw]
    have PW := Lib.hid (OW.out.kept hk (.inl (Nat.le_refl _)))
    have Px := Lib.hid (Ox.out.kept hk (.inl (Nat.le_refl _)))
    have Py := Lib.hid (Oy.out.kept hk (.inl (Nat.le_refl _)))
    have PG := Lib.hid (OG.out.kept hk (.inl (Nat.le_refl _)))
    have Ra := Lib.hid (Ba.out.kept hk (.inl (Nat.le_refl _)))
    have Rw := Lib.hid (Bw.out.kept hk (.inl (Nat.le_refl _)))
    have Rx := Lib.hid (Bx.out.kept hk (.inl (Nat.le_refl _)))
    clear OW
    have OW := PW
    clear PW
    clear Ox
    have Ox := Px
    clear Px
    clear Oy
    have Oy := Py
    clear Py
    clear OG
    have OG := PG
    clear PG
    clear Ba
    have Ba := Ra
    clear Ra
    clear Bw
    have Bw := Rw
    clear Rw
    clear Bx
    have Bx := Rx
    clear Rx
    have Bg := Ng
    clear Ng
    have y8 := Bg.out.lt
    have K8 := Lib.hid (K7.out.trans hk)
    have z8 := hk.size
    clear hk hw K7
    with_reducible refine (eqS (N) _ _ _ (OG.out.rdW (by omega)) (OW.out.rdW (by omega))).mono ?_
    rintro e w9 ⟨rfl, hk⟩
    have PW := Lib.hid (OW.out.kept hk (.inl (Nat.le_refl _)))
    have Px := Lib.hid (Ox.out.kept hk (.inl (Nat.le_refl _)))
    have Py := Lib.hid (Oy.out.kept hk (.inl (Nat.le_refl _)))
    have PG := Lib.hid (OG.out.kept hk (.inl (Nat.le_refl _)))
    have Ra := Lib.hid (Ba.out.kept hk (.inl (Nat.le_refl _)))
    have Rw := Lib.hid (Bw.out.kept hk (.inl (Nat.le_refl _)))
    have Rx := Lib.hid (Bx.out.kept hk (.inl (Nat.le_refl _)))
    have Rg := Lib.hid (Bg.out.kept hk (.inl (Nat.le_refl _)))
    clear OW
    have OW := PW
    clear PW
    clear Ox
    have Ox := Px
    clear Px
    clear Oy
    have Oy := Py
    clear Py
    clear OG
    have OG := PG
    clear PG
    clear Ba
    have Ba := Ra
    clear Ra
    clear Bw
    have Bw := Rw
    clear Rw
    clear Bx
    have Bx := Rx
    clear Rx
    clear Bg
    have Bg := Rg
    clear Rg
    have K9 := Lib.hid (K8.out.trans hk)
    have z9 := hk.size
    clear hk K8
    go_wp2_with fail
    with_reducible refine (toNd t v _ (Ha.out.up K9.out) han).mono ?_
    rintro e w10 ⟨up, rfl, ho, hk⟩
    have PW := Lib.hid (OW.out.kept hk (.inl (Nat.le_refl _)))
    have Px := Lib.hid (Ox.out.kept hk (.inl (Nat.le_refl _)))
    have Py := Lib.hid (Oy.out.kept hk (.inl (Nat.le_refl _)))
    have PG := Lib.hid (OG.out.kept hk (.inl (Nat.le_refl _)))
    have Ra := Lib.hid (Ba.out.kept hk (.inl (Nat.le_refl _)))
    have Rw := Lib.hid (Bw.out.kept hk (.inl (Nat.le_refl _)))
    have Rx := Lib.hid (Bx.out.kept hk (.inl (Nat.le_refl _)))
    have Rg := Lib.hid (Bg.out.kept hk (.inl (Nat.le_refl _)))
    clear OW
    have OW := PW
    clear PW
    clear Ox
    have Ox := Px
    clear Px
    clear Oy
    have Oy := Py
    clear Py
    clear OG
    have OG := PG
    clear PG
    clear Ba
    have Ba := Ra
    clear Ra
    clear Bw
    have Bw := Rw
    clear Rw
    clear Bx
    have Bx := Rx
    clear Rx
    clear Bg
    have Bg := Rg
    clear Rg
    have Op := Lib.hid ho
    have K10 := Lib.hid (K9.out.trans hk)
    have z10 := hk.size
    clear hk ho K9
    go_wp2_with fail
    with_reducible refine (eqNd (t) _ _ _ (Ox.out.rdW (by omega)) (Op.out.rdW (by omega))).mono ?_
    rintro e w11 ⟨rfl, hk⟩
    have PW := Lib.hid (OW.out.kept hk (.inl (Nat.le_refl _)))
    have Px := Lib.hid (Ox.out.kept hk (.inl (Nat.le_refl _)))
    have Py := Lib.hid (Oy.out.kept hk (.inl (Nat.le_refl _)))
    have PG := Lib.hid (OG.out.kept hk (.inl (Nat.le_refl _)))
    have Pp := Lib.hid (Op.out.kept hk (.inl (Nat.le_refl _)))
    have Ra := Lib.hid (Ba.out.kept hk (.inl (Nat.le_refl _)))
    have Rw := Lib.hid (Bw.out.kept hk (.inl (Nat.le_refl _)))
    have Rx := Lib.hid (Bx.out.kept hk (.inl (Nat.le_refl _)))
    have Rg := Lib.hid (Bg.out.kept hk (.inl (Nat.le_refl _)))
    clear OW
    have OW := PW
    clear PW
    clear Ox
    have Ox := Px
    clear Px
    clear Oy
    have Oy := Py
    clear Py
    clear OG
    have OG := PG
    clear PG
    clear Op
    have Op := Pp
    clear Pp
    clear Ba
    have Ba := Ra
    clear Ra
    clear Bw
    have Bw := Rw
    clear Rw
    clear Bx
    have Bx := Rx
    clear Rx
    clear Bg
    have Bg := Rg
    clear Rg
    have K11 := Lib.hid (K10.out.trans hk)
    have z11 := hk.size
    clear hk K10
    clear Op
    go_upto_region 16 with fail
    go_region_held3 (fun w' => w'.cell? ⟨w5.heap.size, 0, none⟩ = some (.slice DAy s.told.length dAy) ∧ w'.cell? ⟨w5.heap.size, 1, none⟩ = some (.slice DBy s.work.length dBy) ∧ w'.cell? ⟨w.heap.size, 0, none⟩ = some (.slice A1 s.told.length q1) ∧ w'.cell? ⟨w.heap.size, 1, none⟩ = some (.slice A2 s.work.length q2))
      (first | with_reducible exact ⟨bs0 Bx.out.drew, bs1 Bx.out.drew, bs0 Ba.out.drew, bs1 Ba.out.drew⟩ | with_reducible exact ⟨bs0 Xx, bs1 Xx, bs0 Xa, bs1 Xa⟩ | with_reducible exact ⟨bs0 Yx, bs1 Yx, bs0 Ya, bs1 Ya⟩)
      (first | (go_at_call 23; (with_reducible refine (toS s _ w11.drew (Hb.out.up K11.out.drew) hbt hbw).mono ?_); rintro e w12 ⟨u1, rfl, oy, hk⟩; have k1 : Kept 0 0 w11 w12 := (Kept.refl 0 0 w11).drew.trans hk; have Xx := Bx.out.kept k1 (.inl (Nat.le_refl _)); have Xa := Ba.out.kept k1 (.inl (Nat.le_refl _)); have zz := k1.size; clear hk) | (go_at_call 26; (with_reducible refine (eqS s _ _ w12 ((Oy.out.kept k1 (.inl (Nat.le_refl _))).rdW (by omega)) (oy.rdW (Nat.le_refl _))).mono ?_); rintro e w13 ⟨rfl, hk⟩; have k2 : Kept 0 0 w11 w13 := k1.trans hk; have Yx := Bx.out.kept k2 (.inl (Nat.le_refl _)); have Ya := Ba.out.kept k2 (.inl (Nat.le_refl _)); have ks := Lib.hid k2; clear hk))
    clear Xx Xa Yx Ya k1 k2 oy zz
    have PW := Lib.hid (OW.out.kept ks.out (.inl (Nat.le_refl _)))
    have Px := Lib.hid (Ox.out.kept ks.out (.inl (Nat.le_refl _)))
    have Py := Lib.hid (Oy.out.kept ks.out (.inl (Nat.le_refl _)))
    have PG := Lib.hid (OG.out.kept ks.out (.inl (Nat.le_refl _)))
    have Ra := Lib.hid (Ba.out.kept ks.out (.inl (Nat.le_refl _)))
    have Rw := Lib.hid (Bw.out.kept ks.out (.inl (Nat.le_refl _)))
    have Rx := Lib.hid (Bx.out.kept ks.out (.inl (Nat.le_refl _)))
    have Rg := Lib.hid (Bg.out.kept ks.out (.inl (Nat.le_refl _)))
    clear OW
    have OW := PW
    clear PW
    clear Ox
    have Ox := Px
    clear Px
    clear Oy
    have Oy := Py
    clear Py
    clear OG
    have OG := PG
    clear PG
    clear Ba
    have Ba := Ra
    clear Ra
    clear Bw
    have Bw := Rw
    clear Rw
    clear Bx
    have Bx := Rx
    clear Rx
    clear Bg
    have Bg := Rg
    clear Rg
    have K13 := Lib.hid (K11.out.trans ks.out)
    have z13 := ks.out.size
    clear ks K11
    go_wp2_with fail
    with_reducible refine (markNd 1 t _ w3.heap.size w4.heap.size _ Ox.out (by omega) (by omega) han).mono ?_
    rintro e w14 ⟨rfl, ho, hk⟩
    have PW := Lib.hid (OW.out.kept hk (by omega))
    have Py := Lib.hid (Oy.out.kept hk (by omega))
    have PG := Lib.hid (OG.out.kept hk (by omega))
    have Ra := Lib.hid (Ba.out.kept hk (by omega))
    have Rw := Lib.hid (Bw.out.kept hk (by omega))
    have Rx := Lib.hid (Bx.out.kept hk (by omega))
    have Rg := Lib.hid (Bg.out.kept hk (by omega))
    clear OW
    have OW := PW
    clear PW
    clear Oy
    have Oy := Py
    clear Py
    clear OG
    have OG := PG
    clear PG
    clear Ba
    have Ba := Ra
    clear Ra
    clear Bw
    have Bw := Rw
    clear Rw
    clear Bx
    have Bx := Rx
    clear Rx
    clear Bg
    have Bg := Rg
    clear Rg
    clear Ox
    have Ox := Lib.hid ho
    have K14 := Lib.hid (K13.out.trans2 hk (.inr (by omega)))
    have z14 := hk.size
    clear hk ho K13
    have k0 : (0 : Int) ≤ 1 + 5 * (t.length : Int) := by omega
    obtain ⟨mS, hmS⟩ : ∃ mS, mS = markSN (1 + 5 * (t.length : Int)) s := ⟨_, rfl⟩
    obtain ⟨mN, hmN⟩ : ∃ mN, mN = markSN 1 N := ⟨_, rfl⟩
    have pS : 0 ≤ mS := by rw [hmS]; unfold markSN; omega
    have pN : 0 ≤ mN := by rw [hmN]; unfold markSN; omega
    have HmS := Lib.hid hmS.symm
    have HmN := Lib.hid hmN.symm
    clear hmS hmN
    have cx0 := bs0 Bx.out
    have cx1 := bs1 Bx.out
    go_wp2_with fail
    clear cx0 cx1
    with_reducible refine (markS (1 + 5 * (t.length : Int)) s _ w4.heap.size w5.heap.size _ Oy.out (by omega) (by omega) st sw (by omega)).mono ?_
    rintro e w15 ⟨rfl, ho, hk⟩
    have PW := Lib.hid (OW.out.kept hk (by omega))
    have Px := Lib.hid (Ox.out.kept hk (by omega))
    have PG := Lib.hid (OG.out.kept hk (by omega))
    have Ra := Lib.hid (Ba.out.kept hk (by omega))
    have Rw := Lib.hid (Bw.out.kept hk (by omega))
    have Rx := Lib.hid (Bx.out.kept hk (by omega))
    have Rg := Lib.hid (Bg.out.kept hk (by omega))
    clear OW
    have OW := PW
    clear PW
    clear Ox
    have Ox := Px
    clear Px
    clear OG
    have OG := PG
    clear PG
    clear Ba
    have Ba := Ra
    clear Ra
    clear Bw
    have Bw := Rw
    clear Rw
    clear Bx
    have Bx := Rx
    clear Rx
    clear Bg
    have Bg := Rg
    clear Rg
    clear Oy
    have Oy := Lib.hid ho
    have K15 := Lib.hid (K14.out.trans2 hk (.inr (by omega)))
    have z15 := hk.size
    clear hk ho K14
    rw [HmS.out]
    have cg0 := bs0 Bg.out
    have cg1 := bs1 Bg.out
    have cw0 := bs0 Bw.out
    have cw1 := bs1 Bw.out
    go_wp2_with fail
    clear cg0 cg1 cw0 cw1
    with_reducible refine (eqS (N) _ _ _ (OG.out.rdW (by omega)) (OW.out.rdW (by omega))).mono ?_
    rintro e w16 ⟨rfl, hk⟩
    have PW := Lib.hid (OW.out.kept hk (.inl (Nat.le_refl _)))
    have Px := Lib.hid (Ox.out.kept hk (.inl (Nat.le_refl _)))
    have Py := Lib.hid (Oy.out.kept hk (.inl (Nat.le_refl _)))
    have PG := Lib.hid (OG.out.kept hk (.inl (Nat.le_refl _)))
    have Ra := Lib.hid (Ba.out.kept hk (.inl (Nat.le_refl _)))
    have Rw := Lib.hid (Bw.out.kept hk (.inl (Nat.le_refl _)))
    have Rx := Lib.hid (Bx.out.kept hk (.inl (Nat.le_refl _)))
    have Rg := Lib.hid (Bg.out.kept hk (.inl (Nat.le_refl _)))
    clear OW
    have OW := PW
    clear PW
    clear Ox
    have Ox := Px
    clear Px
    clear Oy
    have Oy := Py
    clear Py
    clear OG
    have OG := PG
    clear PG
    clear Ba
    have Ba := Ra
    clear Ra
    clear Bw
    have Bw := Rw
    clear Rw
    clear Bx
    have Bx := Rx
    clear Rx
    clear Bg
    have Bg := Rg
    clear Rg
    have K16 := Lib.hid (K15.out.trans hk)
    have z16 := hk.size
    clear hk K15
    have cg0 := bs0 Bg.out
    have cg1 := bs1 Bg.out
    go_wp2_with fail
    clear cg0 cg1
    with_reducible refine (markS (1) N _ w6.heap.size w7.heap.size _ OG.out (by omega) (by omega) Nt Nw (by omega)).mono ?_
    rintro e w17 ⟨rfl, ho, hk⟩
    have PW := Lib.hid (OW.out.kept hk (by omega))
    have Px := Lib.hid (Ox.out.kept hk (by omega))
    have Py := Lib.hid (Oy.out.kept hk (by omega))
    have Ra := Lib.hid (Ba.out.kept hk (by omega))
    have Rw := Lib.hid (Bw.out.kept hk (by omega))
    have Rx := Lib.hid (Bx.out.kept hk (by omega))
    have Rg := Lib.hid (Bg.out.kept hk (by omega))
    clear OW
    have OW := PW
    clear PW
    clear Ox
    have Ox := Px
    clear Px
    clear Oy
    have Oy := Py
    clear Py
    clear Ba
    have Ba := Ra
    clear Ra
    clear Bw
    have Bw := Rw
    clear Rw
    clear Bx
    have Bx := Rx
    clear Rx
    clear Bg
    have Bg := Rg
    clear Rg
    clear OG
    have OG := Lib.hid ho
    have K17 := Lib.hid (K16.out.trans2 hk (.inr (by omega)))
    have z17 := hk.size
    clear hk ho K16
    rw [HmN.out]
    have cg0 := bs0 Bg.out
    have cg1 := bs1 Bg.out
    go_wp2_with fail
    clear cg0 cg1
    with_reducible refine (heldS 1 N _ _ w7.heap.size (by omega) OG.out.rd (by omega) (by omega) Nt Nw).mono ?_
    rintro e w18 ⟨rfl, hk⟩
    have PW := Lib.hid (OW.out.kept hk (.inl (Nat.le_refl _)))
    have Px := Lib.hid (Ox.out.kept hk (.inl (Nat.le_refl _)))
    have Py := Lib.hid (Oy.out.kept hk (.inl (Nat.le_refl _)))
    have PG := Lib.hid (OG.out.kept hk (.inl (Nat.le_refl _)))
    have Ra := Lib.hid (Ba.out.kept hk (.inl (Nat.le_refl _)))
    have Rw := Lib.hid (Bw.out.kept hk (.inl (Nat.le_refl _)))
    have Rx := Lib.hid (Bx.out.kept hk (.inl (Nat.le_refl _)))
    have Rg := Lib.hid (Bg.out.kept hk (.inl (Nat.le_refl _)))
    clear OW
    have OW := PW
    clear PW
    clear Ox
    have Ox := Px
    clear Px
    clear Oy
    have Oy := Py
    clear Py
    clear OG
    have OG := PG
    clear PG
    clear Ba
    have Ba := Ra
    clear Ra
    clear Bw
    have Bw := Rw
    clear Rw
    clear Bx
    have Bx := Rx
    clear Rx
    clear Bg
    have Bg := Rg
    clear Rg
    have K18 := Lib.hid (K17.out.trans hk)
    have z18 := hk.size
    clear hk K17
    rw [HmN.out]
    have qm : (mN != mN) = false := by simp
    clear Ox
    clear Oy
    go_upto_region 31 with fail
    go_cut [17, 18] (fun p q wx => SprAt w18 wx p N ∧ q = .bool bb)
    case first =>
      go_region_held3 (fun w' => w'.cell? ⟨w.heap.size, 0, none⟩ = some (.slice A1 s.told.length q1) ∧ w'.cell? ⟨w.heap.size, 1, none⟩ = some (.slice A2 s.work.length q2))
        (first | with_reducible exact ⟨bs0 Ba.out.drew, bs1 Ba.out.drew⟩ | with_reducible exact ⟨bs0 (Ba.out.alloc (.cells #[.slice none 0 0, .slice none 0 0] 31)).drew, bs1 (Ba.out.alloc (.cells #[.slice none 0 0, .slice none 0 0] 31)).drew⟩ | with_reducible exact ⟨bs0 Y1, bs1 Y1⟩ | with_reducible exact ⟨bs0 (Y1.alloc (.cells #[.slice none 0 0, .slice none 0 0] 31)), bs1 (Y1.alloc (.cells #[.slice none 0 0, .slice none 0 0] 31))⟩ | with_reducible exact ⟨bs0 Y2, bs1 Y2⟩ | with_reducible exact ⟨bs0 (Y2.alloc (.cells #[.slice none 0 0, .slice none 0 0] 31)), bs1 (Y2.alloc (.cells #[.slice none 0 0, .slice none 0 0] 31))⟩ | with_reducible exact ⟨bs0 Y3, bs1 Y3⟩ | with_reducible exact ⟨bs0 (Y3.alloc _), bs1 (Y3.alloc _)⟩ | with_reducible exact ⟨bs0 ((Y3.far (by first | omega | (simp; done) | (simp; omega)) _).far (by first | omega | (simp; done) | (simp; omega)) _), bs1 ((Y3.far (by first | omega | (simp; done) | (simp; omega)) _).far (by first | omega | (simp; done) | (simp; omega)) _)⟩)
        (first
          | (go_at_call 22; (with_reducible refine (toNd t v w18.drew (Ha.out.up (K18.out.trans (Kept.refl 0 0 w18).drew)) han).mono ?_); rintro e w1' ⟨u1, rfl, o1, hk⟩; have k1 : Kept 0 0 w18 w1' := (Kept.refl 0 0 w18).drew.trans hk; have Y1 := Ba.out.kept k1 (.inl (Nat.le_refl _)); have z1' := k1.size; clear hk)
          | (go_at_call 22; (with_reducible refine (toNd t v (w18.alloc (.cells #[.slice none 0 0, .slice none 0 0] 31)).drew (Ha.out.up (K18.out.trans (Kept.alloc0 w18 (.cells #[.slice none 0 0, .slice none 0 0] 31)).drew)) han).mono ?_); rintro e w1' ⟨u1, rfl, o1, hk⟩; have k1 : Kept 0 0 w18 w1' := (Kept.alloc0 w18 (.cells #[.slice none 0 0, .slice none 0 0] 31)).drew.trans hk; have Y1 := Ba.out.kept k1 (.inl (Nat.le_refl _)); have z1' := k1.size; have X1 : Blk w1' w18.heap.size 31 #[.slice none 0 0, .slice none 0 0] := (Blk.new w18 31 #[.slice none 0 0, .slice none 0 0]).drew.kept hk (.inl (Nat.le_refl _)); clear hk)
          | (go_at_call 23; have _t := X1; (with_reducible refine (toS s _ w1' (Hb.out.up (K18.out.trans k1)) hbt hbw).mono ?_); rintro e w2' ⟨u2, rfl, p2, hk⟩; have o2 := o1.kept hk (.inl (Nat.le_refl _)); have k2 : Kept 0 0 w18 w2' := k1.trans hk; have z2' : w1'.heap.size ≤ w2'.heap.size := (hk).size; have Y2 := Ba.out.kept k2 (.inl (Nat.le_refl _)); have X2 := X1.kept hk (.inl (Nat.le_refl _)); have rb : w18.heap.size ≤ w18.heap.size := Nat.le_refl _; clear hk)
          | (go_at_call 23; (with_reducible refine (toS s _ (w1'.alloc (.cells #[.slice none 0 0, .slice none 0 0] 31)) (Hb.out.up (K18.out.trans (k1.alloc (.cells #[.slice none 0 0, .slice none 0 0] 31)))) hbt hbw).mono ?_); rintro e w2' ⟨u2, rfl, p2, hk⟩; have o2 := o1.kept ((Kept.alloc0 w1' (.cells #[.slice none 0 0, .slice none 0 0] 31)).trans hk) (.inl (Nat.le_refl _)); have k2 : Kept 0 0 w18 w2' := k1.trans ((Kept.alloc0 w1' (.cells #[.slice none 0 0, .slice none 0 0] 31)).trans hk); have z2' : w1'.heap.size ≤ w2'.heap.size := (((Kept.alloc0 w1' (.cells #[.slice none 0 0, .slice none 0 0] 31)).trans hk)).size; have Y2 := Ba.out.kept k2 (.inl (Nat.le_refl _)); have X2 : Blk w2' w1'.heap.size 31 #[.slice none 0 0, .slice none 0 0] := (Blk.new w1' 31 #[.slice none 0 0, .slice none 0 0]).kept hk (.inl (Nat.le_refl _)); have rb : w18.heap.size ≤ w1'.heap.size := z1'; clear hk)
          | (go_at_call 23; (with_reducible refine (toS s _ w1' (Hb.out.up (K18.out.trans k1)) hbt hbw).mono ?_); rintro e w2' ⟨u2, rfl, p2, hk⟩; have o2 := o1.kept hk (.inl (Nat.le_refl _)); have k2 : Kept 0 0 w18 w2' := k1.trans hk; have z2' : w1'.heap.size ≤ w2'.heap.size := (hk).size; have Y2 := Ba.out.kept k2 (.inl (Nat.le_refl _)); clear hk)
          | (go_at_call 12; have _t := X2; (with_reducible refine (CI.out _ _ w2' (o2.rdW z2') (p2.rdW (Nat.le_refl _))).mono ?_); rintro e w3' ⟨_, rfl, ⟨_, _, rfl, ⟨DAZ, dAZ, rfl, oa⟩, ⟨DBZ, dBZ, rfl, ob⟩⟩, hk⟩; have k3 : Kept 0 0 w18 w3' := k2.trans hk; have z3' : w2'.heap.size ≤ w3'.heap.size := (hk).size; have Y3 := Ba.out.kept k3 (.inl (Nat.le_refl _)); have OO : Hid (OwnS w3' w18.heap.size w3'.heap.size (.agg #[.slice DAZ N.told.length dAZ, .slice DBZ N.work.length dBZ]) N) := OwnS.wide ⟨_, _, rfl, ⟨DAZ, dAZ, rfl, oa⟩, ⟨DBZ, dBZ, rfl, ob⟩⟩ (by omega) (Nat.le_refl _); have HY3 := Lib.hid k3; have X3 := X2.kept hk (.inl (Nat.le_refl _)); have q0 := bs0 X3; have q1 := bs1 X3; have q2 := X3.frozen 0; have q3 := X3.frozen 1; have HX3 := Lib.hid X3; clear hk oa ob)
          | (go_at_call 12; (with_reducible refine (CI.out _ _ (w2'.alloc (.cells #[.slice none 0 0, .slice none 0 0] 31)) ((o2.kept (Kept.alloc0 w2' (.cells #[.slice none 0 0, .slice none 0 0] 31)) (.inl (Nat.le_refl _))).rdW (by simp; omega)) ((p2.kept (Kept.alloc0 w2' (.cells #[.slice none 0 0, .slice none 0 0] 31)) (.inl (Nat.le_refl _))).rdW (by simp))).mono ?_); rintro e w3' ⟨_, rfl, ⟨_, _, rfl, ⟨DAZ, dAZ, rfl, oa⟩, ⟨DBZ, dBZ, rfl, ob⟩⟩, hk⟩; have k3 : Kept 0 0 w18 w3' := k2.trans ((Kept.alloc0 w2' (.cells #[.slice none 0 0, .slice none 0 0] 31)).trans hk); have z3' : w2'.heap.size ≤ w3'.heap.size := (((Kept.alloc0 w2' (.cells #[.slice none 0 0, .slice none 0 0] 31)).trans hk)).size; have Y3 := Ba.out.kept k3 (.inl (Nat.le_refl _)); have OO : Hid (OwnS w3' w18.heap.size w3'.heap.size (.agg #[.slice DAZ N.told.length dAZ, .slice DBZ N.work.length dBZ]) N) := OwnS.wide ⟨_, _, rfl, ⟨DAZ, dAZ, rfl, oa⟩, ⟨DBZ, dBZ, rfl, ob⟩⟩ (by simp; omega) (Nat.le_refl _); have HY3 := Lib.hid k3; have X3 : Blk w3' w2'.heap.size 31 #[.slice none 0 0, .slice none 0 0] := (Blk.new w2' 31 #[.slice none 0 0, .slice none 0 0]).kept hk (.inl (Nat.le_refl _)); have rb : w18.heap.size ≤ w2'.heap.size := Nat.le_trans z1' z2'; have q0 := bs0 X3; have q1 := bs1 X3; have q2 := X3.frozen 0; have q3 := X3.frozen 1; have HX3 := Lib.hid X3; clear hk oa ob)
          | (go_at_call 12; (with_reducible refine (CI.out _ _ w2' (o2.rdW z2') (p2.rdW (Nat.le_refl _))).mono ?_); rintro e w3' ⟨_, rfl, ⟨_, _, rfl, ⟨DAZ, dAZ, rfl, oa⟩, ⟨DBZ, dBZ, rfl, ob⟩⟩, hk⟩; have k3 : Kept 0 0 w18 w3' := k2.trans hk; have z3' : w2'.heap.size ≤ w3'.heap.size := (hk).size; have Y3 := Ba.out.kept k3 (.inl (Nat.le_refl _)); have OO : Hid (OwnS w3' w18.heap.size w3'.heap.size (.agg #[.slice DAZ N.told.length dAZ, .slice DBZ N.work.length dBZ]) N) := OwnS.wide ⟨_, _, rfl, ⟨DAZ, dAZ, rfl, oa⟩, ⟨DBZ, dBZ, rfl, ob⟩⟩ (by omega) (Nat.le_refl _); have HY3 := Lib.hid k3; clear hk oa ob))
      all_goals (go_wp2_with fail; go_meet)
      all_goals first
        | exact ⟨sprAt_new OO.out HY3.out, rfl⟩
        | exact ⟨sprAt_set HX3.out OO.out HY3.out rb, rfl⟩
    case rest =>
      obtain ⟨w19, rfl⟩ : ∃ w19 : World, w19 = wc := ⟨_, rfl⟩
      obtain ⟨⟨rq, DAQ, DBQ, dAQ, dBQ, rfl, hrq, hb, ho, hk⟩, rfl⟩ := hcut
      have PW := Lib.hid (OW.out.kept hk (.inl (Nat.le_refl _)))
      have PG := Lib.hid (OG.out.kept hk (.inl (Nat.le_refl _)))
      have Ra := Lib.hid (Ba.out.kept hk (.inl (Nat.le_refl _)))
      have Rw := Lib.hid (Bw.out.kept hk (.inl (Nat.le_refl _)))
      have Rx := Lib.hid (Bx.out.kept hk (.inl (Nat.le_refl _)))
      have Rg := Lib.hid (Bg.out.kept hk (.inl (Nat.le_refl _)))
      clear OW
      have OW := PW
      clear PW
      clear OG
      have OG := PG
      clear PG
      clear Ba
      have Ba := Ra
      clear Ra
      clear Bw
      have Bw := Rw
      clear Rw
      clear Bx
      have Bx := Rx
      clear Rx
      clear Bg
      have Bg := Rg
      clear Rg
      have OQ := Lib.hid ho
      have Bq := Lib.hid hb
      have yq := hb.lt
      have K19 := Lib.hid (K18.out.trans hk)
      have z19 := hk.size
      clear hk hb ho K18
      have cq0 := bs0 Bq.out
      have cq1 := bs1 Bq.out
      have cw0 := bs0 Bw.out
      have cw1 := bs1 Bw.out
      go_wp2_with fail
      clear cq0 cq1 cw0 cw1
      with_reducible refine (eqS (N) _ _ _ (OQ.out.rdW (by omega)) (OW.out.rdW (by omega))).mono ?_
      rintro e w20 ⟨rfl, hk⟩
      have PW := Lib.hid (OW.out.kept hk (.inl (Nat.le_refl _)))
      have PG := Lib.hid (OG.out.kept hk (.inl (Nat.le_refl _)))
      have PQ := Lib.hid (OQ.out.kept hk (.inl (Nat.le_refl _)))
      have Ra := Lib.hid (Ba.out.kept hk (.inl (Nat.le_refl _)))
      have Rw := Lib.hid (Bw.out.kept hk (.inl (Nat.le_refl _)))
      have Rx := Lib.hid (Bx.out.kept hk (.inl (Nat.le_refl _)))
      have Rg := Lib.hid (Bg.out.kept hk (.inl (Nat.le_refl _)))
      have Rq := Lib.hid (Bq.out.kept hk (.inl (Nat.le_refl _)))
      clear OW
      have OW := PW
      clear PW
      clear OG
      have OG := PG
      clear PG
      clear OQ
      have OQ := PQ
      clear PQ
      clear Ba
      have Ba := Ra
      clear Ra
      clear Bw
      have Bw := Rw
      clear Rw
      clear Bx
      have Bx := Rx
      clear Rx
      clear Bg
      have Bg := Rg
      clear Rg
      clear Bq
      have Bq := Rq
      clear Rq
      have K20 := Lib.hid (K19.out.trans hk)
      have z20 := hk.size
      clear hk K19
      have cg0 := bs0 Bg.out
      have cg1 := bs1 Bg.out
      go_wp2_with fail
      clear cg0 cg1
      with_reducible refine (heldS 1 N _ _ w7.heap.size (by omega) OG.out.rd (by omega) (by omega) Nt Nw).mono ?_
      rintro e w21 ⟨rfl, hk⟩
      have PW := Lib.hid (OW.out.kept hk (.inl (Nat.le_refl _)))
      have PG := Lib.hid (OG.out.kept hk (.inl (Nat.le_refl _)))
      have PQ := Lib.hid (OQ.out.kept hk (.inl (Nat.le_refl _)))
      have Ra := Lib.hid (Ba.out.kept hk (.inl (Nat.le_refl _)))
      have Rw := Lib.hid (Bw.out.kept hk (.inl (Nat.le_refl _)))
      have Rx := Lib.hid (Bx.out.kept hk (.inl (Nat.le_refl _)))
      have Rg := Lib.hid (Bg.out.kept hk (.inl (Nat.le_refl _)))
      have Rq := Lib.hid (Bq.out.kept hk (.inl (Nat.le_refl _)))
      clear OW
      have OW := PW
      clear PW
      clear OG
      have OG := PG
      clear PG
      clear OQ
      have OQ := PQ
      clear PQ
      clear Ba
      have Ba := Ra
      clear Ra
      clear Bw
      have Bw := Rw
      clear Rw
      clear Bx
      have Bx := Rx
      clear Rx
      clear Bg
      have Bg := Rg
      clear Rg
      clear Bq
      have Bq := Rq
      clear Rq
      have K21 := Lib.hid (K20.out.trans hk)
      have z21 := hk.size
      clear hk K20
      rw [HmN.out]
      go_wp2_with fail
      go_ret
      exact ⟨rfl, K21.out⟩
set_option maxHeartbeats 800000 in
theorem lawBegun (D : DoesBegun) (t : List Nd) (s : Spr) (n : Int) (v u : Value) (w : World) (ha : RdNd w w.heap.size v t) (hb : RdS w w.heap.size u s) :
    Calls Try.prog 6 #[v, u, .int .i64 n] w fun e w' => e = .returned (.bool true) ∧ Kept 0 0 w w' := by
  rcases Nat.lt_or_ge 1048576 (t.length + s.told.length + s.work.length) with hl | hl
  case inr => exact lawBegun_small D t s n v u w ha hb hl
  have Ha := Lib.hid ha
  have m1 := ha.len
  obtain ⟨hv, lv, rfl, ⟨A1, q1, rfl, s2⟩, ⟨A2, q2, rfl, s3⟩⟩ := hb
  have Hb : Hid (RdS w w.heap.size (.agg #[.slice A1 s.told.length q1, .slice A2 s.work.length q2]) s) := ⟨_, _, rfl, ⟨A1, q1, rfl, s2⟩, ⟨A2, q2, rfl, s3⟩⟩
  obtain ⟨W, hW⟩ : ∃ W, W = w.alloc (.cells #[.slice A1 s.told.length q1, .slice A2 s.work.length q2] 43) := ⟨_, rfl⟩
  have KW : Hid (Kept 0 0 w W) := by show Kept _ _ _ _; rw [hW]; exact Kept.alloc0 _ _
  have B0 : Hid (Blk W w.heap.size 43 #[.slice A1 s.told.length q1, .slice A2 s.work.length q2]) := by show Blk _ _ _ _; rw [hW]; exact Blk.new _ _ _
  have HW := Lib.hid hW
  clear hW s2 s3 ha
  rcases Nat.lt_or_ge 1048576 t.length with ht | ht
  · have Ea : Hid (szF 1048576 t.length = -1) := szF_neg (by omega)
    go_enter Try.func6, Try.ntmps6
    go_wp2_with fail
    rw [← HW.out]
    with_reducible refine (szNd t _ _ _ _ (Ha.out.up KW.out) (by omega) (by omega)).mono ?_
    rintro e w' ⟨rfl, rfl⟩
    rw [Ea.out]
    go_wp2
    go_ret
    exact ⟨rfl, KW.out⟩
  · have Ea : Hid (szF (1048576) t.length = 1048576 - t.length) := szF_pos (by omega)
    have sz : (0 : Int) ≤ 1048576 - t.length := by omega
    have b0 := bs0 B0.out
    have b1 := bs1 B0.out
    have CS := Lib.hid (szS_neg s _ (1048576 - (t.length : Int)) W _ (Hb.out.up KW.out) (by omega) (by omega) (by omega))
    go_enter Try.func6, Try.ntmps6
    go_wp2_with fail
    rw [← HW.out]
    with_reducible refine (szNd t _ _ _ _ (Ha.out.up KW.out) (by omega) (by omega)).mono ?_
    rintro e w' ⟨rfl, rfl⟩
    rw [Ea.out]
    go_wp2_with fail
    with_reducible refine CS.out.mono ?_
    rintro e w1 ⟨rfl, hk⟩
    have K1 := Lib.hid (KW.out.trans hk)
    clear hk CS
    go_wp2
    go_ret
    exact ⟨rfl, K1.out⟩


set_option maxHeartbeats 12800000 in
set_option maxRecDepth 100000 in
theorem lawStep_small (D : DoesSpreadStep) (t : List Nd) (s : Spr) (v u : Value) (w : World) (ha : RdNd w w.heap.size v t) (hb : RdS w w.heap.size u s) (hn : t.length + s.told.length + s.work.length ≤ 1048576) :
    Calls Try.prog 7 #[v, u] w fun e w' => e = .returned (.bool true) ∧ Kept 0 0 w w' := by
  have Ha := Lib.hid ha
  obtain ⟨hv, lv, rfl, ⟨A1, q1, rfl, s2⟩, ⟨A2, q2, rfl, s3⟩⟩ := hb
  have Hb : Hid (RdS w w.heap.size (.agg #[.slice A1 s.told.length q1, .slice A2 s.work.length q2]) s) := ⟨_, _, rfl, ⟨A1, q1, rfl, s2⟩, ⟨A2, q2, rfl, s3⟩⟩
  clear s2 s3 ha
  have han : t.length ≤ 1048576 := by omega
  have hbt : s.told.length ≤ 1048576 := by omega
  have hbw : s.work.length ≤ 1048576 := by omega
  have st := hbt
  have sw := hbw
  have Ea : Hid (szF (1048576) t.length = 1048576 - t.length) := szF_pos (by omega)
  obtain ⟨N, hN⟩ : ∃ N, N = stepS t s := ⟨_, rfl⟩
  obtain ⟨bb, hbb⟩ : ∃ bb, bb = stepI t s := ⟨_, rfl⟩
  have NL : N.told.length ≤ 1048576 ∧ N.work.length ≤ 1048576 := by rw [hN]; exact stepS_len _ _
  have Nt := NL.1
  have Nw := NL.2
  have CS : Hid (∀ (x y : Value) (X : World), RdNd X X.heap.size x t → RdS X X.heap.size y s → Calls Try.prog 18 #[x, y] X fun e w' => ∃ z, e = .returned (.tuple #[z, .int .i64 bb]) ∧ OwnS w' X.heap.size w'.heap.size z N ∧ Kept 0 0 X w') := by
    intro x y X h1 h2
    have := step7_any t s x y X h1 h2
    rw [← hN, ← hbb] at this
    exact this
  have CI : Hid (∀ (x y : Value) (X : World), RdNd X X.heap.size x t → RdS X X.heap.size y s → Calls Try.prog 17 #[x, y] X fun e w' => ∃ z, e = .returned (.tuple #[z, .int .i64 bb]) ∧ OwnS w' X.heap.size w'.heap.size z N ∧ Kept 0 0 X w') := by
    intro x y X h1 h2
    have := D t s x y X h1 h2
    rw [← hN, ← hbb] at this
    exact this
  clear hN NL hbb
  have qq : (bb != bb) = false := by simp
  go_enter Try.func7, Try.ntmps7
  go_wp2_with fail
  obtain ⟨w1, hw⟩ : ∃ w1, w1 = w.alloc (.cells #[.slice A1 s.told.length q1, .slice A2 s.work.length q2] 43) := ⟨_, rfl⟩
  have hk : Kept 0 0 w w1 := by rw [hw]; exact Kept.alloc0 _ _
  have Na : Hid (Blk w1 w.heap.size 43 #[.slice A1 s.told.length q1, .slice A2 s.work.length q2]) := by show Blk _ _ _ _; rw [hw]; exact Blk.new _ _ _
  rw [← hw]
  have Ba := Na
  clear Na
  have y1 := Ba.out.lt
  have K1 := Lib.hid ((Kept.refl 0 0 w).trans hk)
  have z1 := hk.size
  clear hk hw
  have SZ : Hid ((0 : Int) ≤ 1048576 - t.length - s.told.length - s.work.length) := by show _ ≤ _; omega
  have sz := SZ.out
  with_reducible refine (szNd t _ _ _ _ (Ha.out.up K1.out) (by omega) (by omega)).mono ?_
  rintro e w' ⟨rfl, rfl⟩
  rw [Ea.out]
  have ca0 := bs0 Ba.out
  have ca1 := bs1 Ba.out
  go_wp2_with fail
  clear ca0 ca1
  with_reducible refine (szS_pos s _ _ _ _ (Hb.out.up K1.out) (by omega) (by omega)).mono ?_
  rintro e w2 ⟨rfl, hk⟩
  have Ra := Lib.hid (Ba.out.kept hk (.inl (Nat.le_refl _)))
  clear Ba
  have Ba := Ra
  clear Ra
  have K2 := Lib.hid (K1.out.trans hk)
  have z2 := hk.size
  clear hk K1
  go_upto_region 8 with fail
  go_cut [6, 7] (fun p q wx => SprAt w2 wx p N ∧ q = .int .i64 bb)
  case first =>
    go_region_held3 (fun w' => w'.cell? ⟨w.heap.size, 0, none⟩ = some (.slice A1 s.told.length q1) ∧ w'.cell? ⟨w.heap.size, 1, none⟩ = some (.slice A2 s.work.length q2))
      (first | with_reducible exact ⟨bs0 Ba.out.drew, bs1 Ba.out.drew⟩ | with_reducible exact ⟨bs0 (Ba.out.alloc (.cells #[.slice none 0 0, .slice none 0 0] 31)).drew, bs1 (Ba.out.alloc (.cells #[.slice none 0 0, .slice none 0 0] 31)).drew⟩ | with_reducible exact ⟨bs0 Y1, bs1 Y1⟩ | with_reducible exact ⟨bs0 (Y1.alloc (.cells #[.slice none 0 0, .slice none 0 0] 31)), bs1 (Y1.alloc (.cells #[.slice none 0 0, .slice none 0 0] 31))⟩ | with_reducible exact ⟨bs0 Y2, bs1 Y2⟩ | with_reducible exact ⟨bs0 (Y2.alloc (.cells #[.slice none 0 0, .slice none 0 0] 31)), bs1 (Y2.alloc (.cells #[.slice none 0 0, .slice none 0 0] 31))⟩ | with_reducible exact ⟨bs0 Y3, bs1 Y3⟩ | with_reducible exact ⟨bs0 (Y3.alloc _), bs1 (Y3.alloc _)⟩ | with_reducible exact ⟨bs0 ((Y3.far (by first | omega | (simp; done) | (simp; omega)) _).far (by first | omega | (simp; done) | (simp; omega)) _), bs1 ((Y3.far (by first | omega | (simp; done) | (simp; omega)) _).far (by first | omega | (simp; done) | (simp; omega)) _)⟩)
      (first
        | (go_at_call 22; (with_reducible refine (toNd t v w2.drew (Ha.out.up (K2.out.trans (Kept.refl 0 0 w2).drew)) han).mono ?_); rintro e w1' ⟨u1, rfl, o1, hk⟩; have k1 : Kept 0 0 w2 w1' := (Kept.refl 0 0 w2).drew.trans hk; have Y1 := Ba.out.kept k1 (.inl (Nat.le_refl _)); have z1' := k1.size; clear hk)
        | (go_at_call 22; (with_reducible refine (toNd t v (w2.alloc (.cells #[.slice none 0 0, .slice none 0 0] 31)).drew (Ha.out.up (K2.out.trans (Kept.alloc0 w2 (.cells #[.slice none 0 0, .slice none 0 0] 31)).drew)) han).mono ?_); rintro e w1' ⟨u1, rfl, o1, hk⟩; have k1 : Kept 0 0 w2 w1' := (Kept.alloc0 w2 (.cells #[.slice none 0 0, .slice none 0 0] 31)).drew.trans hk; have Y1 := Ba.out.kept k1 (.inl (Nat.le_refl _)); have z1' := k1.size; have X1 : Blk w1' w2.heap.size 31 #[.slice none 0 0, .slice none 0 0] := (Blk.new w2 31 #[.slice none 0 0, .slice none 0 0]).drew.kept hk (.inl (Nat.le_refl _)); clear hk)
        | (go_at_call 23; have _t := X1; (with_reducible refine (toS s _ w1' (Hb.out.up (K2.out.trans k1)) hbt hbw).mono ?_); rintro e w2' ⟨u2, rfl, p2, hk⟩; have o2 := o1.kept hk (.inl (Nat.le_refl _)); have k2 : Kept 0 0 w2 w2' := k1.trans hk; have z2' : w1'.heap.size ≤ w2'.heap.size := (hk).size; have Y2 := Ba.out.kept k2 (.inl (Nat.le_refl _)); have X2 := X1.kept hk (.inl (Nat.le_refl _)); have rb : w2.heap.size ≤ w2.heap.size := Nat.le_refl _; clear hk)
        | (go_at_call 23; (with_reducible refine (toS s _ (w1'.alloc (.cells #[.slice none 0 0, .slice none 0 0] 31)) (Hb.out.up (K2.out.trans (k1.alloc (.cells #[.slice none 0 0, .slice none 0 0] 31)))) hbt hbw).mono ?_); rintro e w2' ⟨u2, rfl, p2, hk⟩; have o2 := o1.kept ((Kept.alloc0 w1' (.cells #[.slice none 0 0, .slice none 0 0] 31)).trans hk) (.inl (Nat.le_refl _)); have k2 : Kept 0 0 w2 w2' := k1.trans ((Kept.alloc0 w1' (.cells #[.slice none 0 0, .slice none 0 0] 31)).trans hk); have z2' : w1'.heap.size ≤ w2'.heap.size := (((Kept.alloc0 w1' (.cells #[.slice none 0 0, .slice none 0 0] 31)).trans hk)).size; have Y2 := Ba.out.kept k2 (.inl (Nat.le_refl _)); have X2 : Blk w2' w1'.heap.size 31 #[.slice none 0 0, .slice none 0 0] := (Blk.new w1' 31 #[.slice none 0 0, .slice none 0 0]).kept hk (.inl (Nat.le_refl _)); have rb : w2.heap.size ≤ w1'.heap.size := z1'; clear hk)
        | (go_at_call 23; (with_reducible refine (toS s _ w1' (Hb.out.up (K2.out.trans k1)) hbt hbw).mono ?_); rintro e w2' ⟨u2, rfl, p2, hk⟩; have o2 := o1.kept hk (.inl (Nat.le_refl _)); have k2 : Kept 0 0 w2 w2' := k1.trans hk; have z2' : w1'.heap.size ≤ w2'.heap.size := (hk).size; have Y2 := Ba.out.kept k2 (.inl (Nat.le_refl _)); clear hk)
        | (go_at_call 18; have _t := X2; (with_reducible refine (CS.out _ _ w2' (o2.rdW z2') (p2.rdW (Nat.le_refl _))).mono ?_); rintro e w3' ⟨_, rfl, ⟨_, _, rfl, ⟨DAZ, dAZ, rfl, oa⟩, ⟨DBZ, dBZ, rfl, ob⟩⟩, hk⟩; have k3 : Kept 0 0 w2 w3' := k2.trans hk; have z3' : w2'.heap.size ≤ w3'.heap.size := (hk).size; have Y3 := Ba.out.kept k3 (.inl (Nat.le_refl _)); have OO : Hid (OwnS w3' w2.heap.size w3'.heap.size (.agg #[.slice DAZ N.told.length dAZ, .slice DBZ N.work.length dBZ]) N) := OwnS.wide ⟨_, _, rfl, ⟨DAZ, dAZ, rfl, oa⟩, ⟨DBZ, dBZ, rfl, ob⟩⟩ (by omega) (Nat.le_refl _); have HY3 := Lib.hid k3; have X3 := X2.kept hk (.inl (Nat.le_refl _)); have q0 := bs0 X3; have q1 := bs1 X3; have q2 := X3.frozen 0; have q3 := X3.frozen 1; have HX3 := Lib.hid X3; clear hk oa ob)
        | (go_at_call 18; (with_reducible refine (CS.out _ _ (w2'.alloc (.cells #[.slice none 0 0, .slice none 0 0] 31)) ((o2.kept (Kept.alloc0 w2' (.cells #[.slice none 0 0, .slice none 0 0] 31)) (.inl (Nat.le_refl _))).rdW (by simp; omega)) ((p2.kept (Kept.alloc0 w2' (.cells #[.slice none 0 0, .slice none 0 0] 31)) (.inl (Nat.le_refl _))).rdW (by simp))).mono ?_); rintro e w3' ⟨_, rfl, ⟨_, _, rfl, ⟨DAZ, dAZ, rfl, oa⟩, ⟨DBZ, dBZ, rfl, ob⟩⟩, hk⟩; have k3 : Kept 0 0 w2 w3' := k2.trans ((Kept.alloc0 w2' (.cells #[.slice none 0 0, .slice none 0 0] 31)).trans hk); have z3' : w2'.heap.size ≤ w3'.heap.size := (((Kept.alloc0 w2' (.cells #[.slice none 0 0, .slice none 0 0] 31)).trans hk)).size; have Y3 := Ba.out.kept k3 (.inl (Nat.le_refl _)); have OO : Hid (OwnS w3' w2.heap.size w3'.heap.size (.agg #[.slice DAZ N.told.length dAZ, .slice DBZ N.work.length dBZ]) N) := OwnS.wide ⟨_, _, rfl, ⟨DAZ, dAZ, rfl, oa⟩, ⟨DBZ, dBZ, rfl, ob⟩⟩ (by simp; omega) (Nat.le_refl _); have HY3 := Lib.hid k3; have X3 : Blk w3' w2'.heap.size 31 #[.slice none 0 0, .slice none 0 0] := (Blk.new w2' 31 #[.slice none 0 0, .slice none 0 0]).kept hk (.inl (Nat.le_refl _)); have rb : w2.heap.size ≤ w2'.heap.size := Nat.le_trans z1' z2'; have q0 := bs0 X3; have q1 := bs1 X3; have q2 := X3.frozen 0; have q3 := X3.frozen 1; have HX3 := Lib.hid X3; clear hk oa ob)
        | (go_at_call 18; (with_reducible refine (CS.out _ _ w2' (o2.rdW z2') (p2.rdW (Nat.le_refl _))).mono ?_); rintro e w3' ⟨_, rfl, ⟨_, _, rfl, ⟨DAZ, dAZ, rfl, oa⟩, ⟨DBZ, dBZ, rfl, ob⟩⟩, hk⟩; have k3 : Kept 0 0 w2 w3' := k2.trans hk; have z3' : w2'.heap.size ≤ w3'.heap.size := (hk).size; have Y3 := Ba.out.kept k3 (.inl (Nat.le_refl _)); have OO : Hid (OwnS w3' w2.heap.size w3'.heap.size (.agg #[.slice DAZ N.told.length dAZ, .slice DBZ N.work.length dBZ]) N) := OwnS.wide ⟨_, _, rfl, ⟨DAZ, dAZ, rfl, oa⟩, ⟨DBZ, dBZ, rfl, ob⟩⟩ (by omega) (Nat.le_refl _); have HY3 := Lib.hid k3; clear hk oa ob))
    all_goals (go_wp2_with fail; go_meet)
    all_goals first
      | exact ⟨sprAt_new OO.out HY3.out, rfl⟩
      | exact ⟨sprAt_set HX3.out OO.out HY3.out rb, rfl⟩
  case rest =>
    obtain ⟨w3, rfl⟩ : ∃ w3 : World, w3 = wc := ⟨_, rfl⟩
    obtain ⟨⟨rw, DAW, DBW, dAW, dBW, rfl, hrw, hb, ho, hk⟩, rfl⟩ := hcut
    have Ra := Lib.hid (Ba.out.kept hk (.inl (Nat.le_refl _)))
    clear Ba
    have Ba := Ra
    clear Ra
    have OW := Lib.hid ho
    have Bw := Lib.hid hb
    have yw := hb.lt
    have K3 := Lib.hid (K2.out.trans hk)
    have z3 := hk.size
    clear hk hb ho K2
    clear CS
    go_wp2_with fail
    with_reducible refine (toNd t v _ (Ha.out.up K3.out) han).mono ?_
    rintro e w4 ⟨ux, rfl, ho, hk⟩
    have PW := Lib.hid (OW.out.kept hk (.inl (Nat.le_refl _)))
    have Ra := Lib.hid (Ba.out.kept hk (.inl (Nat.le_refl _)))
    have Rw := Lib.hid (Bw.out.kept hk (.inl (Nat.le_refl _)))
    clear OW
    have OW := PW
    clear PW
    clear Ba
    have Ba := Ra
    clear Ra
    clear Bw
    have Bw := Rw
    clear Rw
    have Ox := Lib.hid ho
    have K4 := Lib.hid (K3.out.trans hk)
    have z4 := hk.size
    clear hk ho K3
    have ca0 := bs0 Ba.out
    have ca1 := bs1 Ba.out
    go_wp2_with fail
    clear ca0 ca1
    with_reducible refine (toS s _ _ (Hb.out.up K4.out) hbt hbw).mono ?_
    rintro e w5 ⟨_, rfl, ⟨_, _, rfl, ⟨DAy, dAy, rfl, oa⟩, ⟨DBy, dBy, rfl, ob⟩⟩, hk⟩
    have PW := Lib.hid (OW.out.kept hk (.inl (Nat.le_refl _)))
    have Px := Lib.hid (Ox.out.kept hk (.inl (Nat.le_refl _)))
    have Ra := Lib.hid (Ba.out.kept hk (.inl (Nat.le_refl _)))
    have Rw := Lib.hid (Bw.out.kept hk (.inl (Nat.le_refl _)))
    clear OW
    have OW := PW
    clear PW
    clear Ox
    have Ox := Px
    clear Px
    clear Ba
    have Ba := Ra
    clear Ra
    clear Bw
    have Bw := Rw
    clear Rw
    have Oy : Hid (OwnS w5 w4.heap.size w5.heap.size (.agg #[.slice DAy s.told.length dAy, .slice DBy s.work.length dBy]) s) := ⟨_, _, rfl, ⟨DAy, dAy, rfl, oa⟩, ⟨DBy, dBy, rfl, ob⟩⟩
    have K5 := Lib.hid (K4.out.trans hk)
    have z5 := hk.size
    clear hk oa ob K4
    go_wp2_with fail
    obtain ⟨w6, hw⟩ : ∃ w6, w6 = w5.alloc (.cells #[.slice DAy s.told.length dAy, .slice DBy s.work.length dBy] 31) := ⟨_, rfl⟩
    have hk : Kept 0 0 w5 w6 := by rw [hw]; exact Kept.alloc0 _ _
    have Nx : Hid (Blk w6 w5.heap.size 31 #[.slice DAy s.told.length dAy, .slice DBy s.work.length dBy]) := by show Blk _ _ _ _; rw [hw]; exact Blk.new _ _ _
    rw [← hw]
    have PW := Lib.hid (OW.out.kept hk (.inl (Nat.le_refl _)))
    have Px := Lib.hid (Ox.out.kept hk (.inl (Nat.le_refl _)))
    have Py := Lib.hid (Oy.out.kept hk (.inl (Nat.le_refl _)))
    have Ra := Lib.hid (Ba.out.kept hk (.inl (Nat.le_refl _)))
    have Rw := Lib.hid (Bw.out.kept hk (.inl (Nat.le_refl _)))
    clear OW
    have OW := PW
    clear PW
    clear Ox
    have Ox := Px
    clear Px
    clear Oy
    have Oy := Py
    clear Py
    clear Ba
    have Ba := Ra
    clear Ra
    clear Bw
    have Bw := Rw
    clear Rw
    have Bx := Nx
    clear Nx
    have y6 := Bx.out.lt
    have K6 := Lib.hid (K5.out.trans hk)
    have z6 := hk.size
    clear hk hw K5
    with_reducible refine (CI.out _ _ _ (Ox.out.rdW (by omega)) (Oy.out.rdW (by omega))).mono ?_
    rintro e w7 ⟨_, rfl, ⟨_, _, rfl, ⟨DAG, dAG, rfl, oa⟩, ⟨DBG, dBG, rfl, ob⟩⟩, hk⟩
    have PW := Lib.hid (OW.out.kept hk (.inl (Nat.le_refl _)))
    have Px := Lib.hid (Ox.out.kept hk (.inl (Nat.le_refl _)))
    have Py := Lib.hid (Oy.out.kept hk (.inl (Nat.le_refl _)))
    have Ra := Lib.hid (Ba.out.kept hk (.inl (Nat.le_refl _)))
    have Rw := Lib.hid (Bw.out.kept hk (.inl (Nat.le_refl _)))
    have Rx := Lib.hid (Bx.out.kept hk (.inl (Nat.le_refl _)))
    clear OW
    have OW := PW
    clear PW
    clear Ox
    have Ox := Px
    clear Px
    clear Oy
    have Oy := Py
    clear Py
    clear Ba
    have Ba := Ra
    clear Ra
    clear Bw
    have Bw := Rw
    clear Rw
    clear Bx
    have Bx := Rx
    clear Rx
    have OG : Hid (OwnS w7 w6.heap.size w7.heap.size (.agg #[.slice DAG N.told.length dAG, .slice DBG N.work.length dBG]) N) := ⟨_, _, rfl, ⟨DAG, dAG, rfl, oa⟩, ⟨DBG, dBG, rfl, ob⟩⟩
    have K7 := Lib.hid (K6.out.trans hk)
    have z7 := hk.size
    clear hk oa ob K6
    have cw0 := bs0 Bw.out
    have cw1 := bs1 Bw.out
    have lw : rw < w7.heap.size := Bw.out.lt
    go_wp2_with fail
    clear cw0 cw1
    clear lw
    obtain ⟨w8, hw⟩ : ∃ w8, w8 = w7.alloc (.cells #[.slice DAG N.told.length dAG, .slice DBG N.work.length dBG] 31) := ⟨_, rfl⟩
    have hk : Kept 0 0 w7 w8 := by rw [hw]; exact Kept.alloc0 _ _
    have Ng : Hid (Blk w8 w7.heap.size 31 #[.slice DAG N.told.length dAG, .slice DBG N.work.length dBG]) := by show Blk _ _ _ _; rw [hw]; exact Blk.new _ _ _
    rw [← hw]
    have PW := Lib.hid (OW.out.kept hk (.inl (Nat.le_refl _)))
    have Px := Lib.hid (Ox.out.kept hk (.inl (Nat.le_refl _)))
    have Py := Lib.hid (Oy.out.kept hk (.inl (Nat.le_refl _)))
    have PG := Lib.hid (OG.out.kept hk (.inl (Nat.le_refl _)))
    have Ra := Lib.hid (Ba.out.kept hk (.inl (Nat.le_refl _)))
    have Rw := Lib.hid (Bw.out.kept hk (.inl (Nat.le_refl _)))
    have Rx := Lib.hid (Bx.out.kept hk (.inl (Nat.le_refl _)))
    clear OW
    have OW := PW
    clear PW
    clear Ox
    have Ox := Px
    clear Px
    clear Oy
    have Oy := Py
    clear Py
    clear OG
    have OG := PG
    clear PG
    clear Ba
    have Ba := Ra
    clear Ra
    clear Bw
    have Bw := Rw
    clear Rw
    clear Bx
    have Bx := Rx
    clear Rx
    have Bg := Ng
    clear Ng
    have y8 := Bg.out.lt
    have K8 := Lib.hid (K7.out.trans hk)
    have z8 := hk.size
    clear hk hw K7
    with_reducible refine (eqS (N) _ _ _ (OG.out.rdW (by omega)) (OW.out.rdW (by omega))).mono ?_
    rintro e w9 ⟨rfl, hk⟩
    have PW := Lib.hid (OW.out.kept hk (.inl (Nat.le_refl _)))
    have Px := Lib.hid (Ox.out.kept hk (.inl (Nat.le_refl _)))
    have Py := Lib.hid (Oy.out.kept hk (.inl (Nat.le_refl _)))
    have PG := Lib.hid (OG.out.kept hk (.inl (Nat.le_refl _)))
    have Ra := Lib.hid (Ba.out.kept hk (.inl (Nat.le_refl _)))
    have Rw := Lib.hid (Bw.out.kept hk (.inl (Nat.le_refl _)))
    have Rx := Lib.hid (Bx.out.kept hk (.inl (Nat.le_refl _)))
    have Rg := Lib.hid (Bg.out.kept hk (.inl (Nat.le_refl _)))
    clear OW
    have OW := PW
    clear PW
    clear Ox
    have Ox := Px
    clear Px
    clear Oy
    have Oy := Py
    clear Py
    clear OG
    have OG := PG
    clear PG
    clear Ba
    have Ba := Ra
    clear Ra
    clear Bw
    have Bw := Rw
    clear Rw
    clear Bx
    have Bx := Rx
    clear Rx
    clear Bg
    have Bg := Rg
    clear Rg
    have K9 := Lib.hid (K8.out.trans hk)
    have z9 := hk.size
    clear hk K8
    go_wp2_with fail
    with_reducible refine (toNd t v _ (Ha.out.up K9.out) han).mono ?_
    rintro e w10 ⟨up, rfl, ho, hk⟩
    have PW := Lib.hid (OW.out.kept hk (.inl (Nat.le_refl _)))
    have Px := Lib.hid (Ox.out.kept hk (.inl (Nat.le_refl _)))
    have Py := Lib.hid (Oy.out.kept hk (.inl (Nat.le_refl _)))
    have PG := Lib.hid (OG.out.kept hk (.inl (Nat.le_refl _)))
    have Ra := Lib.hid (Ba.out.kept hk (.inl (Nat.le_refl _)))
    have Rw := Lib.hid (Bw.out.kept hk (.inl (Nat.le_refl _)))
    have Rx := Lib.hid (Bx.out.kept hk (.inl (Nat.le_refl _)))
    have Rg := Lib.hid (Bg.out.kept hk (.inl (Nat.le_refl _)))
    clear OW
    have OW := PW
    clear PW
    clear Ox
    have Ox := Px
    clear Px
    clear Oy
    have Oy := Py
    clear Py
    clear OG
    have OG := PG
    clear PG
    clear Ba
    have Ba := Ra
    clear Ra
    clear Bw
    have Bw := Rw
    clear Rw
    clear Bx
    have Bx := Rx
    clear Rx
    clear Bg
    have Bg := Rg
    clear Rg
    have Op := Lib.hid ho
    have K10 := Lib.hid (K9.out.trans hk)
    have z10 := hk.size
    clear hk ho K9
    go_wp2_with fail
    with_reducible refine (eqNd (t) _ _ _ (Ox.out.rdW (by omega)) (Op.out.rdW (by omega))).mono ?_
    rintro e w11 ⟨rfl, hk⟩
    have PW := Lib.hid (OW.out.kept hk (.inl (Nat.le_refl _)))
    have Px := Lib.hid (Ox.out.kept hk (.inl (Nat.le_refl _)))
    have Py := Lib.hid (Oy.out.kept hk (.inl (Nat.le_refl _)))
    have PG := Lib.hid (OG.out.kept hk (.inl (Nat.le_refl _)))
    have Pp := Lib.hid (Op.out.kept hk (.inl (Nat.le_refl _)))
    have Ra := Lib.hid (Ba.out.kept hk (.inl (Nat.le_refl _)))
    have Rw := Lib.hid (Bw.out.kept hk (.inl (Nat.le_refl _)))
    have Rx := Lib.hid (Bx.out.kept hk (.inl (Nat.le_refl _)))
    have Rg := Lib.hid (Bg.out.kept hk (.inl (Nat.le_refl _)))
    clear OW
    have OW := PW
    clear PW
    clear Ox
    have Ox := Px
    clear Px
    clear Oy
    have Oy := Py
    clear Py
    clear OG
    have OG := PG
    clear PG
    clear Op
    have Op := Pp
    clear Pp
    clear Ba
    have Ba := Ra
    clear Ra
    clear Bw
    have Bw := Rw
    clear Rw
    clear Bx
    have Bx := Rx
    clear Rx
    clear Bg
    have Bg := Rg
    clear Rg
    have K11 := Lib.hid (K10.out.trans hk)
    have z11 := hk.size
    clear hk K10
    clear Op
    go_upto_region 16 with fail
    go_region_held3 (fun w' => w'.cell? ⟨w5.heap.size, 0, none⟩ = some (.slice DAy s.told.length dAy) ∧ w'.cell? ⟨w5.heap.size, 1, none⟩ = some (.slice DBy s.work.length dBy) ∧ w'.cell? ⟨w.heap.size, 0, none⟩ = some (.slice A1 s.told.length q1) ∧ w'.cell? ⟨w.heap.size, 1, none⟩ = some (.slice A2 s.work.length q2))
      (first | with_reducible exact ⟨bs0 Bx.out.drew, bs1 Bx.out.drew, bs0 Ba.out.drew, bs1 Ba.out.drew⟩ | with_reducible exact ⟨bs0 Xx, bs1 Xx, bs0 Xa, bs1 Xa⟩ | with_reducible exact ⟨bs0 Yx, bs1 Yx, bs0 Ya, bs1 Ya⟩)
      (first | (go_at_call 23; (with_reducible refine (toS s _ w11.drew (Hb.out.up K11.out.drew) hbt hbw).mono ?_); rintro e w12 ⟨u1, rfl, oy, hk⟩; have k1 : Kept 0 0 w11 w12 := (Kept.refl 0 0 w11).drew.trans hk; have Xx := Bx.out.kept k1 (.inl (Nat.le_refl _)); have Xa := Ba.out.kept k1 (.inl (Nat.le_refl _)); have zz := k1.size; clear hk) | (go_at_call 26; (with_reducible refine (eqS s _ _ w12 ((Oy.out.kept k1 (.inl (Nat.le_refl _))).rdW (by omega)) (oy.rdW (Nat.le_refl _))).mono ?_); rintro e w13 ⟨rfl, hk⟩; have k2 : Kept 0 0 w11 w13 := k1.trans hk; have Yx := Bx.out.kept k2 (.inl (Nat.le_refl _)); have Ya := Ba.out.kept k2 (.inl (Nat.le_refl _)); have ks := Lib.hid k2; clear hk))
    clear Xx Xa Yx Ya k1 k2 oy zz
    have PW := Lib.hid (OW.out.kept ks.out (.inl (Nat.le_refl _)))
    have Px := Lib.hid (Ox.out.kept ks.out (.inl (Nat.le_refl _)))
    have Py := Lib.hid (Oy.out.kept ks.out (.inl (Nat.le_refl _)))
    have PG := Lib.hid (OG.out.kept ks.out (.inl (Nat.le_refl _)))
    have Ra := Lib.hid (Ba.out.kept ks.out (.inl (Nat.le_refl _)))
    have Rw := Lib.hid (Bw.out.kept ks.out (.inl (Nat.le_refl _)))
    have Rx := Lib.hid (Bx.out.kept ks.out (.inl (Nat.le_refl _)))
    have Rg := Lib.hid (Bg.out.kept ks.out (.inl (Nat.le_refl _)))
    clear OW
    have OW := PW
    clear PW
    clear Ox
    have Ox := Px
    clear Px
    clear Oy
    have Oy := Py
    clear Py
    clear OG
    have OG := PG
    clear PG
    clear Ba
    have Ba := Ra
    clear Ra
    clear Bw
    have Bw := Rw
    clear Rw
    clear Bx
    have Bx := Rx
    clear Rx
    clear Bg
    have Bg := Rg
    clear Rg
    have K13 := Lib.hid (K11.out.trans ks.out)
    have z13 := ks.out.size
    clear ks K11
    go_wp2_with fail
    with_reducible refine (markNd 1 t _ w3.heap.size w4.heap.size _ Ox.out (by omega) (by omega) han).mono ?_
    rintro e w14 ⟨rfl, ho, hk⟩
    have PW := Lib.hid (OW.out.kept hk (by omega))
    have Py := Lib.hid (Oy.out.kept hk (by omega))
    have PG := Lib.hid (OG.out.kept hk (by omega))
    have Ra := Lib.hid (Ba.out.kept hk (by omega))
    have Rw := Lib.hid (Bw.out.kept hk (by omega))
    have Rx := Lib.hid (Bx.out.kept hk (by omega))
    have Rg := Lib.hid (Bg.out.kept hk (by omega))
    clear OW
    have OW := PW
    clear PW
    clear Oy
    have Oy := Py
    clear Py
    clear OG
    have OG := PG
    clear PG
    clear Ba
    have Ba := Ra
    clear Ra
    clear Bw
    have Bw := Rw
    clear Rw
    clear Bx
    have Bx := Rx
    clear Rx
    clear Bg
    have Bg := Rg
    clear Rg
    clear Ox
    have Ox := Lib.hid ho
    have K14 := Lib.hid (K13.out.trans2 hk (.inr (by omega)))
    have z14 := hk.size
    clear hk ho K13
    have k0 : (0 : Int) ≤ 1 + 5 * (t.length : Int) := by omega
    obtain ⟨mS, hmS⟩ : ∃ mS, mS = markSN (1 + 5 * (t.length : Int)) s := ⟨_, rfl⟩
    obtain ⟨mN, hmN⟩ : ∃ mN, mN = markSN 1 N := ⟨_, rfl⟩
    have pS : 0 ≤ mS := by rw [hmS]; unfold markSN; omega
    have pN : 0 ≤ mN := by rw [hmN]; unfold markSN; omega
    have HmS := Lib.hid hmS.symm
    have HmN := Lib.hid hmN.symm
    clear hmS hmN
    have cx0 := bs0 Bx.out
    have cx1 := bs1 Bx.out
    go_wp2_with fail
    clear cx0 cx1
    with_reducible refine (markS (1 + 5 * (t.length : Int)) s _ w4.heap.size w5.heap.size _ Oy.out (by omega) (by omega) st sw (by omega)).mono ?_
    rintro e w15 ⟨rfl, ho, hk⟩
    have PW := Lib.hid (OW.out.kept hk (by omega))
    have Px := Lib.hid (Ox.out.kept hk (by omega))
    have PG := Lib.hid (OG.out.kept hk (by omega))
    have Ra := Lib.hid (Ba.out.kept hk (by omega))
    have Rw := Lib.hid (Bw.out.kept hk (by omega))
    have Rx := Lib.hid (Bx.out.kept hk (by omega))
    have Rg := Lib.hid (Bg.out.kept hk (by omega))
    clear OW
    have OW := PW
    clear PW
    clear Ox
    have Ox := Px
    clear Px
    clear OG
    have OG := PG
    clear PG
    clear Ba
    have Ba := Ra
    clear Ra
    clear Bw
    have Bw := Rw
    clear Rw
    clear Bx
    have Bx := Rx
    clear Rx
    clear Bg
    have Bg := Rg
    clear Rg
    clear Oy
    have Oy := Lib.hid ho
    have K15 := Lib.hid (K14.out.trans2 hk (.inr (by omega)))
    have z15 := hk.size
    clear hk ho K14
    rw [HmS.out]
    have cg0 := bs0 Bg.out
    have cg1 := bs1 Bg.out
    have cw0 := bs0 Bw.out
    have cw1 := bs1 Bw.out
    go_wp2_with fail
    clear cg0 cg1 cw0 cw1
    with_reducible refine (eqS (N) _ _ _ (OG.out.rdW (by omega)) (OW.out.rdW (by omega))).mono ?_
    rintro e w16 ⟨rfl, hk⟩
    have PW := Lib.hid (OW.out.kept hk (.inl (Nat.le_refl _)))
    have Px := Lib.hid (Ox.out.kept hk (.inl (Nat.le_refl _)))
    have Py := Lib.hid (Oy.out.kept hk (.inl (Nat.le_refl _)))
    have PG := Lib.hid (OG.out.kept hk (.inl (Nat.le_refl _)))
    have Ra := Lib.hid (Ba.out.kept hk (.inl (Nat.le_refl _)))
    have Rw := Lib.hid (Bw.out.kept hk (.inl (Nat.le_refl _)))
    have Rx := Lib.hid (Bx.out.kept hk (.inl (Nat.le_refl _)))
    have Rg := Lib.hid (Bg.out.kept hk (.inl (Nat.le_refl _)))
    clear OW
    have OW := PW
    clear PW
    clear Ox
    have Ox := Px
    clear Px
    clear Oy
    have Oy := Py
    clear Py
    clear OG
    have OG := PG
    clear PG
    clear Ba
    have Ba := Ra
    clear Ra
    clear Bw
    have Bw := Rw
    clear Rw
    clear Bx
    have Bx := Rx
    clear Rx
    clear Bg
    have Bg := Rg
    clear Rg
    have K16 := Lib.hid (K15.out.trans hk)
    have z16 := hk.size
    clear hk K15
    have cg0 := bs0 Bg.out
    have cg1 := bs1 Bg.out
    go_wp2_with fail
    clear cg0 cg1
    with_reducible refine (markS (1) N _ w6.heap.size w7.heap.size _ OG.out (by omega) (by omega) Nt Nw (by omega)).mono ?_
    rintro e w17 ⟨rfl, ho, hk⟩
    have PW := Lib.hid (OW.out.kept hk (by omega))
    have Px := Lib.hid (Ox.out.kept hk (by omega))
    have Py := Lib.hid (Oy.out.kept hk (by omega))
    have Ra := Lib.hid (Ba.out.kept hk (by omega))
    have Rw := Lib.hid (Bw.out.kept hk (by omega))
    have Rx := Lib.hid (Bx.out.kept hk (by omega))
    have Rg := Lib.hid (Bg.out.kept hk (by omega))
    clear OW
    have OW := PW
    clear PW
    clear Ox
    have Ox := Px
    clear Px
    clear Oy
    have Oy := Py
    clear Py
    clear Ba
    have Ba := Ra
    clear Ra
    clear Bw
    have Bw := Rw
    clear Rw
    clear Bx
    have Bx := Rx
    clear Rx
    clear Bg
    have Bg := Rg
    clear Rg
    clear OG
    have OG := Lib.hid ho
    have K17 := Lib.hid (K16.out.trans2 hk (.inr (by omega)))
    have z17 := hk.size
    clear hk ho K16
    rw [HmN.out]
    have cg0 := bs0 Bg.out
    have cg1 := bs1 Bg.out
    go_wp2_with fail
    clear cg0 cg1
    with_reducible refine (heldS 1 N _ _ w7.heap.size (by omega) OG.out.rd (by omega) (by omega) Nt Nw).mono ?_
    rintro e w18 ⟨rfl, hk⟩
    have PW := Lib.hid (OW.out.kept hk (.inl (Nat.le_refl _)))
    have Px := Lib.hid (Ox.out.kept hk (.inl (Nat.le_refl _)))
    have Py := Lib.hid (Oy.out.kept hk (.inl (Nat.le_refl _)))
    have PG := Lib.hid (OG.out.kept hk (.inl (Nat.le_refl _)))
    have Ra := Lib.hid (Ba.out.kept hk (.inl (Nat.le_refl _)))
    have Rw := Lib.hid (Bw.out.kept hk (.inl (Nat.le_refl _)))
    have Rx := Lib.hid (Bx.out.kept hk (.inl (Nat.le_refl _)))
    have Rg := Lib.hid (Bg.out.kept hk (.inl (Nat.le_refl _)))
    clear OW
    have OW := PW
    clear PW
    clear Ox
    have Ox := Px
    clear Px
    clear Oy
    have Oy := Py
    clear Py
    clear OG
    have OG := PG
    clear PG
    clear Ba
    have Ba := Ra
    clear Ra
    clear Bw
    have Bw := Rw
    clear Rw
    clear Bx
    have Bx := Rx
    clear Rx
    clear Bg
    have Bg := Rg
    clear Rg
    have K18 := Lib.hid (K17.out.trans hk)
    have z18 := hk.size
    clear hk K17
    rw [HmN.out]
    have qm : (mN != mN) = false := by simp
    clear Ox
    clear Oy
    go_upto_region 31 with fail
    go_cut [15, 16] (fun p q wx => SprAt w18 wx p N ∧ q = .int .i64 bb)
    case first =>
      go_region_held3 (fun w' => w'.cell? ⟨w.heap.size, 0, none⟩ = some (.slice A1 s.told.length q1) ∧ w'.cell? ⟨w.heap.size, 1, none⟩ = some (.slice A2 s.work.length q2))
        (first | with_reducible exact ⟨bs0 Ba.out.drew, bs1 Ba.out.drew⟩ | with_reducible exact ⟨bs0 (Ba.out.alloc (.cells #[.slice none 0 0, .slice none 0 0] 31)).drew, bs1 (Ba.out.alloc (.cells #[.slice none 0 0, .slice none 0 0] 31)).drew⟩ | with_reducible exact ⟨bs0 Y1, bs1 Y1⟩ | with_reducible exact ⟨bs0 (Y1.alloc (.cells #[.slice none 0 0, .slice none 0 0] 31)), bs1 (Y1.alloc (.cells #[.slice none 0 0, .slice none 0 0] 31))⟩ | with_reducible exact ⟨bs0 Y2, bs1 Y2⟩ | with_reducible exact ⟨bs0 (Y2.alloc (.cells #[.slice none 0 0, .slice none 0 0] 31)), bs1 (Y2.alloc (.cells #[.slice none 0 0, .slice none 0 0] 31))⟩ | with_reducible exact ⟨bs0 Y3, bs1 Y3⟩ | with_reducible exact ⟨bs0 (Y3.alloc _), bs1 (Y3.alloc _)⟩ | with_reducible exact ⟨bs0 ((Y3.far (by first | omega | (simp; done) | (simp; omega)) _).far (by first | omega | (simp; done) | (simp; omega)) _), bs1 ((Y3.far (by first | omega | (simp; done) | (simp; omega)) _).far (by first | omega | (simp; done) | (simp; omega)) _)⟩)
        (first
          | (go_at_call 22; (with_reducible refine (toNd t v w18.drew (Ha.out.up (K18.out.trans (Kept.refl 0 0 w18).drew)) han).mono ?_); rintro e w1' ⟨u1, rfl, o1, hk⟩; have k1 : Kept 0 0 w18 w1' := (Kept.refl 0 0 w18).drew.trans hk; have Y1 := Ba.out.kept k1 (.inl (Nat.le_refl _)); have z1' := k1.size; clear hk)
          | (go_at_call 22; (with_reducible refine (toNd t v (w18.alloc (.cells #[.slice none 0 0, .slice none 0 0] 31)).drew (Ha.out.up (K18.out.trans (Kept.alloc0 w18 (.cells #[.slice none 0 0, .slice none 0 0] 31)).drew)) han).mono ?_); rintro e w1' ⟨u1, rfl, o1, hk⟩; have k1 : Kept 0 0 w18 w1' := (Kept.alloc0 w18 (.cells #[.slice none 0 0, .slice none 0 0] 31)).drew.trans hk; have Y1 := Ba.out.kept k1 (.inl (Nat.le_refl _)); have z1' := k1.size; have X1 : Blk w1' w18.heap.size 31 #[.slice none 0 0, .slice none 0 0] := (Blk.new w18 31 #[.slice none 0 0, .slice none 0 0]).drew.kept hk (.inl (Nat.le_refl _)); clear hk)
          | (go_at_call 23; have _t := X1; (with_reducible refine (toS s _ w1' (Hb.out.up (K18.out.trans k1)) hbt hbw).mono ?_); rintro e w2' ⟨u2, rfl, p2, hk⟩; have o2 := o1.kept hk (.inl (Nat.le_refl _)); have k2 : Kept 0 0 w18 w2' := k1.trans hk; have z2' : w1'.heap.size ≤ w2'.heap.size := (hk).size; have Y2 := Ba.out.kept k2 (.inl (Nat.le_refl _)); have X2 := X1.kept hk (.inl (Nat.le_refl _)); have rb : w18.heap.size ≤ w18.heap.size := Nat.le_refl _; clear hk)
          | (go_at_call 23; (with_reducible refine (toS s _ (w1'.alloc (.cells #[.slice none 0 0, .slice none 0 0] 31)) (Hb.out.up (K18.out.trans (k1.alloc (.cells #[.slice none 0 0, .slice none 0 0] 31)))) hbt hbw).mono ?_); rintro e w2' ⟨u2, rfl, p2, hk⟩; have o2 := o1.kept ((Kept.alloc0 w1' (.cells #[.slice none 0 0, .slice none 0 0] 31)).trans hk) (.inl (Nat.le_refl _)); have k2 : Kept 0 0 w18 w2' := k1.trans ((Kept.alloc0 w1' (.cells #[.slice none 0 0, .slice none 0 0] 31)).trans hk); have z2' : w1'.heap.size ≤ w2'.heap.size := (((Kept.alloc0 w1' (.cells #[.slice none 0 0, .slice none 0 0] 31)).trans hk)).size; have Y2 := Ba.out.kept k2 (.inl (Nat.le_refl _)); have X2 : Blk w2' w1'.heap.size 31 #[.slice none 0 0, .slice none 0 0] := (Blk.new w1' 31 #[.slice none 0 0, .slice none 0 0]).kept hk (.inl (Nat.le_refl _)); have rb : w18.heap.size ≤ w1'.heap.size := z1'; clear hk)
          | (go_at_call 23; (with_reducible refine (toS s _ w1' (Hb.out.up (K18.out.trans k1)) hbt hbw).mono ?_); rintro e w2' ⟨u2, rfl, p2, hk⟩; have o2 := o1.kept hk (.inl (Nat.le_refl _)); have k2 : Kept 0 0 w18 w2' := k1.trans hk; have z2' : w1'.heap.size ≤ w2'.heap.size := (hk).size; have Y2 := Ba.out.kept k2 (.inl (Nat.le_refl _)); clear hk)
          | (go_at_call 17; have _t := X2; (with_reducible refine (CI.out _ _ w2' (o2.rdW z2') (p2.rdW (Nat.le_refl _))).mono ?_); rintro e w3' ⟨_, rfl, ⟨_, _, rfl, ⟨DAZ, dAZ, rfl, oa⟩, ⟨DBZ, dBZ, rfl, ob⟩⟩, hk⟩; have k3 : Kept 0 0 w18 w3' := k2.trans hk; have z3' : w2'.heap.size ≤ w3'.heap.size := (hk).size; have Y3 := Ba.out.kept k3 (.inl (Nat.le_refl _)); have OO : Hid (OwnS w3' w18.heap.size w3'.heap.size (.agg #[.slice DAZ N.told.length dAZ, .slice DBZ N.work.length dBZ]) N) := OwnS.wide ⟨_, _, rfl, ⟨DAZ, dAZ, rfl, oa⟩, ⟨DBZ, dBZ, rfl, ob⟩⟩ (by omega) (Nat.le_refl _); have HY3 := Lib.hid k3; have X3 := X2.kept hk (.inl (Nat.le_refl _)); have q0 := bs0 X3; have q1 := bs1 X3; have q2 := X3.frozen 0; have q3 := X3.frozen 1; have HX3 := Lib.hid X3; clear hk oa ob)
          | (go_at_call 17; (with_reducible refine (CI.out _ _ (w2'.alloc (.cells #[.slice none 0 0, .slice none 0 0] 31)) ((o2.kept (Kept.alloc0 w2' (.cells #[.slice none 0 0, .slice none 0 0] 31)) (.inl (Nat.le_refl _))).rdW (by simp; omega)) ((p2.kept (Kept.alloc0 w2' (.cells #[.slice none 0 0, .slice none 0 0] 31)) (.inl (Nat.le_refl _))).rdW (by simp))).mono ?_); rintro e w3' ⟨_, rfl, ⟨_, _, rfl, ⟨DAZ, dAZ, rfl, oa⟩, ⟨DBZ, dBZ, rfl, ob⟩⟩, hk⟩; have k3 : Kept 0 0 w18 w3' := k2.trans ((Kept.alloc0 w2' (.cells #[.slice none 0 0, .slice none 0 0] 31)).trans hk); have z3' : w2'.heap.size ≤ w3'.heap.size := (((Kept.alloc0 w2' (.cells #[.slice none 0 0, .slice none 0 0] 31)).trans hk)).size; have Y3 := Ba.out.kept k3 (.inl (Nat.le_refl _)); have OO : Hid (OwnS w3' w18.heap.size w3'.heap.size (.agg #[.slice DAZ N.told.length dAZ, .slice DBZ N.work.length dBZ]) N) := OwnS.wide ⟨_, _, rfl, ⟨DAZ, dAZ, rfl, oa⟩, ⟨DBZ, dBZ, rfl, ob⟩⟩ (by simp; omega) (Nat.le_refl _); have HY3 := Lib.hid k3; have X3 : Blk w3' w2'.heap.size 31 #[.slice none 0 0, .slice none 0 0] := (Blk.new w2' 31 #[.slice none 0 0, .slice none 0 0]).kept hk (.inl (Nat.le_refl _)); have rb : w18.heap.size ≤ w2'.heap.size := Nat.le_trans z1' z2'; have q0 := bs0 X3; have q1 := bs1 X3; have q2 := X3.frozen 0; have q3 := X3.frozen 1; have HX3 := Lib.hid X3; clear hk oa ob)
          | (go_at_call 17; (with_reducible refine (CI.out _ _ w2' (o2.rdW z2') (p2.rdW (Nat.le_refl _))).mono ?_); rintro e w3' ⟨_, rfl, ⟨_, _, rfl, ⟨DAZ, dAZ, rfl, oa⟩, ⟨DBZ, dBZ, rfl, ob⟩⟩, hk⟩; have k3 : Kept 0 0 w18 w3' := k2.trans hk; have z3' : w2'.heap.size ≤ w3'.heap.size := (hk).size; have Y3 := Ba.out.kept k3 (.inl (Nat.le_refl _)); have OO : Hid (OwnS w3' w18.heap.size w3'.heap.size (.agg #[.slice DAZ N.told.length dAZ, .slice DBZ N.work.length dBZ]) N) := OwnS.wide ⟨_, _, rfl, ⟨DAZ, dAZ, rfl, oa⟩, ⟨DBZ, dBZ, rfl, ob⟩⟩ (by omega) (Nat.le_refl _); have HY3 := Lib.hid k3; clear hk oa ob))
      all_goals (go_wp2_with fail; go_meet)
      all_goals first
        | exact ⟨sprAt_new OO.out HY3.out, rfl⟩
        | exact ⟨sprAt_set HX3.out OO.out HY3.out rb, rfl⟩
    case rest =>
      obtain ⟨w19, rfl⟩ : ∃ w19 : World, w19 = wc := ⟨_, rfl⟩
      obtain ⟨⟨rq, DAQ, DBQ, dAQ, dBQ, rfl, hrq, hb, ho, hk⟩, rfl⟩ := hcut
      have PW := Lib.hid (OW.out.kept hk (.inl (Nat.le_refl _)))
      have PG := Lib.hid (OG.out.kept hk (.inl (Nat.le_refl _)))
      have Ra := Lib.hid (Ba.out.kept hk (.inl (Nat.le_refl _)))
      have Rw := Lib.hid (Bw.out.kept hk (.inl (Nat.le_refl _)))
      have Rx := Lib.hid (Bx.out.kept hk (.inl (Nat.le_refl _)))
      have Rg := Lib.hid (Bg.out.kept hk (.inl (Nat.le_refl _)))
      clear OW
      have OW := PW
      clear PW
      clear OG
      have OG := PG
      clear PG
      clear Ba
      have Ba := Ra
      clear Ra
      clear Bw
      have Bw := Rw
      clear Rw
      clear Bx
      have Bx := Rx
      clear Rx
      clear Bg
      have Bg := Rg
      clear Rg
      have OQ := Lib.hid ho
      have Bq := Lib.hid hb
      have yq := hb.lt
      have K19 := Lib.hid (K18.out.trans hk)
      have z19 := hk.size
      clear hk hb ho K18
      have cq0 := bs0 Bq.out
      have cq1 := bs1 Bq.out
      have cw0 := bs0 Bw.out
      have cw1 := bs1 Bw.out
      go_wp2_with fail
      clear cq0 cq1 cw0 cw1
      with_reducible refine (eqS (N) _ _ _ (OQ.out.rdW (by omega)) (OW.out.rdW (by omega))).mono ?_
      rintro e w20 ⟨rfl, hk⟩
      have PW := Lib.hid (OW.out.kept hk (.inl (Nat.le_refl _)))
      have PG := Lib.hid (OG.out.kept hk (.inl (Nat.le_refl _)))
      have PQ := Lib.hid (OQ.out.kept hk (.inl (Nat.le_refl _)))
      have Ra := Lib.hid (Ba.out.kept hk (.inl (Nat.le_refl _)))
      have Rw := Lib.hid (Bw.out.kept hk (.inl (Nat.le_refl _)))
      have Rx := Lib.hid (Bx.out.kept hk (.inl (Nat.le_refl _)))
      have Rg := Lib.hid (Bg.out.kept hk (.inl (Nat.le_refl _)))
      have Rq := Lib.hid (Bq.out.kept hk (.inl (Nat.le_refl _)))
      clear OW
      have OW := PW
      clear PW
      clear OG
      have OG := PG
      clear PG
      clear OQ
      have OQ := PQ
      clear PQ
      clear Ba
      have Ba := Ra
      clear Ra
      clear Bw
      have Bw := Rw
      clear Rw
      clear Bx
      have Bx := Rx
      clear Rx
      clear Bg
      have Bg := Rg
      clear Rg
      clear Bq
      have Bq := Rq
      clear Rq
      have K20 := Lib.hid (K19.out.trans hk)
      have z20 := hk.size
      clear hk K19
      have cg0 := bs0 Bg.out
      have cg1 := bs1 Bg.out
      go_wp2_with fail
      clear cg0 cg1
      with_reducible refine (heldS 1 N _ _ w7.heap.size (by omega) OG.out.rd (by omega) (by omega) Nt Nw).mono ?_
      rintro e w21 ⟨rfl, hk⟩
      have PW := Lib.hid (OW.out.kept hk (.inl (Nat.le_refl _)))
      have PG := Lib.hid (OG.out.kept hk (.inl (Nat.le_refl _)))
      have PQ := Lib.hid (OQ.out.kept hk (.inl (Nat.le_refl _)))
      have Ra := Lib.hid (Ba.out.kept hk (.inl (Nat.le_refl _)))
      have Rw := Lib.hid (Bw.out.kept hk (.inl (Nat.le_refl _)))
      have Rx := Lib.hid (Bx.out.kept hk (.inl (Nat.le_refl _)))
      have Rg := Lib.hid (Bg.out.kept hk (.inl (Nat.le_refl _)))
      have Rq := Lib.hid (Bq.out.kept hk (.inl (Nat.le_refl _)))
      clear OW
      have OW := PW
      clear PW
      clear OG
      have OG := PG
      clear PG
      clear OQ
      have OQ := PQ
      clear PQ
      clear Ba
      have Ba := Ra
      clear Ra
      clear Bw
      have Bw := Rw
      clear Rw
      clear Bx
      have Bx := Rx
      clear Rx
      clear Bg
      have Bg := Rg
      clear Rg
      clear Bq
      have Bq := Rq
      clear Rq
      have K21 := Lib.hid (K20.out.trans hk)
      have z21 := hk.size
      clear hk K20
      rw [HmN.out]
      go_wp2_with fail
      go_ret
      exact ⟨rfl, K21.out⟩
set_option maxHeartbeats 800000 in
theorem lawStep (D : DoesSpreadStep) (t : List Nd) (s : Spr) (v u : Value) (w : World) (ha : RdNd w w.heap.size v t) (hb : RdS w w.heap.size u s) :
    Calls Try.prog 7 #[v, u] w fun e w' => e = .returned (.bool true) ∧ Kept 0 0 w w' := by
  rcases Nat.lt_or_ge 1048576 (t.length + s.told.length + s.work.length) with hl | hl
  case inr => exact lawStep_small D t s v u w ha hb hl
  have Ha := Lib.hid ha
  have m1 := ha.len
  obtain ⟨hv, lv, rfl, ⟨A1, q1, rfl, s2⟩, ⟨A2, q2, rfl, s3⟩⟩ := hb
  have Hb : Hid (RdS w w.heap.size (.agg #[.slice A1 s.told.length q1, .slice A2 s.work.length q2]) s) := ⟨_, _, rfl, ⟨A1, q1, rfl, s2⟩, ⟨A2, q2, rfl, s3⟩⟩
  obtain ⟨W, hW⟩ : ∃ W, W = w.alloc (.cells #[.slice A1 s.told.length q1, .slice A2 s.work.length q2] 43) := ⟨_, rfl⟩
  have KW : Hid (Kept 0 0 w W) := by show Kept _ _ _ _; rw [hW]; exact Kept.alloc0 _ _
  have B0 : Hid (Blk W w.heap.size 43 #[.slice A1 s.told.length q1, .slice A2 s.work.length q2]) := by show Blk _ _ _ _; rw [hW]; exact Blk.new _ _ _
  have HW := Lib.hid hW
  clear hW s2 s3 ha
  rcases Nat.lt_or_ge 1048576 t.length with ht | ht
  · have Ea : Hid (szF 1048576 t.length = -1) := szF_neg (by omega)
    go_enter Try.func7, Try.ntmps7
    go_wp2_with fail
    rw [← HW.out]
    with_reducible refine (szNd t _ _ _ _ (Ha.out.up KW.out) (by omega) (by omega)).mono ?_
    rintro e w' ⟨rfl, rfl⟩
    rw [Ea.out]
    go_wp2
    go_ret
    exact ⟨rfl, KW.out⟩
  · have Ea : Hid (szF (1048576) t.length = 1048576 - t.length) := szF_pos (by omega)
    have sz : (0 : Int) ≤ 1048576 - t.length := by omega
    have b0 := bs0 B0.out
    have b1 := bs1 B0.out
    have CS := Lib.hid (szS_neg s _ (1048576 - (t.length : Int)) W _ (Hb.out.up KW.out) (by omega) (by omega) (by omega))
    go_enter Try.func7, Try.ntmps7
    go_wp2_with fail
    rw [← HW.out]
    with_reducible refine (szNd t _ _ _ _ (Ha.out.up KW.out) (by omega) (by omega)).mono ?_
    rintro e w' ⟨rfl, rfl⟩
    rw [Ea.out]
    go_wp2_with fail
    with_reducible refine CS.out.mono ?_
    rintro e w1 ⟨rfl, hk⟩
    have K1 := Lib.hid (KW.out.trans hk)
    clear hk CS
    go_wp2
    go_ret
    exact ⟨rfl, K1.out⟩


set_option maxHeartbeats 12800000 in
set_option maxRecDepth 100000 in
theorem lawAll_small (D : DoesSpreadAll) (t : List Nd) (s : Spr) (v u : Value) (w : World) (ha : RdNd w w.heap.size v t) (hb : RdS w w.heap.size u s) (hn : t.length + s.told.length + s.work.length ≤ 1048576) :
    Calls Try.prog 8 #[v, u] w fun e w' => e = .returned (.bool true) ∧ Kept 0 0 w w' := by
  have Ha := Lib.hid ha
  obtain ⟨hv, lv, rfl, ⟨A1, q1, rfl, s2⟩, ⟨A2, q2, rfl, s3⟩⟩ := hb
  have Hb : Hid (RdS w w.heap.size (.agg #[.slice A1 s.told.length q1, .slice A2 s.work.length q2]) s) := ⟨_, _, rfl, ⟨A1, q1, rfl, s2⟩, ⟨A2, q2, rfl, s3⟩⟩
  clear s2 s3 ha
  have han : t.length ≤ 1048576 := by omega
  have hbt : s.told.length ≤ 1048576 := by omega
  have hbw : s.work.length ≤ 1048576 := by omega
  have st := hbt
  have sw := hbw
  have Ea : Hid (szF (1048576) t.length = 1048576 - t.length) := szF_pos (by omega)
  obtain ⟨N, hN⟩ : ∃ N, N = allS t s := ⟨_, rfl⟩
  have NL : N.told.length ≤ 1048576 ∧ N.work.length ≤ 1048576 := by rw [hN]; exact allS_len _ _
  have Nt := NL.1
  have Nw := NL.2
  have CS : Hid (∀ (x y : Value) (X : World), RdNd X X.heap.size x t → RdS X X.heap.size y s → Calls Try.prog 31 #[x, y] X fun e w' => ∃ z, e = .returned (z) ∧ OwnS w' X.heap.size w'.heap.size z N ∧ Kept 0 0 X w') := by
    intro x y X h1 h2
    have := all7_any t s x y X h1 h2
    rw [← hN] at this
    exact this
  have CI : Hid (∀ (x y : Value) (X : World), RdNd X X.heap.size x t → RdS X X.heap.size y s → Calls Try.prog 13 #[x, y] X fun e w' => ∃ z, e = .returned (z) ∧ OwnS w' X.heap.size w'.heap.size z N ∧ Kept 0 0 X w') := by
    intro x y X h1 h2
    have := D t s x y X h1 h2
    rw [← hN] at this
    exact this
  clear hN NL
  go_enter Try.func8, Try.ntmps8
  go_wp2_with fail
  obtain ⟨w1, hw⟩ : ∃ w1, w1 = w.alloc (.cells #[.slice A1 s.told.length q1, .slice A2 s.work.length q2] 43) := ⟨_, rfl⟩
  have hk : Kept 0 0 w w1 := by rw [hw]; exact Kept.alloc0 _ _
  have Na : Hid (Blk w1 w.heap.size 43 #[.slice A1 s.told.length q1, .slice A2 s.work.length q2]) := by show Blk _ _ _ _; rw [hw]; exact Blk.new _ _ _
  rw [← hw]
  have Ba := Na
  clear Na
  have y1 := Ba.out.lt
  have K1 := Lib.hid ((Kept.refl 0 0 w).trans hk)
  have z1 := hk.size
  clear hk hw
  have SZ : Hid ((0 : Int) ≤ 1048576 - t.length - s.told.length - s.work.length) := by show _ ≤ _; omega
  have sz := SZ.out
  with_reducible refine (szNd t _ _ _ _ (Ha.out.up K1.out) (by omega) (by omega)).mono ?_
  rintro e w' ⟨rfl, rfl⟩
  rw [Ea.out]
  have ca0 := bs0 Ba.out
  have ca1 := bs1 Ba.out
  go_wp2_with fail
  clear ca0 ca1
  with_reducible refine (szS_pos s _ _ _ _ (Hb.out.up K1.out) (by omega) (by omega)).mono ?_
  rintro e w2 ⟨rfl, hk⟩
  have Ra := Lib.hid (Ba.out.kept hk (.inl (Nat.le_refl _)))
  clear Ba
  have Ba := Ra
  clear Ra
  have K2 := Lib.hid (K1.out.trans hk)
  have z2 := hk.size
  clear hk K1
  go_upto_region 8 with fail
  go_cut [6] (fun p wx => SprAt w2 wx p N)
  case first =>
    go_region_held3 (fun w' => w'.cell? ⟨w.heap.size, 0, none⟩ = some (.slice A1 s.told.length q1) ∧ w'.cell? ⟨w.heap.size, 1, none⟩ = some (.slice A2 s.work.length q2))
      (first | with_reducible exact ⟨bs0 Ba.out.drew, bs1 Ba.out.drew⟩ | with_reducible exact ⟨bs0 (Ba.out.alloc (.cells #[.slice none 0 0, .slice none 0 0] 31)).drew, bs1 (Ba.out.alloc (.cells #[.slice none 0 0, .slice none 0 0] 31)).drew⟩ | with_reducible exact ⟨bs0 Y1, bs1 Y1⟩ | with_reducible exact ⟨bs0 (Y1.alloc (.cells #[.slice none 0 0, .slice none 0 0] 31)), bs1 (Y1.alloc (.cells #[.slice none 0 0, .slice none 0 0] 31))⟩ | with_reducible exact ⟨bs0 Y2, bs1 Y2⟩ | with_reducible exact ⟨bs0 (Y2.alloc (.cells #[.slice none 0 0, .slice none 0 0] 31)), bs1 (Y2.alloc (.cells #[.slice none 0 0, .slice none 0 0] 31))⟩ | with_reducible exact ⟨bs0 Y3, bs1 Y3⟩ | with_reducible exact ⟨bs0 (Y3.alloc _), bs1 (Y3.alloc _)⟩ | with_reducible exact ⟨bs0 ((Y3.far (by first | omega | (simp; done) | (simp; omega)) _).far (by first | omega | (simp; done) | (simp; omega)) _), bs1 ((Y3.far (by first | omega | (simp; done) | (simp; omega)) _).far (by first | omega | (simp; done) | (simp; omega)) _)⟩)
      (first
        | (go_at_call 22; (with_reducible refine (toNd t v w2.drew (Ha.out.up (K2.out.trans (Kept.refl 0 0 w2).drew)) han).mono ?_); rintro e w1' ⟨u1, rfl, o1, hk⟩; have k1 : Kept 0 0 w2 w1' := (Kept.refl 0 0 w2).drew.trans hk; have Y1 := Ba.out.kept k1 (.inl (Nat.le_refl _)); have z1' := k1.size; clear hk)
        | (go_at_call 22; (with_reducible refine (toNd t v (w2.alloc (.cells #[.slice none 0 0, .slice none 0 0] 31)).drew (Ha.out.up (K2.out.trans (Kept.alloc0 w2 (.cells #[.slice none 0 0, .slice none 0 0] 31)).drew)) han).mono ?_); rintro e w1' ⟨u1, rfl, o1, hk⟩; have k1 : Kept 0 0 w2 w1' := (Kept.alloc0 w2 (.cells #[.slice none 0 0, .slice none 0 0] 31)).drew.trans hk; have Y1 := Ba.out.kept k1 (.inl (Nat.le_refl _)); have z1' := k1.size; have X1 : Blk w1' w2.heap.size 31 #[.slice none 0 0, .slice none 0 0] := (Blk.new w2 31 #[.slice none 0 0, .slice none 0 0]).drew.kept hk (.inl (Nat.le_refl _)); clear hk)
        | (go_at_call 23; have _t := X1; (with_reducible refine (toS s _ w1' (Hb.out.up (K2.out.trans k1)) hbt hbw).mono ?_); rintro e w2' ⟨u2, rfl, p2, hk⟩; have o2 := o1.kept hk (.inl (Nat.le_refl _)); have k2 : Kept 0 0 w2 w2' := k1.trans hk; have z2' : w1'.heap.size ≤ w2'.heap.size := (hk).size; have Y2 := Ba.out.kept k2 (.inl (Nat.le_refl _)); have X2 := X1.kept hk (.inl (Nat.le_refl _)); have rb : w2.heap.size ≤ w2.heap.size := Nat.le_refl _; clear hk)
        | (go_at_call 23; (with_reducible refine (toS s _ (w1'.alloc (.cells #[.slice none 0 0, .slice none 0 0] 31)) (Hb.out.up (K2.out.trans (k1.alloc (.cells #[.slice none 0 0, .slice none 0 0] 31)))) hbt hbw).mono ?_); rintro e w2' ⟨u2, rfl, p2, hk⟩; have o2 := o1.kept ((Kept.alloc0 w1' (.cells #[.slice none 0 0, .slice none 0 0] 31)).trans hk) (.inl (Nat.le_refl _)); have k2 : Kept 0 0 w2 w2' := k1.trans ((Kept.alloc0 w1' (.cells #[.slice none 0 0, .slice none 0 0] 31)).trans hk); have z2' : w1'.heap.size ≤ w2'.heap.size := (((Kept.alloc0 w1' (.cells #[.slice none 0 0, .slice none 0 0] 31)).trans hk)).size; have Y2 := Ba.out.kept k2 (.inl (Nat.le_refl _)); have X2 : Blk w2' w1'.heap.size 31 #[.slice none 0 0, .slice none 0 0] := (Blk.new w1' 31 #[.slice none 0 0, .slice none 0 0]).kept hk (.inl (Nat.le_refl _)); have rb : w2.heap.size ≤ w1'.heap.size := z1'; clear hk)
        | (go_at_call 23; (with_reducible refine (toS s _ w1' (Hb.out.up (K2.out.trans k1)) hbt hbw).mono ?_); rintro e w2' ⟨u2, rfl, p2, hk⟩; have o2 := o1.kept hk (.inl (Nat.le_refl _)); have k2 : Kept 0 0 w2 w2' := k1.trans hk; have z2' : w1'.heap.size ≤ w2'.heap.size := (hk).size; have Y2 := Ba.out.kept k2 (.inl (Nat.le_refl _)); clear hk)
        | (go_at_call 31; have _t := X2; (with_reducible refine (CS.out _ _ w2' (o2.rdW z2') (p2.rdW (Nat.le_refl _))).mono ?_); rintro e w3' ⟨_, rfl, ⟨_, _, rfl, ⟨DAZ, dAZ, rfl, oa⟩, ⟨DBZ, dBZ, rfl, ob⟩⟩, hk⟩; have k3 : Kept 0 0 w2 w3' := k2.trans hk; have z3' : w2'.heap.size ≤ w3'.heap.size := (hk).size; have Y3 := Ba.out.kept k3 (.inl (Nat.le_refl _)); have OO : Hid (OwnS w3' w2.heap.size w3'.heap.size (.agg #[.slice DAZ N.told.length dAZ, .slice DBZ N.work.length dBZ]) N) := OwnS.wide ⟨_, _, rfl, ⟨DAZ, dAZ, rfl, oa⟩, ⟨DBZ, dBZ, rfl, ob⟩⟩ (by omega) (Nat.le_refl _); have HY3 := Lib.hid k3; have X3 := X2.kept hk (.inl (Nat.le_refl _)); have q0 := bs0 X3; have q1 := bs1 X3; have q2 := X3.frozen 0; have q3 := X3.frozen 1; have HX3 := Lib.hid X3; clear hk oa ob)
        | (go_at_call 31; (with_reducible refine (CS.out _ _ (w2'.alloc (.cells #[.slice none 0 0, .slice none 0 0] 31)) ((o2.kept (Kept.alloc0 w2' (.cells #[.slice none 0 0, .slice none 0 0] 31)) (.inl (Nat.le_refl _))).rdW (by simp; omega)) ((p2.kept (Kept.alloc0 w2' (.cells #[.slice none 0 0, .slice none 0 0] 31)) (.inl (Nat.le_refl _))).rdW (by simp))).mono ?_); rintro e w3' ⟨_, rfl, ⟨_, _, rfl, ⟨DAZ, dAZ, rfl, oa⟩, ⟨DBZ, dBZ, rfl, ob⟩⟩, hk⟩; have k3 : Kept 0 0 w2 w3' := k2.trans ((Kept.alloc0 w2' (.cells #[.slice none 0 0, .slice none 0 0] 31)).trans hk); have z3' : w2'.heap.size ≤ w3'.heap.size := (((Kept.alloc0 w2' (.cells #[.slice none 0 0, .slice none 0 0] 31)).trans hk)).size; have Y3 := Ba.out.kept k3 (.inl (Nat.le_refl _)); have OO : Hid (OwnS w3' w2.heap.size w3'.heap.size (.agg #[.slice DAZ N.told.length dAZ, .slice DBZ N.work.length dBZ]) N) := OwnS.wide ⟨_, _, rfl, ⟨DAZ, dAZ, rfl, oa⟩, ⟨DBZ, dBZ, rfl, ob⟩⟩ (by simp; omega) (Nat.le_refl _); have HY3 := Lib.hid k3; have X3 : Blk w3' w2'.heap.size 31 #[.slice none 0 0, .slice none 0 0] := (Blk.new w2' 31 #[.slice none 0 0, .slice none 0 0]).kept hk (.inl (Nat.le_refl _)); have rb : w2.heap.size ≤ w2'.heap.size := Nat.le_trans z1' z2'; have q0 := bs0 X3; have q1 := bs1 X3; have q2 := X3.frozen 0; have q3 := X3.frozen 1; have HX3 := Lib.hid X3; clear hk oa ob)
        | (go_at_call 31; (with_reducible refine (CS.out _ _ w2' (o2.rdW z2') (p2.rdW (Nat.le_refl _))).mono ?_); rintro e w3' ⟨_, rfl, ⟨_, _, rfl, ⟨DAZ, dAZ, rfl, oa⟩, ⟨DBZ, dBZ, rfl, ob⟩⟩, hk⟩; have k3 : Kept 0 0 w2 w3' := k2.trans hk; have z3' : w2'.heap.size ≤ w3'.heap.size := (hk).size; have Y3 := Ba.out.kept k3 (.inl (Nat.le_refl _)); have OO : Hid (OwnS w3' w2.heap.size w3'.heap.size (.agg #[.slice DAZ N.told.length dAZ, .slice DBZ N.work.length dBZ]) N) := OwnS.wide ⟨_, _, rfl, ⟨DAZ, dAZ, rfl, oa⟩, ⟨DBZ, dBZ, rfl, ob⟩⟩ (by omega) (Nat.le_refl _); have HY3 := Lib.hid k3; clear hk oa ob))
    all_goals (go_wp2_with fail; go_meet)
    all_goals first
      | exact sprAt_new OO.out HY3.out
      | exact sprAt_set HX3.out OO.out HY3.out rb
  case rest =>
    obtain ⟨w3, rfl⟩ : ∃ w3 : World, w3 = wc := ⟨_, rfl⟩
    obtain ⟨rw, DAW, DBW, dAW, dBW, rfl, hrw, hb, ho, hk⟩ := hcut
    have Ra := Lib.hid (Ba.out.kept hk (.inl (Nat.le_refl _)))
    clear Ba
    have Ba := Ra
    clear Ra
    have OW := Lib.hid ho
    have Bw := Lib.hid hb
    have yw := hb.lt
    have K3 := Lib.hid (K2.out.trans hk)
    have z3 := hk.size
    clear hk hb ho K2
    clear CS
    go_wp2_with fail
    with_reducible refine (toNd t v _ (Ha.out.up K3.out) han).mono ?_
    rintro e w4 ⟨ux, rfl, ho, hk⟩
    have PW := Lib.hid (OW.out.kept hk (.inl (Nat.le_refl _)))
    have Ra := Lib.hid (Ba.out.kept hk (.inl (Nat.le_refl _)))
    have Rw := Lib.hid (Bw.out.kept hk (.inl (Nat.le_refl _)))
    clear OW
    have OW := PW
    clear PW
    clear Ba
    have Ba := Ra
    clear Ra
    clear Bw
    have Bw := Rw
    clear Rw
    have Ox := Lib.hid ho
    have K4 := Lib.hid (K3.out.trans hk)
    have z4 := hk.size
    clear hk ho K3
    have ca0 := bs0 Ba.out
    have ca1 := bs1 Ba.out
    go_wp2_with fail
    clear ca0 ca1
    with_reducible refine (toS s _ _ (Hb.out.up K4.out) hbt hbw).mono ?_
    rintro e w5 ⟨_, rfl, ⟨_, _, rfl, ⟨DAy, dAy, rfl, oa⟩, ⟨DBy, dBy, rfl, ob⟩⟩, hk⟩
    have PW := Lib.hid (OW.out.kept hk (.inl (Nat.le_refl _)))
    have Px := Lib.hid (Ox.out.kept hk (.inl (Nat.le_refl _)))
    have Ra := Lib.hid (Ba.out.kept hk (.inl (Nat.le_refl _)))
    have Rw := Lib.hid (Bw.out.kept hk (.inl (Nat.le_refl _)))
    clear OW
    have OW := PW
    clear PW
    clear Ox
    have Ox := Px
    clear Px
    clear Ba
    have Ba := Ra
    clear Ra
    clear Bw
    have Bw := Rw
    clear Rw
    have Oy : Hid (OwnS w5 w4.heap.size w5.heap.size (.agg #[.slice DAy s.told.length dAy, .slice DBy s.work.length dBy]) s) := ⟨_, _, rfl, ⟨DAy, dAy, rfl, oa⟩, ⟨DBy, dBy, rfl, ob⟩⟩
    have K5 := Lib.hid (K4.out.trans hk)
    have z5 := hk.size
    clear hk oa ob K4
    go_wp2_with fail
    obtain ⟨w6, hw⟩ : ∃ w6, w6 = w5.alloc (.cells #[.slice DAy s.told.length dAy, .slice DBy s.work.length dBy] 31) := ⟨_, rfl⟩
    have hk : Kept 0 0 w5 w6 := by rw [hw]; exact Kept.alloc0 _ _
    have Nx : Hid (Blk w6 w5.heap.size 31 #[.slice DAy s.told.length dAy, .slice DBy s.work.length dBy]) := by show Blk _ _ _ _; rw [hw]; exact Blk.new _ _ _
    rw [← hw]
    have PW := Lib.hid (OW.out.kept hk (.inl (Nat.le_refl _)))
    have Px := Lib.hid (Ox.out.kept hk (.inl (Nat.le_refl _)))
    have Py := Lib.hid (Oy.out.kept hk (.inl (Nat.le_refl _)))
    have Ra := Lib.hid (Ba.out.kept hk (.inl (Nat.le_refl _)))
    have Rw := Lib.hid (Bw.out.kept hk (.inl (Nat.le_refl _)))
    clear OW
    have OW := PW
    clear PW
    clear Ox
    have Ox := Px
    clear Px
    clear Oy
    have Oy := Py
    clear Py
    clear Ba
    have Ba := Ra
    clear Ra
    clear Bw
    have Bw := Rw
    clear Rw
    have Bx := Nx
    clear Nx
    have y6 := Bx.out.lt
    have K6 := Lib.hid (K5.out.trans hk)
    have z6 := hk.size
    clear hk hw K5
    with_reducible refine (CI.out _ _ _ (Ox.out.rdW (by omega)) (Oy.out.rdW (by omega))).mono ?_
    rintro e w7 ⟨_, rfl, ⟨_, _, rfl, ⟨DAG, dAG, rfl, oa⟩, ⟨DBG, dBG, rfl, ob⟩⟩, hk⟩
    have PW := Lib.hid (OW.out.kept hk (.inl (Nat.le_refl _)))
    have Px := Lib.hid (Ox.out.kept hk (.inl (Nat.le_refl _)))
    have Py := Lib.hid (Oy.out.kept hk (.inl (Nat.le_refl _)))
    have Ra := Lib.hid (Ba.out.kept hk (.inl (Nat.le_refl _)))
    have Rw := Lib.hid (Bw.out.kept hk (.inl (Nat.le_refl _)))
    have Rx := Lib.hid (Bx.out.kept hk (.inl (Nat.le_refl _)))
    clear OW
    have OW := PW
    clear PW
    clear Ox
    have Ox := Px
    clear Px
    clear Oy
    have Oy := Py
    clear Py
    clear Ba
    have Ba := Ra
    clear Ra
    clear Bw
    have Bw := Rw
    clear Rw
    clear Bx
    have Bx := Rx
    clear Rx
    have OG : Hid (OwnS w7 w6.heap.size w7.heap.size (.agg #[.slice DAG N.told.length dAG, .slice DBG N.work.length dBG]) N) := ⟨_, _, rfl, ⟨DAG, dAG, rfl, oa⟩, ⟨DBG, dBG, rfl, ob⟩⟩
    have K7 := Lib.hid (K6.out.trans hk)
    have z7 := hk.size
    clear hk oa ob K6
    have cw0 := bs0 Bw.out
    have cw1 := bs1 Bw.out
    have lw : rw < w7.heap.size := Bw.out.lt
    go_wp2_with fail
    clear cw0 cw1
    clear lw
    obtain ⟨w8, hw⟩ : ∃ w8, w8 = w7.alloc (.cells #[.slice DAG N.told.length dAG, .slice DBG N.work.length dBG] 31) := ⟨_, rfl⟩
    have hk : Kept 0 0 w7 w8 := by rw [hw]; exact Kept.alloc0 _ _
    have Ng : Hid (Blk w8 w7.heap.size 31 #[.slice DAG N.told.length dAG, .slice DBG N.work.length dBG]) := by show Blk _ _ _ _; rw [hw]; exact Blk.new _ _ _
    rw [← hw]
    have PW := Lib.hid (OW.out.kept hk (.inl (Nat.le_refl _)))
    have Px := Lib.hid (Ox.out.kept hk (.inl (Nat.le_refl _)))
    have Py := Lib.hid (Oy.out.kept hk (.inl (Nat.le_refl _)))
    have PG := Lib.hid (OG.out.kept hk (.inl (Nat.le_refl _)))
    have Ra := Lib.hid (Ba.out.kept hk (.inl (Nat.le_refl _)))
    have Rw := Lib.hid (Bw.out.kept hk (.inl (Nat.le_refl _)))
    have Rx := Lib.hid (Bx.out.kept hk (.inl (Nat.le_refl _)))
    clear OW
    have OW := PW
    clear PW
    clear Ox
    have Ox := Px
    clear Px
    clear Oy
    have Oy := Py
    clear Py
    clear OG
    have OG := PG
    clear PG
    clear Ba
    have Ba := Ra
    clear Ra
    clear Bw
    have Bw := Rw
    clear Rw
    clear Bx
    have Bx := Rx
    clear Rx
    have Bg := Ng
    clear Ng
    have y8 := Bg.out.lt
    have K8 := Lib.hid (K7.out.trans hk)
    have z8 := hk.size
    clear hk hw K7
    with_reducible refine (eqS (N) _ _ _ (OG.out.rdW (by omega)) (OW.out.rdW (by omega))).mono ?_
    rintro e w9 ⟨rfl, hk⟩
    have PW := Lib.hid (OW.out.kept hk (.inl (Nat.le_refl _)))
    have Px := Lib.hid (Ox.out.kept hk (.inl (Nat.le_refl _)))
    have Py := Lib.hid (Oy.out.kept hk (.inl (Nat.le_refl _)))
    have PG := Lib.hid (OG.out.kept hk (.inl (Nat.le_refl _)))
    have Ra := Lib.hid (Ba.out.kept hk (.inl (Nat.le_refl _)))
    have Rw := Lib.hid (Bw.out.kept hk (.inl (Nat.le_refl _)))
    have Rx := Lib.hid (Bx.out.kept hk (.inl (Nat.le_refl _)))
    have Rg := Lib.hid (Bg.out.kept hk (.inl (Nat.le_refl _)))
    clear OW
    have OW := PW
    clear PW
    clear Ox
    have Ox := Px
    clear Px
    clear Oy
    have Oy := Py
    clear Py
    clear OG
    have OG := PG
    clear PG
    clear Ba
    have Ba := Ra
    clear Ra
    clear Bw
    have Bw := Rw
    clear Rw
    clear Bx
    have Bx := Rx
    clear Rx
    clear Bg
    have Bg := Rg
    clear Rg
    have K9 := Lib.hid (K8.out.trans hk)
    have z9 := hk.size
    clear hk K8
    go_wp2_with fail
    with_reducible refine (toNd t v _ (Ha.out.up K9.out) han).mono ?_
    rintro e w10 ⟨up, rfl, ho, hk⟩
    have PW := Lib.hid (OW.out.kept hk (.inl (Nat.le_refl _)))
    have Px := Lib.hid (Ox.out.kept hk (.inl (Nat.le_refl _)))
    have Py := Lib.hid (Oy.out.kept hk (.inl (Nat.le_refl _)))
    have PG := Lib.hid (OG.out.kept hk (.inl (Nat.le_refl _)))
    have Ra := Lib.hid (Ba.out.kept hk (.inl (Nat.le_refl _)))
    have Rw := Lib.hid (Bw.out.kept hk (.inl (Nat.le_refl _)))
    have Rx := Lib.hid (Bx.out.kept hk (.inl (Nat.le_refl _)))
    have Rg := Lib.hid (Bg.out.kept hk (.inl (Nat.le_refl _)))
    clear OW
    have OW := PW
    clear PW
    clear Ox
    have Ox := Px
    clear Px
    clear Oy
    have Oy := Py
    clear Py
    clear OG
    have OG := PG
    clear PG
    clear Ba
    have Ba := Ra
    clear Ra
    clear Bw
    have Bw := Rw
    clear Rw
    clear Bx
    have Bx := Rx
    clear Rx
    clear Bg
    have Bg := Rg
    clear Rg
    have Op := Lib.hid ho
    have K10 := Lib.hid (K9.out.trans hk)
    have z10 := hk.size
    clear hk ho K9
    go_wp2_with fail
    with_reducible refine (eqNd (t) _ _ _ (Ox.out.rdW (by omega)) (Op.out.rdW (by omega))).mono ?_
    rintro e w11 ⟨rfl, hk⟩
    have PW := Lib.hid (OW.out.kept hk (.inl (Nat.le_refl _)))
    have Px := Lib.hid (Ox.out.kept hk (.inl (Nat.le_refl _)))
    have Py := Lib.hid (Oy.out.kept hk (.inl (Nat.le_refl _)))
    have PG := Lib.hid (OG.out.kept hk (.inl (Nat.le_refl _)))
    have Pp := Lib.hid (Op.out.kept hk (.inl (Nat.le_refl _)))
    have Ra := Lib.hid (Ba.out.kept hk (.inl (Nat.le_refl _)))
    have Rw := Lib.hid (Bw.out.kept hk (.inl (Nat.le_refl _)))
    have Rx := Lib.hid (Bx.out.kept hk (.inl (Nat.le_refl _)))
    have Rg := Lib.hid (Bg.out.kept hk (.inl (Nat.le_refl _)))
    clear OW
    have OW := PW
    clear PW
    clear Ox
    have Ox := Px
    clear Px
    clear Oy
    have Oy := Py
    clear Py
    clear OG
    have OG := PG
    clear PG
    clear Op
    have Op := Pp
    clear Pp
    clear Ba
    have Ba := Ra
    clear Ra
    clear Bw
    have Bw := Rw
    clear Rw
    clear Bx
    have Bx := Rx
    clear Rx
    clear Bg
    have Bg := Rg
    clear Rg
    have K11 := Lib.hid (K10.out.trans hk)
    have z11 := hk.size
    clear hk K10
    clear Op
    go_upto_region 16 with fail
    go_region_held3 (fun w' => w'.cell? ⟨w5.heap.size, 0, none⟩ = some (.slice DAy s.told.length dAy) ∧ w'.cell? ⟨w5.heap.size, 1, none⟩ = some (.slice DBy s.work.length dBy) ∧ w'.cell? ⟨w.heap.size, 0, none⟩ = some (.slice A1 s.told.length q1) ∧ w'.cell? ⟨w.heap.size, 1, none⟩ = some (.slice A2 s.work.length q2))
      (first | with_reducible exact ⟨bs0 Bx.out.drew, bs1 Bx.out.drew, bs0 Ba.out.drew, bs1 Ba.out.drew⟩ | with_reducible exact ⟨bs0 Xx, bs1 Xx, bs0 Xa, bs1 Xa⟩ | with_reducible exact ⟨bs0 Yx, bs1 Yx, bs0 Ya, bs1 Ya⟩)
      (first | (go_at_call 23; (with_reducible refine (toS s _ w11.drew (Hb.out.up K11.out.drew) hbt hbw).mono ?_); rintro e w12 ⟨u1, rfl, oy, hk⟩; have k1 : Kept 0 0 w11 w12 := (Kept.refl 0 0 w11).drew.trans hk; have Xx := Bx.out.kept k1 (.inl (Nat.le_refl _)); have Xa := Ba.out.kept k1 (.inl (Nat.le_refl _)); have zz := k1.size; clear hk) | (go_at_call 26; (with_reducible refine (eqS s _ _ w12 ((Oy.out.kept k1 (.inl (Nat.le_refl _))).rdW (by omega)) (oy.rdW (Nat.le_refl _))).mono ?_); rintro e w13 ⟨rfl, hk⟩; have k2 : Kept 0 0 w11 w13 := k1.trans hk; have Yx := Bx.out.kept k2 (.inl (Nat.le_refl _)); have Ya := Ba.out.kept k2 (.inl (Nat.le_refl _)); have ks := Lib.hid k2; clear hk))
    clear Xx Xa Yx Ya k1 k2 oy zz
    have PW := Lib.hid (OW.out.kept ks.out (.inl (Nat.le_refl _)))
    have Px := Lib.hid (Ox.out.kept ks.out (.inl (Nat.le_refl _)))
    have Py := Lib.hid (Oy.out.kept ks.out (.inl (Nat.le_refl _)))
    have PG := Lib.hid (OG.out.kept ks.out (.inl (Nat.le_refl _)))
    have Ra := Lib.hid (Ba.out.kept ks.out (.inl (Nat.le_refl _)))
    have Rw := Lib.hid (Bw.out.kept ks.out (.inl (Nat.le_refl _)))
    have Rx := Lib.hid (Bx.out.kept ks.out (.inl (Nat.le_refl _)))
    have Rg := Lib.hid (Bg.out.kept ks.out (.inl (Nat.le_refl _)))
    clear OW
    have OW := PW
    clear PW
    clear Ox
    have Ox := Px
    clear Px
    clear Oy
    have Oy := Py
    clear Py
    clear OG
    have OG := PG
    clear PG
    clear Ba
    have Ba := Ra
    clear Ra
    clear Bw
    have Bw := Rw
    clear Rw
    clear Bx
    have Bx := Rx
    clear Rx
    clear Bg
    have Bg := Rg
    clear Rg
    have K13 := Lib.hid (K11.out.trans ks.out)
    have z13 := ks.out.size
    clear ks K11
    go_wp2_with fail
    with_reducible refine (markNd 1 t _ w3.heap.size w4.heap.size _ Ox.out (by omega) (by omega) han).mono ?_
    rintro e w14 ⟨rfl, ho, hk⟩
    have PW := Lib.hid (OW.out.kept hk (by omega))
    have Py := Lib.hid (Oy.out.kept hk (by omega))
    have PG := Lib.hid (OG.out.kept hk (by omega))
    have Ra := Lib.hid (Ba.out.kept hk (by omega))
    have Rw := Lib.hid (Bw.out.kept hk (by omega))
    have Rx := Lib.hid (Bx.out.kept hk (by omega))
    have Rg := Lib.hid (Bg.out.kept hk (by omega))
    clear OW
    have OW := PW
    clear PW
    clear Oy
    have Oy := Py
    clear Py
    clear OG
    have OG := PG
    clear PG
    clear Ba
    have Ba := Ra
    clear Ra
    clear Bw
    have Bw := Rw
    clear Rw
    clear Bx
    have Bx := Rx
    clear Rx
    clear Bg
    have Bg := Rg
    clear Rg
    clear Ox
    have Ox := Lib.hid ho
    have K14 := Lib.hid (K13.out.trans2 hk (.inr (by omega)))
    have z14 := hk.size
    clear hk ho K13
    have k0 : (0 : Int) ≤ 1 + 5 * (t.length : Int) := by omega
    obtain ⟨mS, hmS⟩ : ∃ mS, mS = markSN (1 + 5 * (t.length : Int)) s := ⟨_, rfl⟩
    obtain ⟨mN, hmN⟩ : ∃ mN, mN = markSN 1 N := ⟨_, rfl⟩
    have pS : 0 ≤ mS := by rw [hmS]; unfold markSN; omega
    have pN : 0 ≤ mN := by rw [hmN]; unfold markSN; omega
    have HmS := Lib.hid hmS.symm
    have HmN := Lib.hid hmN.symm
    clear hmS hmN
    have cx0 := bs0 Bx.out
    have cx1 := bs1 Bx.out
    go_wp2_with fail
    clear cx0 cx1
    with_reducible refine (markS (1 + 5 * (t.length : Int)) s _ w4.heap.size w5.heap.size _ Oy.out (by omega) (by omega) st sw (by omega)).mono ?_
    rintro e w15 ⟨rfl, ho, hk⟩
    have PW := Lib.hid (OW.out.kept hk (by omega))
    have Px := Lib.hid (Ox.out.kept hk (by omega))
    have PG := Lib.hid (OG.out.kept hk (by omega))
    have Ra := Lib.hid (Ba.out.kept hk (by omega))
    have Rw := Lib.hid (Bw.out.kept hk (by omega))
    have Rx := Lib.hid (Bx.out.kept hk (by omega))
    have Rg := Lib.hid (Bg.out.kept hk (by omega))
    clear OW
    have OW := PW
    clear PW
    clear Ox
    have Ox := Px
    clear Px
    clear OG
    have OG := PG
    clear PG
    clear Ba
    have Ba := Ra
    clear Ra
    clear Bw
    have Bw := Rw
    clear Rw
    clear Bx
    have Bx := Rx
    clear Rx
    clear Bg
    have Bg := Rg
    clear Rg
    clear Oy
    have Oy := Lib.hid ho
    have K15 := Lib.hid (K14.out.trans2 hk (.inr (by omega)))
    have z15 := hk.size
    clear hk ho K14
    rw [HmS.out]
    have cg0 := bs0 Bg.out
    have cg1 := bs1 Bg.out
    have cw0 := bs0 Bw.out
    have cw1 := bs1 Bw.out
    go_wp2_with fail
    clear cg0 cg1 cw0 cw1
    with_reducible refine (eqS (N) _ _ _ (OG.out.rdW (by omega)) (OW.out.rdW (by omega))).mono ?_
    rintro e w16 ⟨rfl, hk⟩
    have PW := Lib.hid (OW.out.kept hk (.inl (Nat.le_refl _)))
    have Px := Lib.hid (Ox.out.kept hk (.inl (Nat.le_refl _)))
    have Py := Lib.hid (Oy.out.kept hk (.inl (Nat.le_refl _)))
    have PG := Lib.hid (OG.out.kept hk (.inl (Nat.le_refl _)))
    have Ra := Lib.hid (Ba.out.kept hk (.inl (Nat.le_refl _)))
    have Rw := Lib.hid (Bw.out.kept hk (.inl (Nat.le_refl _)))
    have Rx := Lib.hid (Bx.out.kept hk (.inl (Nat.le_refl _)))
    have Rg := Lib.hid (Bg.out.kept hk (.inl (Nat.le_refl _)))
    clear OW
    have OW := PW
    clear PW
    clear Ox
    have Ox := Px
    clear Px
    clear Oy
    have Oy := Py
    clear Py
    clear OG
    have OG := PG
    clear PG
    clear Ba
    have Ba := Ra
    clear Ra
    clear Bw
    have Bw := Rw
    clear Rw
    clear Bx
    have Bx := Rx
    clear Rx
    clear Bg
    have Bg := Rg
    clear Rg
    have K16 := Lib.hid (K15.out.trans hk)
    have z16 := hk.size
    clear hk K15
    have cg0 := bs0 Bg.out
    have cg1 := bs1 Bg.out
    go_wp2_with fail
    clear cg0 cg1
    with_reducible refine (markS (1) N _ w6.heap.size w7.heap.size _ OG.out (by omega) (by omega) Nt Nw (by omega)).mono ?_
    rintro e w17 ⟨rfl, ho, hk⟩
    have PW := Lib.hid (OW.out.kept hk (by omega))
    have Px := Lib.hid (Ox.out.kept hk (by omega))
    have Py := Lib.hid (Oy.out.kept hk (by omega))
    have Ra := Lib.hid (Ba.out.kept hk (by omega))
    have Rw := Lib.hid (Bw.out.kept hk (by omega))
    have Rx := Lib.hid (Bx.out.kept hk (by omega))
    have Rg := Lib.hid (Bg.out.kept hk (by omega))
    clear OW
    have OW := PW
    clear PW
    clear Ox
    have Ox := Px
    clear Px
    clear Oy
    have Oy := Py
    clear Py
    clear Ba
    have Ba := Ra
    clear Ra
    clear Bw
    have Bw := Rw
    clear Rw
    clear Bx
    have Bx := Rx
    clear Rx
    clear Bg
    have Bg := Rg
    clear Rg
    clear OG
    have OG := Lib.hid ho
    have K17 := Lib.hid (K16.out.trans2 hk (.inr (by omega)))
    have z17 := hk.size
    clear hk ho K16
    rw [HmN.out]
    have cg0 := bs0 Bg.out
    have cg1 := bs1 Bg.out
    go_wp2_with fail
    clear cg0 cg1
    with_reducible refine (heldS 1 N _ _ w7.heap.size (by omega) OG.out.rd (by omega) (by omega) Nt Nw).mono ?_
    rintro e w18 ⟨rfl, hk⟩
    have PW := Lib.hid (OW.out.kept hk (.inl (Nat.le_refl _)))
    have Px := Lib.hid (Ox.out.kept hk (.inl (Nat.le_refl _)))
    have Py := Lib.hid (Oy.out.kept hk (.inl (Nat.le_refl _)))
    have PG := Lib.hid (OG.out.kept hk (.inl (Nat.le_refl _)))
    have Ra := Lib.hid (Ba.out.kept hk (.inl (Nat.le_refl _)))
    have Rw := Lib.hid (Bw.out.kept hk (.inl (Nat.le_refl _)))
    have Rx := Lib.hid (Bx.out.kept hk (.inl (Nat.le_refl _)))
    have Rg := Lib.hid (Bg.out.kept hk (.inl (Nat.le_refl _)))
    clear OW
    have OW := PW
    clear PW
    clear Ox
    have Ox := Px
    clear Px
    clear Oy
    have Oy := Py
    clear Py
    clear OG
    have OG := PG
    clear PG
    clear Ba
    have Ba := Ra
    clear Ra
    clear Bw
    have Bw := Rw
    clear Rw
    clear Bx
    have Bx := Rx
    clear Rx
    clear Bg
    have Bg := Rg
    clear Rg
    have K18 := Lib.hid (K17.out.trans hk)
    have z18 := hk.size
    clear hk K17
    rw [HmN.out]
    have qm : (mN != mN) = false := by simp
    clear Ox
    clear Oy
    go_upto_region 31 with fail
    go_cut [13] (fun p wx => SprAt w18 wx p N)
    case first =>
      go_region_held3 (fun w' => w'.cell? ⟨w.heap.size, 0, none⟩ = some (.slice A1 s.told.length q1) ∧ w'.cell? ⟨w.heap.size, 1, none⟩ = some (.slice A2 s.work.length q2))
        (first | with_reducible exact ⟨bs0 Ba.out.drew, bs1 Ba.out.drew⟩ | with_reducible exact ⟨bs0 (Ba.out.alloc (.cells #[.slice none 0 0, .slice none 0 0] 31)).drew, bs1 (Ba.out.alloc (.cells #[.slice none 0 0, .slice none 0 0] 31)).drew⟩ | with_reducible exact ⟨bs0 Y1, bs1 Y1⟩ | with_reducible exact ⟨bs0 (Y1.alloc (.cells #[.slice none 0 0, .slice none 0 0] 31)), bs1 (Y1.alloc (.cells #[.slice none 0 0, .slice none 0 0] 31))⟩ | with_reducible exact ⟨bs0 Y2, bs1 Y2⟩ | with_reducible exact ⟨bs0 (Y2.alloc (.cells #[.slice none 0 0, .slice none 0 0] 31)), bs1 (Y2.alloc (.cells #[.slice none 0 0, .slice none 0 0] 31))⟩ | with_reducible exact ⟨bs0 Y3, bs1 Y3⟩ | with_reducible exact ⟨bs0 (Y3.alloc _), bs1 (Y3.alloc _)⟩ | with_reducible exact ⟨bs0 ((Y3.far (by first | omega | (simp; done) | (simp; omega)) _).far (by first | omega | (simp; done) | (simp; omega)) _), bs1 ((Y3.far (by first | omega | (simp; done) | (simp; omega)) _).far (by first | omega | (simp; done) | (simp; omega)) _)⟩)
        (first
          | (go_at_call 22; (with_reducible refine (toNd t v w18.drew (Ha.out.up (K18.out.trans (Kept.refl 0 0 w18).drew)) han).mono ?_); rintro e w1' ⟨u1, rfl, o1, hk⟩; have k1 : Kept 0 0 w18 w1' := (Kept.refl 0 0 w18).drew.trans hk; have Y1 := Ba.out.kept k1 (.inl (Nat.le_refl _)); have z1' := k1.size; clear hk)
          | (go_at_call 22; (with_reducible refine (toNd t v (w18.alloc (.cells #[.slice none 0 0, .slice none 0 0] 31)).drew (Ha.out.up (K18.out.trans (Kept.alloc0 w18 (.cells #[.slice none 0 0, .slice none 0 0] 31)).drew)) han).mono ?_); rintro e w1' ⟨u1, rfl, o1, hk⟩; have k1 : Kept 0 0 w18 w1' := (Kept.alloc0 w18 (.cells #[.slice none 0 0, .slice none 0 0] 31)).drew.trans hk; have Y1 := Ba.out.kept k1 (.inl (Nat.le_refl _)); have z1' := k1.size; have X1 : Blk w1' w18.heap.size 31 #[.slice none 0 0, .slice none 0 0] := (Blk.new w18 31 #[.slice none 0 0, .slice none 0 0]).drew.kept hk (.inl (Nat.le_refl _)); clear hk)
          | (go_at_call 23; have _t := X1; (with_reducible refine (toS s _ w1' (Hb.out.up (K18.out.trans k1)) hbt hbw).mono ?_); rintro e w2' ⟨u2, rfl, p2, hk⟩; have o2 := o1.kept hk (.inl (Nat.le_refl _)); have k2 : Kept 0 0 w18 w2' := k1.trans hk; have z2' : w1'.heap.size ≤ w2'.heap.size := (hk).size; have Y2 := Ba.out.kept k2 (.inl (Nat.le_refl _)); have X2 := X1.kept hk (.inl (Nat.le_refl _)); have rb : w18.heap.size ≤ w18.heap.size := Nat.le_refl _; clear hk)
          | (go_at_call 23; (with_reducible refine (toS s _ (w1'.alloc (.cells #[.slice none 0 0, .slice none 0 0] 31)) (Hb.out.up (K18.out.trans (k1.alloc (.cells #[.slice none 0 0, .slice none 0 0] 31)))) hbt hbw).mono ?_); rintro e w2' ⟨u2, rfl, p2, hk⟩; have o2 := o1.kept ((Kept.alloc0 w1' (.cells #[.slice none 0 0, .slice none 0 0] 31)).trans hk) (.inl (Nat.le_refl _)); have k2 : Kept 0 0 w18 w2' := k1.trans ((Kept.alloc0 w1' (.cells #[.slice none 0 0, .slice none 0 0] 31)).trans hk); have z2' : w1'.heap.size ≤ w2'.heap.size := (((Kept.alloc0 w1' (.cells #[.slice none 0 0, .slice none 0 0] 31)).trans hk)).size; have Y2 := Ba.out.kept k2 (.inl (Nat.le_refl _)); have X2 : Blk w2' w1'.heap.size 31 #[.slice none 0 0, .slice none 0 0] := (Blk.new w1' 31 #[.slice none 0 0, .slice none 0 0]).kept hk (.inl (Nat.le_refl _)); have rb : w18.heap.size ≤ w1'.heap.size := z1'; clear hk)
          | (go_at_call 23; (with_reducible refine (toS s _ w1' (Hb.out.up (K18.out.trans k1)) hbt hbw).mono ?_); rintro e w2' ⟨u2, rfl, p2, hk⟩; have o2 := o1.kept hk (.inl (Nat.le_refl _)); have k2 : Kept 0 0 w18 w2' := k1.trans hk; have z2' : w1'.heap.size ≤ w2'.heap.size := (hk).size; have Y2 := Ba.out.kept k2 (.inl (Nat.le_refl _)); clear hk)
          | (go_at_call 13; have _t := X2; (with_reducible refine (CI.out _ _ w2' (o2.rdW z2') (p2.rdW (Nat.le_refl _))).mono ?_); rintro e w3' ⟨_, rfl, ⟨_, _, rfl, ⟨DAZ, dAZ, rfl, oa⟩, ⟨DBZ, dBZ, rfl, ob⟩⟩, hk⟩; have k3 : Kept 0 0 w18 w3' := k2.trans hk; have z3' : w2'.heap.size ≤ w3'.heap.size := (hk).size; have Y3 := Ba.out.kept k3 (.inl (Nat.le_refl _)); have OO : Hid (OwnS w3' w18.heap.size w3'.heap.size (.agg #[.slice DAZ N.told.length dAZ, .slice DBZ N.work.length dBZ]) N) := OwnS.wide ⟨_, _, rfl, ⟨DAZ, dAZ, rfl, oa⟩, ⟨DBZ, dBZ, rfl, ob⟩⟩ (by omega) (Nat.le_refl _); have HY3 := Lib.hid k3; have X3 := X2.kept hk (.inl (Nat.le_refl _)); have q0 := bs0 X3; have q1 := bs1 X3; have q2 := X3.frozen 0; have q3 := X3.frozen 1; have HX3 := Lib.hid X3; clear hk oa ob)
          | (go_at_call 13; (with_reducible refine (CI.out _ _ (w2'.alloc (.cells #[.slice none 0 0, .slice none 0 0] 31)) ((o2.kept (Kept.alloc0 w2' (.cells #[.slice none 0 0, .slice none 0 0] 31)) (.inl (Nat.le_refl _))).rdW (by simp; omega)) ((p2.kept (Kept.alloc0 w2' (.cells #[.slice none 0 0, .slice none 0 0] 31)) (.inl (Nat.le_refl _))).rdW (by simp))).mono ?_); rintro e w3' ⟨_, rfl, ⟨_, _, rfl, ⟨DAZ, dAZ, rfl, oa⟩, ⟨DBZ, dBZ, rfl, ob⟩⟩, hk⟩; have k3 : Kept 0 0 w18 w3' := k2.trans ((Kept.alloc0 w2' (.cells #[.slice none 0 0, .slice none 0 0] 31)).trans hk); have z3' : w2'.heap.size ≤ w3'.heap.size := (((Kept.alloc0 w2' (.cells #[.slice none 0 0, .slice none 0 0] 31)).trans hk)).size; have Y3 := Ba.out.kept k3 (.inl (Nat.le_refl _)); have OO : Hid (OwnS w3' w18.heap.size w3'.heap.size (.agg #[.slice DAZ N.told.length dAZ, .slice DBZ N.work.length dBZ]) N) := OwnS.wide ⟨_, _, rfl, ⟨DAZ, dAZ, rfl, oa⟩, ⟨DBZ, dBZ, rfl, ob⟩⟩ (by simp; omega) (Nat.le_refl _); have HY3 := Lib.hid k3; have X3 : Blk w3' w2'.heap.size 31 #[.slice none 0 0, .slice none 0 0] := (Blk.new w2' 31 #[.slice none 0 0, .slice none 0 0]).kept hk (.inl (Nat.le_refl _)); have rb : w18.heap.size ≤ w2'.heap.size := Nat.le_trans z1' z2'; have q0 := bs0 X3; have q1 := bs1 X3; have q2 := X3.frozen 0; have q3 := X3.frozen 1; have HX3 := Lib.hid X3; clear hk oa ob)
          | (go_at_call 13; (with_reducible refine (CI.out _ _ w2' (o2.rdW z2') (p2.rdW (Nat.le_refl _))).mono ?_); rintro e w3' ⟨_, rfl, ⟨_, _, rfl, ⟨DAZ, dAZ, rfl, oa⟩, ⟨DBZ, dBZ, rfl, ob⟩⟩, hk⟩; have k3 : Kept 0 0 w18 w3' := k2.trans hk; have z3' : w2'.heap.size ≤ w3'.heap.size := (hk).size; have Y3 := Ba.out.kept k3 (.inl (Nat.le_refl _)); have OO : Hid (OwnS w3' w18.heap.size w3'.heap.size (.agg #[.slice DAZ N.told.length dAZ, .slice DBZ N.work.length dBZ]) N) := OwnS.wide ⟨_, _, rfl, ⟨DAZ, dAZ, rfl, oa⟩, ⟨DBZ, dBZ, rfl, ob⟩⟩ (by omega) (Nat.le_refl _); have HY3 := Lib.hid k3; clear hk oa ob))
      all_goals (go_wp2_with fail; go_meet)
      all_goals first
        | exact sprAt_new OO.out HY3.out
        | exact sprAt_set HX3.out OO.out HY3.out rb
    case rest =>
      obtain ⟨w19, rfl⟩ : ∃ w19 : World, w19 = wc := ⟨_, rfl⟩
      obtain ⟨rq, DAQ, DBQ, dAQ, dBQ, rfl, hrq, hb, ho, hk⟩ := hcut
      have PW := Lib.hid (OW.out.kept hk (.inl (Nat.le_refl _)))
      have PG := Lib.hid (OG.out.kept hk (.inl (Nat.le_refl _)))
      have Ra := Lib.hid (Ba.out.kept hk (.inl (Nat.le_refl _)))
      have Rw := Lib.hid (Bw.out.kept hk (.inl (Nat.le_refl _)))
      have Rx := Lib.hid (Bx.out.kept hk (.inl (Nat.le_refl _)))
      have Rg := Lib.hid (Bg.out.kept hk (.inl (Nat.le_refl _)))
      clear OW
      have OW := PW
      clear PW
      clear OG
      have OG := PG
      clear PG
      clear Ba
      have Ba := Ra
      clear Ra
      clear Bw
      have Bw := Rw
      clear Rw
      clear Bx
      have Bx := Rx
      clear Rx
      clear Bg
      have Bg := Rg
      clear Rg
      have OQ := Lib.hid ho
      have Bq := Lib.hid hb
      have yq := hb.lt
      have K19 := Lib.hid (K18.out.trans hk)
      have z19 := hk.size
      clear hk hb ho K18
      have cq0 := bs0 Bq.out
      have cq1 := bs1 Bq.out
      have cw0 := bs0 Bw.out
      have cw1 := bs1 Bw.out
      go_wp2_with fail
      clear cq0 cq1 cw0 cw1
      with_reducible refine (eqS (N) _ _ _ (OQ.out.rdW (by omega)) (OW.out.rdW (by omega))).mono ?_
      rintro e w20 ⟨rfl, hk⟩
      have PW := Lib.hid (OW.out.kept hk (.inl (Nat.le_refl _)))
      have PG := Lib.hid (OG.out.kept hk (.inl (Nat.le_refl _)))
      have PQ := Lib.hid (OQ.out.kept hk (.inl (Nat.le_refl _)))
      have Ra := Lib.hid (Ba.out.kept hk (.inl (Nat.le_refl _)))
      have Rw := Lib.hid (Bw.out.kept hk (.inl (Nat.le_refl _)))
      have Rx := Lib.hid (Bx.out.kept hk (.inl (Nat.le_refl _)))
      have Rg := Lib.hid (Bg.out.kept hk (.inl (Nat.le_refl _)))
      have Rq := Lib.hid (Bq.out.kept hk (.inl (Nat.le_refl _)))
      clear OW
      have OW := PW
      clear PW
      clear OG
      have OG := PG
      clear PG
      clear OQ
      have OQ := PQ
      clear PQ
      clear Ba
      have Ba := Ra
      clear Ra
      clear Bw
      have Bw := Rw
      clear Rw
      clear Bx
      have Bx := Rx
      clear Rx
      clear Bg
      have Bg := Rg
      clear Rg
      clear Bq
      have Bq := Rq
      clear Rq
      have K20 := Lib.hid (K19.out.trans hk)
      have z20 := hk.size
      clear hk K19
      have cg0 := bs0 Bg.out
      have cg1 := bs1 Bg.out
      go_wp2_with fail
      clear cg0 cg1
      with_reducible refine (heldS 1 N _ _ w7.heap.size (by omega) OG.out.rd (by omega) (by omega) Nt Nw).mono ?_
      rintro e w21 ⟨rfl, hk⟩
      have PW := Lib.hid (OW.out.kept hk (.inl (Nat.le_refl _)))
      have PG := Lib.hid (OG.out.kept hk (.inl (Nat.le_refl _)))
      have PQ := Lib.hid (OQ.out.kept hk (.inl (Nat.le_refl _)))
      have Ra := Lib.hid (Ba.out.kept hk (.inl (Nat.le_refl _)))
      have Rw := Lib.hid (Bw.out.kept hk (.inl (Nat.le_refl _)))
      have Rx := Lib.hid (Bx.out.kept hk (.inl (Nat.le_refl _)))
      have Rg := Lib.hid (Bg.out.kept hk (.inl (Nat.le_refl _)))
      have Rq := Lib.hid (Bq.out.kept hk (.inl (Nat.le_refl _)))
      clear OW
      have OW := PW
      clear PW
      clear OG
      have OG := PG
      clear PG
      clear OQ
      have OQ := PQ
      clear PQ
      clear Ba
      have Ba := Ra
      clear Ra
      clear Bw
      have Bw := Rw
      clear Rw
      clear Bx
      have Bx := Rx
      clear Rx
      clear Bg
      have Bg := Rg
      clear Rg
      clear Bq
      have Bq := Rq
      clear Rq
      have K21 := Lib.hid (K20.out.trans hk)
      have z21 := hk.size
      clear hk K20
      rw [HmN.out]
      go_wp2_with fail
      go_ret
      exact ⟨rfl, K21.out⟩
set_option maxHeartbeats 800000 in
theorem lawAll (D : DoesSpreadAll) (t : List Nd) (s : Spr) (v u : Value) (w : World) (ha : RdNd w w.heap.size v t) (hb : RdS w w.heap.size u s) :
    Calls Try.prog 8 #[v, u] w fun e w' => e = .returned (.bool true) ∧ Kept 0 0 w w' := by
  rcases Nat.lt_or_ge 1048576 (t.length + s.told.length + s.work.length) with hl | hl
  case inr => exact lawAll_small D t s v u w ha hb hl
  have Ha := Lib.hid ha
  have m1 := ha.len
  obtain ⟨hv, lv, rfl, ⟨A1, q1, rfl, s2⟩, ⟨A2, q2, rfl, s3⟩⟩ := hb
  have Hb : Hid (RdS w w.heap.size (.agg #[.slice A1 s.told.length q1, .slice A2 s.work.length q2]) s) := ⟨_, _, rfl, ⟨A1, q1, rfl, s2⟩, ⟨A2, q2, rfl, s3⟩⟩
  obtain ⟨W, hW⟩ : ∃ W, W = w.alloc (.cells #[.slice A1 s.told.length q1, .slice A2 s.work.length q2] 43) := ⟨_, rfl⟩
  have KW : Hid (Kept 0 0 w W) := by show Kept _ _ _ _; rw [hW]; exact Kept.alloc0 _ _
  have B0 : Hid (Blk W w.heap.size 43 #[.slice A1 s.told.length q1, .slice A2 s.work.length q2]) := by show Blk _ _ _ _; rw [hW]; exact Blk.new _ _ _
  have HW := Lib.hid hW
  clear hW s2 s3 ha
  rcases Nat.lt_or_ge 1048576 t.length with ht | ht
  · have Ea : Hid (szF 1048576 t.length = -1) := szF_neg (by omega)
    go_enter Try.func8, Try.ntmps8
    go_wp2_with fail
    rw [← HW.out]
    with_reducible refine (szNd t _ _ _ _ (Ha.out.up KW.out) (by omega) (by omega)).mono ?_
    rintro e w' ⟨rfl, rfl⟩
    rw [Ea.out]
    go_wp2
    go_ret
    exact ⟨rfl, KW.out⟩
  · have Ea : Hid (szF (1048576) t.length = 1048576 - t.length) := szF_pos (by omega)
    have sz : (0 : Int) ≤ 1048576 - t.length := by omega
    have b0 := bs0 B0.out
    have b1 := bs1 B0.out
    have CS := Lib.hid (szS_neg s _ (1048576 - (t.length : Int)) W _ (Hb.out.up KW.out) (by omega) (by omega) (by omega))
    go_enter Try.func8, Try.ntmps8
    go_wp2_with fail
    rw [← HW.out]
    with_reducible refine (szNd t _ _ _ _ (Ha.out.up KW.out) (by omega) (by omega)).mono ?_
    rintro e w' ⟨rfl, rfl⟩
    rw [Ea.out]
    go_wp2_with fail
    with_reducible refine CS.out.mono ?_
    rintro e w1 ⟨rfl, hk⟩
    have K1 := Lib.hid (KW.out.trans hk)
    clear hk CS
    go_wp2
    go_ret
    exact ⟨rfl, K1.out⟩

end Go.Proofs.Ytlfbmjfbebbdlaa
