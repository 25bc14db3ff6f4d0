/- The exact laws of chapter 8 return true for all afters that can be read; condition: the contracts of the program's functions. -/
import Derived.Test.YtnnbfcmbcjkpoaaCj
import Derived.Deep.DeepCutAuto
import Derived.Deep.RegionHeld3
namespace Go.Proofs.Ytnnbfcmbcjkpoaa
open Go.RowKit Go.Sort

theorem markAsN_pos (t : Afs) : 0 ≤ markAsN 1 t := by unfold markAsN markSlN; omega
theorem eqHandle_same (a b : Int) (w : World) : Calls Try.prog 28 #[.agg #[.int .i64 a, .int .i64 b], .agg #[.int .i64 a, .int .i64 b]] w fun e w' => e = .returned (.bool true) ∧ Kept 0 0 w w' := by
  have := eqHandle_any a b a b w
  rwa [decide_eq_true (⟨rfl, rfl⟩ : a = a ∧ b = b)] at this
theorem eqAf1_same (x : Aft) (w : World) : Calls Try.prog 33 #[.agg #[.int .i64 x.slot, .int .i64 x.age, .int .i64 x.node, .int .i64 x.func, .bool x.queued], .agg #[.int .i64 x.slot, .int .i64 x.age, .int .i64 x.node, .int .i64 x.func, .bool x.queued]] w fun e w' => e = .returned (.bool true) ∧ Kept 0 0 w w' := by
  have := eqAf1_any x x w
  rwa [decide_eq_true (rfl : x = x)] at this
/-- A box that holds afters in memory of their own, made behind the world c. -/
def AfsAt (c w : World) (p : Value) (N : Afs) : Prop := ∃ r lo hi D1 D2 D3 d1 d2 d3, p = .pointer (some ⟨r, 0, none⟩) ∧ c.heap.size ≤ r ∧ c.heap.size ≤ lo ∧ hi ≤ w.heap.size ∧ (r < lo ∨ hi ≤ r) ∧ Blk w r 34 #[.slice D1 N.slots.ages.length d1, .slice D2 N.slots.used.length d2, .slice D3 N.list.length d3] ∧ OwnAs w lo hi (.agg #[.slice D1 N.slots.ages.length d1, .slice D2 N.slots.used.length d2, .slice D3 N.list.length d3]) N ∧ Kept 0 0 c w
theorem afsAt_new {c w : World} {N : Afs} {D1 D2 D3 : Option Addr} {d1 d2 d3 lo : Nat} (ho : OwnAs w lo w.heap.size (.agg #[.slice D1 N.slots.ages.length d1, .slice D2 N.slots.used.length d2, .slice D3 N.list.length d3]) N) (hk : Kept 0 0 c w) (hl : c.heap.size ≤ lo) :
    AfsAt c (w.alloc (.cells #[.slice D1 N.slots.ages.length d1, .slice D2 N.slots.used.length d2, .slice D3 N.list.length d3] 34)) (.pointer (some ⟨w.heap.size, 0, none⟩)) N :=
  ⟨_, lo, w.heap.size, _, _, _, _, _, _, rfl, hk.size, hl, by simp, .inr (Nat.le_refl _), Blk.new _ _ _, ho.kept (Kept.alloc0 _ _) (.inl (Nat.le_refl _)), hk.alloc _⟩
theorem afsAt_set {c w : World} {r : Nat} {N : Afs} {D1 D2 D3 : Option Addr} {d1 d2 d3 lo : Nat} (hx : Blk w r 34 #[.slice none 0 0, .slice none 0 0, .slice none 0 0]) (ho : OwnAs w lo w.heap.size (.agg #[.slice D1 N.slots.ages.length d1, .slice D2 N.slots.used.length d2, .slice D3 N.list.length d3]) N) (hk : Kept 0 0 c w) (hr : c.heap.size ≤ r) (hl : c.heap.size ≤ lo) (hrl : r < lo) :
    AfsAt c (((w.setCell ⟨r, 0, none⟩ (.slice D1 N.slots.ages.length d1)).setCell ⟨r, 1, none⟩ (.slice D2 N.slots.used.length d2)).setCell ⟨r, 2, none⟩ (.slice D3 N.list.length d3)) (.pointer (some ⟨r, 0, none⟩)) N := by
  have kx := keptA w r (.slice D1 N.slots.ages.length d1) (.slice D2 N.slots.used.length d2) (.slice D3 N.list.length d3)
  exact ⟨_, lo, w.heap.size, _, _, _, _, _, _, rfl, hr, hl, kx.size, .inl hrl, blkA hx _ _ _, ho.kept kx (.inr (.inr (by omega))), hk.trans2 kx (.inr hr)⟩

theorem aftersP_len {a : Afs} (o : AftersP a) : a.slots.ages.length ≤ 64 ∧ a.slots.used.length ≤ 64 ∧ a.list.length ≤ 64 := by
  have := o.len; have := slB_len o.slots; omega
theorem queueA_len (a : Afs) (n : Int) : (queueA a n).slots.ages.length ≤ 1048576 ∧ (queueA a n).slots.used.length ≤ 1048576 ∧ (queueA a n).list.length ≤ 1048576 := by
  unfold queueA
  split
  · rename_i h
    have := aftersP_len (aftersB_true.1 h)
    simp; omega
  · simp [asZ, slZ]
theorem regA_len (a : Afs) (n f : Int) : (regA a n f).slots.ages.length ≤ 1048576 ∧ (regA a n f).slots.used.length ≤ 1048576 ∧ (regA a n f).list.length ≤ 1048576 := by
  unfold regA
  split
  · rename_i h
    have := aftersP_len (aftersB_true.1 h)
    have := takeST_len a.slots
    split
    · simp; omega
    · omega
  · simp [asZ, slZ]
theorem pickA_len (p : Aft → Bool) (a : Afs) : (pickA p a).slots.ages.length ≤ 1048576 ∧ (pickA p a).slots.used.length ≤ 1048576 ∧ (pickA p a).list.length ≤ 1048576 := by
  unfold pickA
  split
  · rename_i h
    have := aftersP_len (aftersB_true.1 h)
    split
    · rename_i i _
      have := dropST_len a.slots (a.list.getD i ⟨0, 0, 0, 0, false⟩).slot (a.list.getD i ⟨0, 0, 0, 0, false⟩).age
      refine ⟨by show (dropST _ _ _).ages.length ≤ _; omega, by show (dropST _ _ _).used.length ≤ _; omega, ?_⟩
      simp [awayA]; omega
    · omega
  · simp [asZ, slZ]

set_option maxHeartbeats 6400000 in
set_option maxRecDepth 100000 in
theorem lawAsOk_small (D : DoesAsB 19) (s : Afs) (v : Value) (w : World) (hb : RdAs w w.heap.size v s) (hn : s.slots.ages.length + s.slots.used.length + s.list.length ≤ 1048576) :
    Calls Try.prog 4 #[v] w fun e w' => e = .returned (.bool true) ∧ Kept 0 0 w w' := by
  obtain ⟨_, _, _, rfl, ⟨A1, q1, rfl, s1⟩, ⟨A2, q2, rfl, s2⟩, ⟨A3, q3, rfl, s3⟩⟩ := hb
  have Hb : Hid (RdAs w w.heap.size (.agg #[.slice A1 s.slots.ages.length q1, .slice A2 s.slots.used.length q2, .slice A3 s.list.length q3]) s) := ⟨_, _, _, rfl, ⟨A1, q1, rfl, s1⟩, ⟨A2, q2, rfl, s2⟩, ⟨A3, q3, rfl, s3⟩⟩
  clear s1 s2 s3
  have sa : s.slots.ages.length ≤ 1048576 := by omega
  have su : s.slots.used.length ≤ 1048576 := by omega
  have sl : s.list.length ≤ 1048576 := by omega
  have sz : szAsN s ≤ 1048576 := by unfold szAsN; omega
  have SZ : Hid ((0 : Int) ≤ 1048576 - s.slots.ages.length - s.slots.used.length - s.list.length) := by show _ ≤ _; omega
  obtain ⟨bb, hbb⟩ : ∃ bb, bb = aftersB s := ⟨_, rfl⟩
  have CS : Hid (∀ (x : Value) (X : World), RdAs X X.heap.size x s → Calls Try.prog 21 #[x] X fun e w' => e = .returned (.bool bb) ∧ Kept 0 0 X w') := by
    intro x X h1
    have := specAs s x X h1
    rw [← hbb] at this
    exact this
  have CI : Hid (∀ (x : Value) (X : World), RdAs X X.heap.size x s → Calls Try.prog 19 #[x] X fun e w' => e = .returned (.bool bb) ∧ Kept 0 0 X w') := by
    intro x X h1
    have := D s x X h1
    rw [← hbb] at this
    exact this
  clear hbb
  have qq : (bb != bb) = false := by simp
  go_enter Try.func4, Try.ntmps4
  go_wp2_with fail
  obtain ⟨w1, hw⟩ : ∃ w1, w1 = (w.alloc (.cells #[.slice A1 s.slots.ages.length q1, .slice A2 s.slots.used.length q2, .slice A3 s.list.length q3] 53)) := ⟨_, rfl⟩
  have hk : Kept 0 0 w w1 := by rw [hw]; exact Kept.alloc0 _ _
  have Na : Hid (Blk w1 (w.heap.size) 53 #[.slice A1 s.slots.ages.length q1, .slice A2 s.slots.used.length q2, .slice A3 s.list.length q3]) := by show Blk _ _ _ _; rw [hw]; have := (Blk.new w 53 #[.slice A1 s.slots.ages.length q1, .slice A2 s.slots.used.length q2, .slice A3 s.list.length q3]); simpa using this
  rw [← hw]
  have Ba := Na
  clear Na
  have ya : w.heap.size + 0 < w1.heap.size := Ba.out.lt
  have K1 := Lib.hid ((Kept.refl 0 0 w).trans hk)
  have z1 := hk.size
  clear hk hw
  have szz := SZ.out
  with_reducible refine (szAs_pos s _ _ _ (Hb.out.up K1.out) sz (by omega)).mono ?_
  rintro e w2 ⟨rfl, hk⟩
  have Ra := Lib.hid (Ba.out.kept hk (.inl (Nat.le_refl _)))
  clear Ba
  have Ba := Ra
  clear Ra
  have K2 := Lib.hid (K1.out.trans hk)
  have z2 := hk.size
  clear hk K1
  have ca0 := ax0 Ba.out
  have ca1 := ax1 Ba.out
  have ca2 := ax2 Ba.out
  have la := Ba.out.lt
  go_wp2_with fail
  clear ca0 ca1 ca2 la
  with_reducible refine (toAs s _ _ (Hb.out.up K2.out) sa su sl).mono ?_
  rintro e w3 ⟨_, rfl, ⟨_, _, _, rfl, ⟨DAp, dAp, rfl, oa⟩, ⟨DBp, dBp, rfl, ob⟩, ⟨DCp, dCp, rfl, oc⟩⟩, hk⟩
  have Ra := Lib.hid (Ba.out.kept hk (.inl (Nat.le_refl _)))
  clear Ba
  have Ba := Ra
  clear Ra
  have Op : Hid (OwnAs w3 w2.heap.size w3.heap.size (.agg #[.slice DAp s.slots.ages.length dAp, .slice DBp s.slots.used.length dBp, .slice DCp s.list.length dCp]) s) := ⟨_, _, _, rfl, ⟨DAp, dAp, rfl, oa⟩, ⟨DBp, dBp, rfl, ob⟩, ⟨DCp, dCp, rfl, oc⟩⟩
  have K3 := Lib.hid (K2.out.trans hk)
  have z3 := hk.size
  clear hk oa ob oc K2
  go_wp2_with fail
  with_reducible refine (CS.out _ _ (Op.out.rdW (by omega))).mono ?_
  rintro e w4 ⟨rfl, hk⟩
  have Pp := Lib.hid (Op.out.kept hk (.inl (Nat.le_refl _)))
  have Ra := Lib.hid (Ba.out.kept hk (.inl (Nat.le_refl _)))
  clear Op
  have Op := Pp
  clear Pp
  clear Ba
  have Ba := Ra
  clear Ra
  have K4 := Lib.hid (K3.out.trans hk)
  have z4 := hk.size
  clear hk K3
  clear Op
  have ca0 := ax0 Ba.out
  have ca1 := ax1 Ba.out
  have ca2 := ax2 Ba.out
  have la := Ba.out.lt
  go_wp2_with fail
  clear ca0 ca1 ca2 la
  with_reducible refine (toAs s _ _ (Hb.out.up K4.out) sa su sl).mono ?_
  rintro e w5 ⟨_, rfl, ⟨_, _, _, rfl, ⟨DAx, dAx, rfl, oa⟩, ⟨DBx, dBx, rfl, ob⟩, ⟨DCx, dCx, rfl, oc⟩⟩, hk⟩
  have Ra := Lib.hid (Ba.out.kept hk (.inl (Nat.le_refl _)))
  clear Ba
  have Ba := Ra
  clear Ra
  have Ox : Hid (OwnAs w5 w4.heap.size w5.heap.size (.agg #[.slice DAx s.slots.ages.length dAx, .slice DBx s.slots.used.length dBx, .slice DCx s.list.length dCx]) s) := ⟨_, _, _, rfl, ⟨DAx, dAx, rfl, oa⟩, ⟨DBx, dBx, rfl, ob⟩, ⟨DCx, dCx, rfl, oc⟩⟩
  have K5 := Lib.hid (K4.out.trans hk)
  have z5 := hk.size
  clear hk oa ob oc K4
  go_wp2_with fail
  obtain ⟨w6, hw⟩ : ∃ w6, w6 = (w5.alloc (.cells #[.slice DAx s.slots.ages.length dAx, .slice DBx s.slots.used.length dBx, .slice DCx s.list.length dCx] 34)) := ⟨_, rfl⟩
  have hk : Kept 0 0 w5 w6 := by rw [hw]; exact Kept.alloc0 _ _
  have Nx : Hid (Blk w6 (w5.heap.size) 34 #[.slice DAx s.slots.ages.length dAx, .slice DBx s.slots.used.length dBx, .slice DCx s.list.length dCx]) := by show Blk _ _ _ _; rw [hw]; have := (Blk.new w5 34 #[.slice DAx s.slots.ages.length dAx, .slice DBx s.slots.used.length dBx, .slice DCx s.list.length dCx]); simpa using this
  rw [← hw]
  have Px := Lib.hid (Ox.out.kept hk (.inl (Nat.le_refl _)))
  have Ra := Lib.hid (Ba.out.kept hk (.inl (Nat.le_refl _)))
  clear Ox
  have Ox := Px
  clear Px
  clear Ba
  have Ba := Ra
  clear Ra
  have Bx := Nx
  clear Nx
  have yx : w5.heap.size + 0 < w6.heap.size := Bx.out.lt
  have K6 := Lib.hid (K5.out.trans hk)
  have z6 := hk.size
  clear hk hw K5
  with_reducible refine (CI.out _ _ (Ox.out.rdW (by omega))).mono ?_
  rintro e w7 ⟨rfl, hk⟩
  have Px := Lib.hid (Ox.out.kept hk (.inl (Nat.le_refl _)))
  have Ra := Lib.hid (Ba.out.kept hk (.inl (Nat.le_refl _)))
  have Rx := Lib.hid (Bx.out.kept hk (.inl (Nat.le_refl _)))
  clear Ox
  have Ox := Px
  clear Px
  clear Ba
  have Ba := Ra
  clear Ra
  clear Bx
  have Bx := Rx
  clear Rx
  have K7 := Lib.hid (K6.out.trans hk)
  have z7 := hk.size
  clear hk K6
  go_upto_region 10 with fail
  have lx := Bx.out.lt
  have la := Ba.out.lt
  go_region_held3 (fun w' => w'.cell? ⟨(w5.heap.size), 0, none⟩ = some (.slice DAx s.slots.ages.length dAx) ∧ w'.cell? ⟨(w5.heap.size), 1, none⟩ = some (.slice DBx s.slots.used.length dBx) ∧ w'.cell? ⟨(w5.heap.size), 2, none⟩ = some (.slice DCx s.list.length dCx) ∧ w'.cell? ⟨(w.heap.size), 0, none⟩ = some (.slice A1 s.slots.ages.length q1) ∧ w'.cell? ⟨(w.heap.size), 1, none⟩ = some (.slice A2 s.slots.used.length q2) ∧ w'.cell? ⟨(w.heap.size), 2, none⟩ = some (.slice A3 s.list.length q3))
    (first | with_reducible exact ⟨ax0 Bx.out.drew, ax1 Bx.out.drew, ax2 Bx.out.drew, ax0 Ba.out.drew, ax1 Ba.out.drew, ax2 Ba.out.drew⟩ | with_reducible exact ⟨ax0 Xx, ax1 Xx, ax2 Xx, ax0 Xa, ax1 Xa, ax2 Xa⟩ | with_reducible exact ⟨ax0 Yx, ax1 Yx, ax2 Yx, ax0 Ya, ax1 Ya, ax2 Ya⟩)
    (first | (go_at_call 22; (with_reducible refine (toAs s _ w7.drew (Hb.out.up K7.out.drew) sa su sl).mono ?_); rintro e w8 ⟨u1, rfl, oy, hk⟩; have k1 : Kept 0 0 w7 w8 := (Kept.refl 0 0 w7).drew.trans hk; have Xx := Bx.out.kept k1 (.inl (Nat.le_refl _)); have Xa := Ba.out.kept k1 (.inl (Nat.le_refl _)); have zz := k1.size; clear hk) | (go_at_call 23; (with_reducible refine (eqAs s _ _ w8 ((Ox.out.kept k1 (.inl (Nat.le_refl _))).rdW (by omega)) (oy.rdW (Nat.le_refl _))).mono ?_); rintro e w9 ⟨rfl, hk⟩; have k2 : Kept 0 0 w7 w9 := k1.trans hk; have Yx := Bx.out.kept k2 (.inl (Nat.le_refl _)); have Ya := Ba.out.kept k2 (.inl (Nat.le_refl _)); have ks := Lib.hid k2; clear hk))
  clear Xx Xa Yx Ya k1 k2 oy zz lx la
  have Px := Lib.hid (Ox.out.kept ks.out (.inl (Nat.le_refl _)))
  have Ra := Lib.hid (Ba.out.kept ks.out (.inl (Nat.le_refl _)))
  have Rx := Lib.hid (Bx.out.kept ks.out (.inl (Nat.le_refl _)))
  clear Ox
  have Ox := Px
  clear Px
  clear Ba
  have Ba := Ra
  clear Ra
  clear Bx
  have Bx := Rx
  clear Rx
  have K9 := Lib.hid (K7.out.trans ks.out)
  have z9 := ks.out.size
  clear ks K7
  go_wp2_with fail
  go_ret
  exact ⟨rfl, K9.out⟩
set_option maxHeartbeats 800000 in
theorem lawAsOk (D : DoesAsB 19) (s : Afs) (v : Value) (w : World) (hb : RdAs w w.heap.size v s) :
    Calls Try.prog 4 #[v] w fun e w' => e = .returned (.bool true) ∧ Kept 0 0 w w' := by
  rcases Nat.lt_or_ge 1048576 (s.slots.ages.length + s.slots.used.length + s.list.length) with hl | hl
  case inr => exact lawAsOk_small D s v w hb hl
  obtain ⟨_, _, _, rfl, ⟨A1, q1, rfl, s1⟩, ⟨A2, q2, rfl, s2⟩, ⟨A3, q3, rfl, s3⟩⟩ := hb
  have Hb : Hid (RdAs w w.heap.size (.agg #[.slice A1 s.slots.ages.length q1, .slice A2 s.slots.used.length q2, .slice A3 s.list.length q3]) s) := ⟨_, _, _, rfl, ⟨A1, q1, rfl, s1⟩, ⟨A2, q2, rfl, s2⟩, ⟨A3, q3, rfl, s3⟩⟩
  obtain ⟨W, hW⟩ : ∃ W, W = w.alloc (.cells #[.slice A1 s.slots.ages.length q1, .slice A2 s.slots.used.length q2, .slice A3 s.list.length q3] 53) := ⟨_, rfl⟩
  have KW : Hid (Kept 0 0 w W) := by show Kept _ _ _ _; rw [hW]; exact Kept.alloc0 _ _
  have HW := Lib.hid hW
  have CS := Lib.hid (szAs_neg s _ 1048576 W (Hb.out.up KW.out) (by unfold szAsN; omega) (by omega) (by omega))
  clear hW s1 s2 s3
  go_enter Try.func4, Try.ntmps4
  go_wp2_with fail
  rw [← HW.out]
  with_reducible refine CS.out.mono ?_
  rintro e w1 ⟨rfl, hk⟩
  have K1 := Lib.hid (KW.out.trans hk)
  clear hk CS
  go_wp2
  go_ret
  exact ⟨rfl, K1.out⟩


set_option maxHeartbeats 6400000 in
set_option maxRecDepth 100000 in
theorem lawNewAs (D : DoesAsN 13) (n : Int) (w : World) :
    Calls Try.prog 5 #[.int .i64 n] w fun e w' => e = .returned (.bool true) ∧ Kept 0 0 w w' := by
  obtain ⟨N, hN⟩ : ∃ N : Afs, N = ⟨newST n, []⟩ := ⟨_, rfl⟩
  obtain ⟨bb, hbb⟩ : ∃ bb, bb = newSB n := ⟨_, rfl⟩
  have NL : N.slots.ages.length ≤ 1048576 ∧ N.slots.used.length ≤ 1048576 ∧ N.list.length ≤ 1048576 := by rw [hN]; have := newST_len n; simp; omega
  have Na := NL.1
  have Nu := NL.2.1
  have Nl := NL.2.2
  have CS : Hid (∀ (X : World), Calls Try.prog 24 #[.int .i64 n] X fun e w' => ∃ z, e = .returned (.tuple #[z, .bool bb]) ∧ OwnAs w' X.heap.size w'.heap.size z N ∧ Kept 0 0 X w') := by
    intro X
    have := specNewAs n X
    rw [← hN, ← hbb] at this
    exact this
  have CI : Hid (∀ (X : World), Calls Try.prog 13 #[.int .i64 n] X fun e w' => ∃ z, e = .returned (.tuple #[z, .bool bb]) ∧ OwnAs w' X.heap.size w'.heap.size z N ∧ Kept 0 0 X w') := by
    intro X
    have := D n X
    rw [← hN, ← hbb] at this
    exact this
  clear hN NL hbb
  have qq : (bb != bb) = false := by simp
  go_enter Try.func5, Try.ntmps5
  go_wp2_with fail
  with_reducible refine (CS.out _).mono ?_
  rintro e w1 ⟨_, rfl, ⟨_, _, _, rfl, ⟨DAW, dAW, rfl, oa⟩, ⟨DBW, dBW, rfl, ob⟩, ⟨DCW, dCW, rfl, oc⟩⟩, hk⟩
  have OW : Hid (OwnAs w1 w.heap.size w1.heap.size (.agg #[.slice DAW N.slots.ages.length dAW, .slice DBW N.slots.used.length dBW, .slice DCW N.list.length dCW]) N) := ⟨_, _, _, rfl, ⟨DAW, dAW, rfl, oa⟩, ⟨DBW, dBW, rfl, ob⟩, ⟨DCW, dCW, rfl, oc⟩⟩
  have K1 := Lib.hid ((Kept.refl 0 0 w).trans hk)
  have z1 := hk.size
  clear hk oa ob oc
  go_wp2_with fail
  obtain ⟨w2, hw⟩ : ∃ w2, w2 = (w1.alloc (.cells #[.slice DAW N.slots.ages.length dAW, .slice DBW N.slots.used.length dBW, .slice DCW N.list.length dCW] 34)) := ⟨_, rfl⟩
  have hk : Kept 0 0 w1 w2 := by rw [hw]; exact Kept.alloc0 _ _
  have Nw : Hid (Blk w2 (w1.heap.size) 34 #[.slice DAW N.slots.ages.length dAW, .slice DBW N.slots.used.length dBW, .slice DCW N.list.length dCW]) := by show Blk _ _ _ _; rw [hw]; have := (Blk.new w1 34 #[.slice DAW N.slots.ages.length dAW, .slice DBW N.slots.used.length dBW, .slice DCW N.list.length dCW]); simpa using this
  rw [← hw]
  have PW := Lib.hid (OW.out.kept hk (.inl (Nat.le_refl _)))
  clear OW
  have OW := PW
  clear PW
  have Bw := Nw
  clear Nw
  have yw : w1.heap.size + 0 < w2.heap.size := Bw.out.lt
  have K2 := Lib.hid (K1.out.trans hk)
  have z2 := hk.size
  clear hk hw K1
  with_reducible refine (CI.out _).mono ?_
  rintro e w3 ⟨_, rfl, ⟨_, _, _, rfl, ⟨DAG, dAG, rfl, oa⟩, ⟨DBG, dBG, rfl, ob⟩, ⟨DCG, dCG, rfl, oc⟩⟩, hk⟩
  have PW := Lib.hid (OW.out.kept hk (.inl (Nat.le_refl _)))
  have Rw := Lib.hid (Bw.out.kept hk (.inl (Nat.le_refl _)))
  clear OW
  have OW := PW
  clear PW
  clear Bw
  have Bw := Rw
  clear Rw
  have OG : Hid (OwnAs w3 w2.heap.size w3.heap.size (.agg #[.slice DAG N.slots.ages.length dAG, .slice DBG N.slots.used.length dBG, .slice DCG N.list.length dCG]) N) := ⟨_, _, _, rfl, ⟨DAG, dAG, rfl, oa⟩, ⟨DBG, dBG, rfl, ob⟩, ⟨DCG, dCG, rfl, oc⟩⟩
  have K3 := Lib.hid (K2.out.trans hk)
  have z3 := hk.size
  clear hk oa ob oc K2
  have cw0 := ax0 Bw.out
  have cw1 := ax1 Bw.out
  have cw2 := ax2 Bw.out
  have lw := Bw.out.lt
  go_wp2_with fail
  clear cw0 cw1 cw2 lw
  obtain ⟨w4, hw⟩ : ∃ w4, w4 = (w3.alloc (.cells #[.slice DAG N.slots.ages.length dAG, .slice DBG N.slots.used.length dBG, .slice DCG N.list.length dCG] 34)) := ⟨_, rfl⟩
  have hk : Kept 0 0 w3 w4 := by rw [hw]; exact Kept.alloc0 _ _
  have Ng : Hid (Blk w4 (w3.heap.size) 34 #[.slice DAG N.slots.ages.length dAG, .slice DBG N.slots.used.length dBG, .slice DCG N.list.length dCG]) := by show Blk _ _ _ _; rw [hw]; have := (Blk.new w3 34 #[.slice DAG N.slots.ages.length dAG, .slice DBG N.slots.used.length dBG, .slice DCG N.list.length dCG]); simpa using this
  rw [← hw]
  have PW := Lib.hid (OW.out.kept hk (.inl (Nat.le_refl _)))
  have PG := Lib.hid (OG.out.kept hk (.inl (Nat.le_refl _)))
  have Rw := Lib.hid (Bw.out.kept hk (.inl (Nat.le_refl _)))
  clear OW
  have OW := PW
  clear PW
  clear OG
  have OG := PG
  clear PG
  clear Bw
  have Bw := Rw
  clear Rw
  have Bg := Ng
  clear Ng
  have yg : w3.heap.size + 0 < w4.heap.size := Bg.out.lt
  have K4 := Lib.hid (K3.out.trans hk)
  have z4 := hk.size
  clear hk hw K3
  with_reducible refine (eqAs N _ _ _ (OG.out.rdW (by omega)) (OW.out.rdW (by omega))).mono ?_
  rintro e w5 ⟨rfl, hk⟩
  have PW := Lib.hid (OW.out.kept hk (.inl (Nat.le_refl _)))
  have PG := Lib.hid (OG.out.kept hk (.inl (Nat.le_refl _)))
  have Rw := Lib.hid (Bw.out.kept hk (.inl (Nat.le_refl _)))
  have Rg := Lib.hid (Bg.out.kept hk (.inl (Nat.le_refl _)))
  clear OW
  have OW := PW
  clear PW
  clear OG
  have OG := PG
  clear PG
  clear Bw
  have Bw := Rw
  clear Rw
  clear Bg
  have Bg := Rg
  clear Rg
  have K5 := Lib.hid (K4.out.trans hk)
  have z5 := hk.size
  clear hk K4
  obtain ⟨mN, hmN⟩ : ∃ mN, mN = markAsN 1 N := ⟨_, rfl⟩
  have pN : 0 ≤ mN := by rw [hmN]; exact markAsN_pos _
  have HmN := Lib.hid hmN.symm
  clear hmN
  have cg0 := ax0 Bg.out
  have cg1 := ax1 Bg.out
  have cg2 := ax2 Bg.out
  have lg := Bg.out.lt
  go_wp2_with fail
  clear cg0 cg1 cg2 lg
  with_reducible refine (markAs (1) N _ (w2.heap.size) (w3.heap.size) _ OG.out (by omega) (by omega) Na Nu Nl (by omega)).mono ?_
  rintro e w6 ⟨rfl, ho, hk⟩
  have PW := Lib.hid (OW.out.kept hk (by omega))
  have Rw := Lib.hid (Bw.out.kept hk (by omega))
  have Rg := Lib.hid (Bg.out.kept hk (by omega))
  clear OW
  have OW := PW
  clear PW
  clear Bw
  have Bw := Rw
  clear Rw
  clear Bg
  have Bg := Rg
  clear Rg
  clear OG
  have OG := Lib.hid ho
  have K6 := Lib.hid (K5.out.trans2 hk (.inr (by omega)))
  have z6 := hk.size
  clear hk ho K5
  rw [HmN.out]
  have cg0 := ax0 Bg.out
  have cg1 := ax1 Bg.out
  have cg2 := ax2 Bg.out
  have lg := Bg.out.lt
  go_wp2_with fail
  clear cg0 cg1 cg2 lg
  with_reducible refine (heldAs 1 N _ _ (OG.out.rdW (by omega)) (by omega) (by omega) Na Nu Nl).mono ?_
  rintro e w7 ⟨rfl, hk⟩
  have PW := Lib.hid (OW.out.kept hk (.inl (Nat.le_refl _)))
  have PG := Lib.hid (OG.out.kept hk (.inl (Nat.le_refl _)))
  have Rw := Lib.hid (Bw.out.kept hk (.inl (Nat.le_refl _)))
  have Rg := Lib.hid (Bg.out.kept hk (.inl (Nat.le_refl _)))
  clear OW
  have OW := PW
  clear PW
  clear OG
  have OG := PG
  clear PG
  clear Bw
  have Bw := Rw
  clear Rw
  clear Bg
  have Bg := Rg
  clear Rg
  have K7 := Lib.hid (K6.out.trans hk)
  have z7 := hk.size
  clear hk K6
  rw [HmN.out]
  have qm : (mN != mN) = false := by simp
  go_wp2_with fail
  with_reducible refine (CI.out _).mono ?_
  rintro e w8 ⟨_, rfl, ⟨_, _, _, rfl, ⟨DAQ, dAQ, rfl, oa⟩, ⟨DBQ, dBQ, rfl, ob⟩, ⟨DCQ, dCQ, rfl, oc⟩⟩, hk⟩
  have PW := Lib.hid (OW.out.kept hk (.inl (Nat.le_refl _)))
  have PG := Lib.hid (OG.out.kept hk (.inl (Nat.le_refl _)))
  have Rw := Lib.hid (Bw.out.kept hk (.inl (Nat.le_refl _)))
  have Rg := Lib.hid (Bg.out.kept hk (.inl (Nat.le_refl _)))
  clear OW
  have OW := PW
  clear PW
  clear OG
  have OG := PG
  clear PG
  clear Bw
  have Bw := Rw
  clear Rw
  clear Bg
  have Bg := Rg
  clear Rg
  have OQ : Hid (OwnAs w8 w7.heap.size w8.heap.size (.agg #[.slice DAQ N.slots.ages.length dAQ, .slice DBQ N.slots.used.length dBQ, .slice DCQ N.list.length dCQ]) N) := ⟨_, _, _, rfl, ⟨DAQ, dAQ, rfl, oa⟩, ⟨DBQ, dBQ, rfl, ob⟩, ⟨DCQ, dCQ, rfl, oc⟩⟩
  have K8 := Lib.hid (K7.out.trans hk)
  have z8 := hk.size
  clear hk oa ob oc K7
  have cw0 := ax0 Bw.out
  have cw1 := ax1 Bw.out
  have cw2 := ax2 Bw.out
  have lw := Bw.out.lt
  go_wp2_with fail
  clear cw0 cw1 cw2 lw
  obtain ⟨w9, hw⟩ : ∃ w9, w9 = (w8.alloc (.cells #[.slice DAQ N.slots.ages.length dAQ, .slice DBQ N.slots.used.length dBQ, .slice DCQ N.list.length dCQ] 34)) := ⟨_, rfl⟩
  have hk : Kept 0 0 w8 w9 := by rw [hw]; exact Kept.alloc0 _ _
  have Nq : Hid (Blk w9 (w8.heap.size) 34 #[.slice DAQ N.slots.ages.length dAQ, .slice DBQ N.slots.used.length dBQ, .slice DCQ N.list.length dCQ]) := by show Blk _ _ _ _; rw [hw]; have := (Blk.new w8 34 #[.slice DAQ N.slots.ages.length dAQ, .slice DBQ N.slots.used.length dBQ, .slice DCQ N.list.length dCQ]); simpa using this
  rw [← hw]
  have PW := Lib.hid (OW.out.kept hk (.inl (Nat.le_refl _)))
  have PG := Lib.hid (OG.out.kept hk (.inl (Nat.le_refl _)))
  have PQ := Lib.hid (OQ.out.kept hk (.inl (Nat.le_refl _)))
  have Rw := Lib.hid (Bw.out.kept hk (.inl (Nat.le_refl _)))
  have Rg := Lib.hid (Bg.out.kept hk (.inl (Nat.le_refl _)))
  clear OW
  have OW := PW
  clear PW
  clear OG
  have OG := PG
  clear PG
  clear OQ
  have OQ := PQ
  clear PQ
  clear Bw
  have Bw := Rw
  clear Rw
  clear Bg
  have Bg := Rg
  clear Rg
  have Bq := Nq
  clear Nq
  have yq : w8.heap.size + 0 < w9.heap.size := Bq.out.lt
  have K9 := Lib.hid (K8.out.trans hk)
  have z9 := hk.size
  clear hk hw K8
  with_reducible refine (eqAs N _ _ _ (OQ.out.rdW (by omega)) (OW.out.rdW (by omega))).mono ?_
  rintro e w10 ⟨rfl, hk⟩
  have PW := Lib.hid (OW.out.kept hk (.inl (Nat.le_refl _)))
  have PG := Lib.hid (OG.out.kept hk (.inl (Nat.le_refl _)))
  have PQ := Lib.hid (OQ.out.kept hk (.inl (Nat.le_refl _)))
  have Rw := Lib.hid (Bw.out.kept hk (.inl (Nat.le_refl _)))
  have Rg := Lib.hid (Bg.out.kept hk (.inl (Nat.le_refl _)))
  have Rq := Lib.hid (Bq.out.kept hk (.inl (Nat.le_refl _)))
  clear OW
  have OW := PW
  clear PW
  clear OG
  have OG := PG
  clear PG
  clear OQ
  have OQ := PQ
  clear PQ
  clear Bw
  have Bw := Rw
  clear Rw
  clear Bg
  have Bg := Rg
  clear Rg
  clear Bq
  have Bq := Rq
  clear Rq
  have K10 := Lib.hid (K9.out.trans hk)
  have z10 := hk.size
  clear hk K9
  have cg0 := ax0 Bg.out
  have cg1 := ax1 Bg.out
  have cg2 := ax2 Bg.out
  have lg := Bg.out.lt
  go_wp2_with fail
  clear cg0 cg1 cg2 lg
  with_reducible refine (heldAs 1 N _ _ (OG.out.rdW (by omega)) (by omega) (by omega) Na Nu Nl).mono ?_
  rintro e w11 ⟨rfl, hk⟩
  have PW := Lib.hid (OW.out.kept hk (.inl (Nat.le_refl _)))
  have PG := Lib.hid (OG.out.kept hk (.inl (Nat.le_refl _)))
  have PQ := Lib.hid (OQ.out.kept hk (.inl (Nat.le_refl _)))
  have Rw := Lib.hid (Bw.out.kept hk (.inl (Nat.le_refl _)))
  have Rg := Lib.hid (Bg.out.kept hk (.inl (Nat.le_refl _)))
  have Rq := Lib.hid (Bq.out.kept hk (.inl (Nat.le_refl _)))
  clear OW
  have OW := PW
  clear PW
  clear OG
  have OG := PG
  clear PG
  clear OQ
  have OQ := PQ
  clear PQ
  clear Bw
  have Bw := Rw
  clear Rw
  clear Bg
  have Bg := Rg
  clear Rg
  clear Bq
  have Bq := Rq
  clear Rq
  have K11 := Lib.hid (K10.out.trans hk)
  have z11 := hk.size
  clear hk K10
  rw [HmN.out]
  go_wp2_with fail
  go_ret
  exact ⟨rfl, K11.out⟩

set_option maxHeartbeats 12800000 in
set_option maxRecDepth 100000 in
theorem lawReg_small (D : DoesAsR 17) (s : Afs) (node fn : Int) (v : Value) (w : World) (hb : RdAs w w.heap.size v s) (hn : s.slots.ages.length + s.slots.used.length + s.list.length ≤ 1048576) :
    Calls Try.prog 6 #[v, .int .i64 node, .int .i64 fn] w fun e w' => e = .returned (.bool true) ∧ Kept 0 0 w w' := by
  obtain ⟨_, _, _, rfl, ⟨A1, q1, rfl, s1⟩, ⟨A2, q2, rfl, s2⟩, ⟨A3, q3, rfl, s3⟩⟩ := hb
  have Hb : Hid (RdAs w w.heap.size (.agg #[.slice A1 s.slots.ages.length q1, .slice A2 s.slots.used.length q2, .slice A3 s.list.length q3]) s) := ⟨_, _, _, rfl, ⟨A1, q1, rfl, s1⟩, ⟨A2, q2, rfl, s2⟩, ⟨A3, q3, rfl, s3⟩⟩
  clear s1 s2 s3
  have sa : s.slots.ages.length ≤ 1048576 := by omega
  have su : s.slots.used.length ≤ 1048576 := by omega
  have sl : s.list.length ≤ 1048576 := by omega
  have sz : szAsN s ≤ 1048576 := by unfold szAsN; omega
  have SZ : Hid ((0 : Int) ≤ 1048576 - s.slots.ages.length - s.slots.used.length - s.list.length) := by show _ ≤ _; omega
  obtain ⟨N, hN⟩ : ∃ N, N = regA s node fn := ⟨_, rfl⟩
  obtain ⟨bb, hbb⟩ : ∃ bb, bb = regB s node fn := ⟨_, rfl⟩
  obtain ⟨h1, hh1⟩ : ∃ h1, h1 = (regH s node fn).1 := ⟨_, rfl⟩
  obtain ⟨h2, hh2⟩ : ∃ h2, h2 = (regH s node fn).2 := ⟨_, rfl⟩
  have NL : N.slots.ages.length ≤ 1048576 ∧ N.slots.used.length ≤ 1048576 ∧ N.list.length ≤ 1048576 := by rw [hN]; exact regA_len _ _ _
  have Na := NL.1
  have Nu := NL.2.1
  have Nl := NL.2.2
  have CS : Hid (∀ (x : Value) (X : World), RdAs X X.heap.size x s → Calls Try.prog 27 #[x, .int .i64 node, .int .i64 fn] X fun e w' => ∃ z, e = .returned (.tuple #[z, .agg #[.int .i64 h1, .int .i64 h2], .bool bb]) ∧ OwnAs w' X.heap.size w'.heap.size z N ∧ Kept 0 0 X w') := by
    intro x X h1'
    have := specReg s node fn x X h1'
    rw [← hN, ← hbb, ← hh1, ← hh2] at this
    exact this
  have CI : Hid (∀ (x : Value) (X : World), RdAs X X.heap.size x s → Calls Try.prog 17 #[x, .int .i64 node, .int .i64 fn] X fun e w' => ∃ z, e = .returned (.tuple #[z, .agg #[.int .i64 h1, .int .i64 h2], .bool bb]) ∧ OwnAs w' X.heap.size w'.heap.size z N ∧ Kept 0 0 X w') := by
    intro x X h1'
    have := D s node fn x X h1'
    rw [← hN, ← hbb, ← hh1, ← hh2] at this
    exact this
  clear hN NL hbb hh1 hh2
  have qq : (bb != bb) = false := by simp
  go_enter Try.func6, Try.ntmps6
  go_wp2_with fail
  obtain ⟨w1, hw⟩ : ∃ w1, w1 = (w.alloc (.cells #[.slice A1 s.slots.ages.length q1, .slice A2 s.slots.used.length q2, .slice A3 s.list.length q3] 53)) := ⟨_, rfl⟩
  have hk : Kept 0 0 w w1 := by rw [hw]; exact Kept.alloc0 _ _
  have Na : Hid (Blk w1 (w.heap.size) 53 #[.slice A1 s.slots.ages.length q1, .slice A2 s.slots.used.length q2, .slice A3 s.list.length q3]) := by show Blk _ _ _ _; rw [hw]; have := (Blk.new w 53 #[.slice A1 s.slots.ages.length q1, .slice A2 s.slots.used.length q2, .slice A3 s.list.length q3]); simpa using this
  rw [← hw]
  have Ba := Na
  clear Na
  have ya : w.heap.size + 0 < w1.heap.size := Ba.out.lt
  have K1 := Lib.hid ((Kept.refl 0 0 w).trans hk)
  have z1 := hk.size
  clear hk hw
  have szz := SZ.out
  with_reducible refine (szAs_pos s _ _ _ (Hb.out.up K1.out) sz (by omega)).mono ?_
  rintro e w2 ⟨rfl, hk⟩
  have Ra := Lib.hid (Ba.out.kept hk (.inl (Nat.le_refl _)))
  clear Ba
  have Ba := Ra
  clear Ra
  have K2 := Lib.hid (K1.out.trans hk)
  have z2 := hk.size
  clear hk K1
  have ca0 := ax0 Ba.out
  have ca1 := ax1 Ba.out
  have ca2 := ax2 Ba.out
  have la := Ba.out.lt
  go_wp2_with fail
  clear ca0 ca1 ca2 la
  with_reducible refine (toAs s _ _ (Hb.out.up K2.out) sa su sl).mono ?_
  rintro e w3 ⟨_, rfl, ⟨_, _, _, rfl, ⟨DAp, dAp, rfl, oa⟩, ⟨DBp, dBp, rfl, ob⟩, ⟨DCp, dCp, rfl, oc⟩⟩, hk⟩
  have Ra := Lib.hid (Ba.out.kept hk (.inl (Nat.le_refl _)))
  clear Ba
  have Ba := Ra
  clear Ra
  have Op : Hid (OwnAs w3 w2.heap.size w3.heap.size (.agg #[.slice DAp s.slots.ages.length dAp, .slice DBp s.slots.used.length dBp, .slice DCp s.list.length dCp]) s) := ⟨_, _, _, rfl, ⟨DAp, dAp, rfl, oa⟩, ⟨DBp, dBp, rfl, ob⟩, ⟨DCp, dCp, rfl, oc⟩⟩
  have K3 := Lib.hid (K2.out.trans hk)
  have z3 := hk.size
  clear hk oa ob oc K2
  go_wp2_with fail
  with_reducible refine (CS.out _ _ (Op.out.rdW (by omega))).mono ?_
  rintro e w4 ⟨_, rfl, ⟨_, _, _, rfl, ⟨DAW, dAW, rfl, oa⟩, ⟨DBW, dBW, rfl, ob⟩, ⟨DCW, dCW, rfl, oc⟩⟩, hk⟩
  have Pp := Lib.hid (Op.out.kept hk (.inl (Nat.le_refl _)))
  have Ra := Lib.hid (Ba.out.kept hk (.inl (Nat.le_refl _)))
  clear Op
  have Op := Pp
  clear Pp
  clear Ba
  have Ba := Ra
  clear Ra
  have OW : Hid (OwnAs w4 w3.heap.size w4.heap.size (.agg #[.slice DAW N.slots.ages.length dAW, .slice DBW N.slots.used.length dBW, .slice DCW N.list.length dCW]) N) := ⟨_, _, _, rfl, ⟨DAW, dAW, rfl, oa⟩, ⟨DBW, dBW, rfl, ob⟩, ⟨DCW, dCW, rfl, oc⟩⟩
  have K4 := Lib.hid (K3.out.trans hk)
  have z4 := hk.size
  clear hk oa ob oc K3
  clear Op
  have ca0 := ax0 Ba.out
  have ca1 := ax1 Ba.out
  have ca2 := ax2 Ba.out
  have la := Ba.out.lt
  go_wp2_with fail
  clear ca0 ca1 ca2 la
  obtain ⟨w5, hw⟩ : ∃ w5, w5 = ((w4.alloc (.cells #[.slice DAW N.slots.ages.length dAW, .slice DBW N.slots.used.length dBW, .slice DCW N.list.length dCW] 34)).alloc (.cells #[.int .i64 h1, .int .i64 h2] 40)) := ⟨_, rfl⟩
  have hk : Kept 0 0 w4 w5 := by rw [hw]; exact (Kept.alloc0 _ _).alloc _
  have Nw : Hid (Blk w5 (w4.heap.size) 34 #[.slice DAW N.slots.ages.length dAW, .slice DBW N.slots.used.length dBW, .slice DCW N.list.length dCW]) := by show Blk _ _ _ _; rw [hw]; have := (Blk.new w4 34 #[.slice DAW N.slots.ages.length dAW, .slice DBW N.slots.used.length dBW, .slice DCW N.list.length dCW]).alloc (.cells #[.int .i64 h1, .int .i64 h2] 40); simpa using this
  have Nwh : Hid (Blk w5 (w4.heap.size + 1) 40 #[.int .i64 h1, .int .i64 h2]) := by show Blk _ _ _ _; rw [hw]; have := (Blk.new (w4.alloc (.cells #[.slice DAW N.slots.ages.length dAW, .slice DBW N.slots.used.length dBW, .slice DCW N.list.length dCW] 34)) 40 #[.int .i64 h1, .int .i64 h2]); simpa using this
  rw [← hw]
  have PW := Lib.hid (OW.out.kept hk (.inl (Nat.le_refl _)))
  have Ra := Lib.hid (Ba.out.kept hk (.inl (Nat.le_refl _)))
  clear OW
  have OW := PW
  clear PW
  clear Ba
  have Ba := Ra
  clear Ra
  have Bw := Nw
  clear Nw
  have yw : w4.heap.size + 0 < w5.heap.size := Bw.out.lt
  have Bwh := Nwh
  clear Nwh
  have ywh : w4.heap.size + 1 < w5.heap.size := Bwh.out.lt
  have K5 := Lib.hid (K4.out.trans hk)
  have z5 := hk.size
  clear hk hw K4
  with_reducible refine (toAs s _ _ (Hb.out.up K5.out) sa su sl).mono ?_
  rintro e w6 ⟨_, rfl, ⟨_, _, _, rfl, ⟨DAx, dAx, rfl, oa⟩, ⟨DBx, dBx, rfl, ob⟩, ⟨DCx, dCx, rfl, oc⟩⟩, hk⟩
  have PW := Lib.hid (OW.out.kept hk (.inl (Nat.le_refl _)))
  have Ra := Lib.hid (Ba.out.kept hk (.inl (Nat.le_refl _)))
  have Rw := Lib.hid (Bw.out.kept hk (.inl (Nat.le_refl _)))
  have Rwh := Lib.hid (Bwh.out.kept hk (.inl (Nat.le_refl _)))
  clear OW
  have OW := PW
  clear PW
  clear Ba
  have Ba := Ra
  clear Ra
  clear Bw
  have Bw := Rw
  clear Rw
  clear Bwh
  have Bwh := Rwh
  clear Rwh
  have Ox : Hid (OwnAs w6 w5.heap.size w6.heap.size (.agg #[.slice DAx s.slots.ages.length dAx, .slice DBx s.slots.used.length dBx, .slice DCx s.list.length dCx]) s) := ⟨_, _, _, rfl, ⟨DAx, dAx, rfl, oa⟩, ⟨DBx, dBx, rfl, ob⟩, ⟨DCx, dCx, rfl, oc⟩⟩
  have K6 := Lib.hid (K5.out.trans hk)
  have z6 := hk.size
  clear hk oa ob oc K5
  go_wp2_with fail
  obtain ⟨w7, hw⟩ : ∃ w7, w7 = (w6.alloc (.cells #[.slice DAx s.slots.ages.length dAx, .slice DBx s.slots.used.length dBx, .slice DCx s.list.length dCx] 34)) := ⟨_, rfl⟩
  have hk : Kept 0 0 w6 w7 := by rw [hw]; exact Kept.alloc0 _ _
  have Nx : Hid (Blk w7 (w6.heap.size) 34 #[.slice DAx s.slots.ages.length dAx, .slice DBx s.slots.used.length dBx, .slice DCx s.list.length dCx]) := by show Blk _ _ _ _; rw [hw]; have := (Blk.new w6 34 #[.slice DAx s.slots.ages.length dAx, .slice DBx s.slots.used.length dBx, .slice DCx s.list.length dCx]); simpa using this
  rw [← hw]
  have PW := Lib.hid (OW.out.kept hk (.inl (Nat.le_refl _)))
  have Px := Lib.hid (Ox.out.kept hk (.inl (Nat.le_refl _)))
  have Ra := Lib.hid (Ba.out.kept hk (.inl (Nat.le_refl _)))
  have Rw := Lib.hid (Bw.out.kept hk (.inl (Nat.le_refl _)))
  have Rwh := Lib.hid (Bwh.out.kept hk (.inl (Nat.le_refl _)))
  clear OW
  have OW := PW
  clear PW
  clear Ox
  have Ox := Px
  clear Px
  clear Ba
  have Ba := Ra
  clear Ra
  clear Bw
  have Bw := Rw
  clear Rw
  clear Bwh
  have Bwh := Rwh
  clear Rwh
  have Bx := Nx
  clear Nx
  have yx : w6.heap.size + 0 < w7.heap.size := Bx.out.lt
  have K7 := Lib.hid (K6.out.trans hk)
  have z7 := hk.size
  clear hk hw K6
  with_reducible refine (CI.out _ _ (Ox.out.rdW (by omega))).mono ?_
  rintro e w8 ⟨_, rfl, ⟨_, _, _, rfl, ⟨DAG, dAG, rfl, oa⟩, ⟨DBG, dBG, rfl, ob⟩, ⟨DCG, dCG, rfl, oc⟩⟩, hk⟩
  have PW := Lib.hid (OW.out.kept hk (.inl (Nat.le_refl _)))
  have Px := Lib.hid (Ox.out.kept hk (.inl (Nat.le_refl _)))
  have Ra := Lib.hid (Ba.out.kept hk (.inl (Nat.le_refl _)))
  have Rw := Lib.hid (Bw.out.kept hk (.inl (Nat.le_refl _)))
  have Rwh := Lib.hid (Bwh.out.kept hk (.inl (Nat.le_refl _)))
  have Rx := Lib.hid (Bx.out.kept hk (.inl (Nat.le_refl _)))
  clear OW
  have OW := PW
  clear PW
  clear Ox
  have Ox := Px
  clear Px
  clear Ba
  have Ba := Ra
  clear Ra
  clear Bw
  have Bw := Rw
  clear Rw
  clear Bwh
  have Bwh := Rwh
  clear Rwh
  clear Bx
  have Bx := Rx
  clear Rx
  have OG : Hid (OwnAs w8 w7.heap.size w8.heap.size (.agg #[.slice DAG N.slots.ages.length dAG, .slice DBG N.slots.used.length dBG, .slice DCG N.list.length dCG]) N) := ⟨_, _, _, rfl, ⟨DAG, dAG, rfl, oa⟩, ⟨DBG, dBG, rfl, ob⟩, ⟨DCG, dCG, rfl, oc⟩⟩
  have K8 := Lib.hid (K7.out.trans hk)
  have z8 := hk.size
  clear hk oa ob oc K7
  have cw0 := ax0 Bw.out
  have cw1 := ax1 Bw.out
  have cw2 := ax2 Bw.out
  have lw := Bw.out.lt
  go_wp2_with fail
  clear cw0 cw1 cw2 lw
  obtain ⟨w9, hw⟩ : ∃ w9, w9 = ((w8.alloc (.cells #[.slice DAG N.slots.ages.length dAG, .slice DBG N.slots.used.length dBG, .slice DCG N.list.length dCG] 34)).alloc (.cells #[.int .i64 h1, .int .i64 h2] 40)) := ⟨_, rfl⟩
  have hk : Kept 0 0 w8 w9 := by rw [hw]; exact (Kept.alloc0 _ _).alloc _
  have Ng : Hid (Blk w9 (w8.heap.size) 34 #[.slice DAG N.slots.ages.length dAG, .slice DBG N.slots.used.length dBG, .slice DCG N.list.length dCG]) := by show Blk _ _ _ _; rw [hw]; have := (Blk.new w8 34 #[.slice DAG N.slots.ages.length dAG, .slice DBG N.slots.used.length dBG, .slice DCG N.list.length dCG]).alloc (.cells #[.int .i64 h1, .int .i64 h2] 40); simpa using this
  have Ngh : Hid (Blk w9 (w8.heap.size + 1) 40 #[.int .i64 h1, .int .i64 h2]) := by show Blk _ _ _ _; rw [hw]; have := (Blk.new (w8.alloc (.cells #[.slice DAG N.slots.ages.length dAG, .slice DBG N.slots.used.length dBG, .slice DCG N.list.length dCG] 34)) 40 #[.int .i64 h1, .int .i64 h2]); simpa using this
  rw [← hw]
  have PW := Lib.hid (OW.out.kept hk (.inl (Nat.le_refl _)))
  have Px := Lib.hid (Ox.out.kept hk (.inl (Nat.le_refl _)))
  have PG := Lib.hid (OG.out.kept hk (.inl (Nat.le_refl _)))
  have Ra := Lib.hid (Ba.out.kept hk (.inl (Nat.le_refl _)))
  have Rw := Lib.hid (Bw.out.kept hk (.inl (Nat.le_refl _)))
  have Rwh := Lib.hid (Bwh.out.kept hk (.inl (Nat.le_refl _)))
  have Rx := Lib.hid (Bx.out.kept hk (.inl (Nat.le_refl _)))
  clear OW
  have OW := PW
  clear PW
  clear Ox
  have Ox := Px
  clear Px
  clear OG
  have OG := PG
  clear PG
  clear Ba
  have Ba := Ra
  clear Ra
  clear Bw
  have Bw := Rw
  clear Rw
  clear Bwh
  have Bwh := Rwh
  clear Rwh
  clear Bx
  have Bx := Rx
  clear Rx
  have Bg := Ng
  clear Ng
  have yg : w8.heap.size + 0 < w9.heap.size := Bg.out.lt
  have Bgh := Ngh
  clear Ngh
  have ygh : w8.heap.size + 1 < w9.heap.size := Bgh.out.lt
  have K9 := Lib.hid (K8.out.trans hk)
  have z9 := hk.size
  clear hk hw K8
  with_reducible refine (eqAs N _ _ _ (OG.out.rdW (by omega)) (OW.out.rdW (by omega))).mono ?_
  rintro e w10 ⟨rfl, hk⟩
  have PW := Lib.hid (OW.out.kept hk (.inl (Nat.le_refl _)))
  have Px := Lib.hid (Ox.out.kept hk (.inl (Nat.le_refl _)))
  have PG := Lib.hid (OG.out.kept hk (.inl (Nat.le_refl _)))
  have Ra := Lib.hid (Ba.out.kept hk (.inl (Nat.le_refl _)))
  have Rw := Lib.hid (Bw.out.kept hk (.inl (Nat.le_refl _)))
  have Rwh := Lib.hid (Bwh.out.kept hk (.inl (Nat.le_refl _)))
  have Rx := Lib.hid (Bx.out.kept hk (.inl (Nat.le_refl _)))
  have Rg := Lib.hid (Bg.out.kept hk (.inl (Nat.le_refl _)))
  have Rgh := Lib.hid (Bgh.out.kept hk (.inl (Nat.le_refl _)))
  clear OW
  have OW := PW
  clear PW
  clear Ox
  have Ox := Px
  clear Px
  clear OG
  have OG := PG
  clear PG
  clear Ba
  have Ba := Ra
  clear Ra
  clear Bw
  have Bw := Rw
  clear Rw
  clear Bwh
  have Bwh := Rwh
  clear Rwh
  clear Bx
  have Bx := Rx
  clear Rx
  clear Bg
  have Bg := Rg
  clear Rg
  clear Bgh
  have Bgh := Rgh
  clear Rgh
  have K10 := Lib.hid (K9.out.trans hk)
  have z10 := hk.size
  clear hk K9
  have cgh0 := ay0 Bgh.out
  have cgh1 := ay1 Bgh.out
  have lgh := Bgh.out.lt
  have cwh0 := ay0 Bwh.out
  have cwh1 := ay1 Bwh.out
  have lwh := Bwh.out.lt
  go_wp2_with fail
  clear cgh0 cgh1 cwh0 cwh1 lgh lwh
  with_reducible refine (eqHandle_same h1 h2 _).mono ?_
  rintro e w11 ⟨rfl, hk⟩
  have PW := Lib.hid (OW.out.kept hk (.inl (Nat.le_refl _)))
  have Px := Lib.hid (Ox.out.kept hk (.inl (Nat.le_refl _)))
  have PG := Lib.hid (OG.out.kept hk (.inl (Nat.le_refl _)))
  have Ra := Lib.hid (Ba.out.kept hk (.inl (Nat.le_refl _)))
  have Rw := Lib.hid (Bw.out.kept hk (.inl (Nat.le_refl _)))
  have Rwh := Lib.hid (Bwh.out.kept hk (.inl (Nat.le_refl _)))
  have Rx := Lib.hid (Bx.out.kept hk (.inl (Nat.le_refl _)))
  have Rg := Lib.hid (Bg.out.kept hk (.inl (Nat.le_refl _)))
  have Rgh := Lib.hid (Bgh.out.kept hk (.inl (Nat.le_refl _)))
  clear OW
  have OW := PW
  clear PW
  clear Ox
  have Ox := Px
  clear Px
  clear OG
  have OG := PG
  clear PG
  clear Ba
  have Ba := Ra
  clear Ra
  clear Bw
  have Bw := Rw
  clear Rw
  clear Bwh
  have Bwh := Rwh
  clear Rwh
  clear Bx
  have Bx := Rx
  clear Rx
  clear Bg
  have Bg := Rg
  clear Rg
  clear Bgh
  have Bgh := Rgh
  clear Rgh
  have K11 := Lib.hid (K10.out.trans hk)
  have z11 := hk.size
  clear hk K10
  go_upto_region 10 with fail
  have lx := Bx.out.lt
  have la := Ba.out.lt
  go_region_held3 (fun w' => w'.cell? ⟨(w6.heap.size), 0, none⟩ = some (.slice DAx s.slots.ages.length dAx) ∧ w'.cell? ⟨(w6.heap.size), 1, none⟩ = some (.slice DBx s.slots.used.length dBx) ∧ w'.cell? ⟨(w6.heap.size), 2, none⟩ = some (.slice DCx s.list.length dCx) ∧ w'.cell? ⟨(w.heap.size), 0, none⟩ = some (.slice A1 s.slots.ages.length q1) ∧ w'.cell? ⟨(w.heap.size), 1, none⟩ = some (.slice A2 s.slots.used.length q2) ∧ w'.cell? ⟨(w.heap.size), 2, none⟩ = some (.slice A3 s.list.length q3))
    (first | with_reducible exact ⟨ax0 Bx.out.drew, ax1 Bx.out.drew, ax2 Bx.out.drew, ax0 Ba.out.drew, ax1 Ba.out.drew, ax2 Ba.out.drew⟩ | with_reducible exact ⟨ax0 Xx, ax1 Xx, ax2 Xx, ax0 Xa, ax1 Xa, ax2 Xa⟩ | with_reducible exact ⟨ax0 Yx, ax1 Yx, ax2 Yx, ax0 Ya, ax1 Ya, ax2 Ya⟩)
    (first | (go_at_call 22; (with_reducible refine (toAs s _ w11.drew (Hb.out.up K11.out.drew) sa su sl).mono ?_); rintro e w12 ⟨u1, rfl, oy, hk⟩; have k1 : Kept 0 0 w11 w12 := (Kept.refl 0 0 w11).drew.trans hk; have Xx := Bx.out.kept k1 (.inl (Nat.le_refl _)); have Xa := Ba.out.kept k1 (.inl (Nat.le_refl _)); have zz := k1.size; clear hk) | (go_at_call 23; (with_reducible refine (eqAs s _ _ w12 ((Ox.out.kept k1 (.inl (Nat.le_refl _))).rdW (by omega)) (oy.rdW (Nat.le_refl _))).mono ?_); rintro e w13 ⟨rfl, hk⟩; have k2 : Kept 0 0 w11 w13 := k1.trans hk; have Yx := Bx.out.kept k2 (.inl (Nat.le_refl _)); have Ya := Ba.out.kept k2 (.inl (Nat.le_refl _)); have ks := Lib.hid k2; clear hk))
  clear Xx Xa Yx Ya k1 k2 oy zz lx la
  have PW := Lib.hid (OW.out.kept ks.out (.inl (Nat.le_refl _)))
  have Px := Lib.hid (Ox.out.kept ks.out (.inl (Nat.le_refl _)))
  have PG := Lib.hid (OG.out.kept ks.out (.inl (Nat.le_refl _)))
  have Ra := Lib.hid (Ba.out.kept ks.out (.inl (Nat.le_refl _)))
  have Rw := Lib.hid (Bw.out.kept ks.out (.inl (Nat.le_refl _)))
  have Rwh := Lib.hid (Bwh.out.kept ks.out (.inl (Nat.le_refl _)))
  have Rx := Lib.hid (Bx.out.kept ks.out (.inl (Nat.le_refl _)))
  have Rg := Lib.hid (Bg.out.kept ks.out (.inl (Nat.le_refl _)))
  have Rgh := Lib.hid (Bgh.out.kept ks.out (.inl (Nat.le_refl _)))
  clear OW
  have OW := PW
  clear PW
  clear Ox
  have Ox := Px
  clear Px
  clear OG
  have OG := PG
  clear PG
  clear Ba
  have Ba := Ra
  clear Ra
  clear Bw
  have Bw := Rw
  clear Rw
  clear Bwh
  have Bwh := Rwh
  clear Rwh
  clear Bx
  have Bx := Rx
  clear Rx
  clear Bg
  have Bg := Rg
  clear Rg
  clear Bgh
  have Bgh := Rgh
  clear Rgh
  have K13 := Lib.hid (K11.out.trans ks.out)
  have z13 := ks.out.size
  clear ks K11
  obtain ⟨mS, hmS⟩ : ∃ mS, mS = markAsN 1 s := ⟨_, rfl⟩
  obtain ⟨mN, hmN⟩ : ∃ mN, mN = markAsN 1 N := ⟨_, rfl⟩
  have pS : 0 ≤ mS := by rw [hmS]; exact markAsN_pos _
  have pN : 0 ≤ mN := by rw [hmN]; exact markAsN_pos _
  have HmS := Lib.hid hmS.symm
  have HmN := Lib.hid hmN.symm
  clear hmS hmN
  have cx0 := ax0 Bx.out
  have cx1 := ax1 Bx.out
  have cx2 := ax2 Bx.out
  have lx := Bx.out.lt
  go_wp2_with fail
  clear cx0 cx1 cx2 lx
  with_reducible refine (markAs (1) s _ (w5.heap.size) (w6.heap.size) _ Ox.out (by omega) (by omega) sa su sl (by omega)).mono ?_
  rintro e w14 ⟨rfl, ho, hk⟩
  have PW := Lib.hid (OW.out.kept hk (by omega))
  have PG := Lib.hid (OG.out.kept hk (by omega))
  have Ra := Lib.hid (Ba.out.kept hk (by omega))
  have Rw := Lib.hid (Bw.out.kept hk (by omega))
  have Rwh := Lib.hid (Bwh.out.kept hk (by omega))
  have Rx := Lib.hid (Bx.out.kept hk (by omega))
  have Rg := Lib.hid (Bg.out.kept hk (by omega))
  have Rgh := Lib.hid (Bgh.out.kept hk (by omega))
  clear OW
  have OW := PW
  clear PW
  clear OG
  have OG := PG
  clear PG
  clear Ba
  have Ba := Ra
  clear Ra
  clear Bw
  have Bw := Rw
  clear Rw
  clear Bwh
  have Bwh := Rwh
  clear Rwh
  clear Bx
  have Bx := Rx
  clear Rx
  clear Bg
  have Bg := Rg
  clear Rg
  clear Bgh
  have Bgh := Rgh
  clear Rgh
  clear Ox
  have Ox := Lib.hid ho
  have K14 := Lib.hid (K13.out.trans2 hk (.inr (by omega)))
  have z14 := hk.size
  clear hk ho K13
  rw [HmS.out]
  have cg0 := ax0 Bg.out
  have cg1 := ax1 Bg.out
  have cg2 := ax2 Bg.out
  have lg := Bg.out.lt
  have cw0 := ax0 Bw.out
  have cw1 := ax1 Bw.out
  have cw2 := ax2 Bw.out
  have lw := Bw.out.lt
  go_wp2_with fail
  clear cg0 cg1 cg2 cw0 cw1 cw2 lg lw
  with_reducible refine (eqAs N _ _ _ (OG.out.rdW (by omega)) (OW.out.rdW (by omega))).mono ?_
  rintro e w15 ⟨rfl, hk⟩
  have PW := Lib.hid (OW.out.kept hk (.inl (Nat.le_refl _)))
  have Px := Lib.hid (Ox.out.kept hk (.inl (Nat.le_refl _)))
  have PG := Lib.hid (OG.out.kept hk (.inl (Nat.le_refl _)))
  have Ra := Lib.hid (Ba.out.kept hk (.inl (Nat.le_refl _)))
  have Rw := Lib.hid (Bw.out.kept hk (.inl (Nat.le_refl _)))
  have Rwh := Lib.hid (Bwh.out.kept hk (.inl (Nat.le_refl _)))
  have Rx := Lib.hid (Bx.out.kept hk (.inl (Nat.le_refl _)))
  have Rg := Lib.hid (Bg.out.kept hk (.inl (Nat.le_refl _)))
  have Rgh := Lib.hid (Bgh.out.kept hk (.inl (Nat.le_refl _)))
  clear OW
  have OW := PW
  clear PW
  clear Ox
  have Ox := Px
  clear Px
  clear OG
  have OG := PG
  clear PG
  clear Ba
  have Ba := Ra
  clear Ra
  clear Bw
  have Bw := Rw
  clear Rw
  clear Bwh
  have Bwh := Rwh
  clear Rwh
  clear Bx
  have Bx := Rx
  clear Rx
  clear Bg
  have Bg := Rg
  clear Rg
  clear Bgh
  have Bgh := Rgh
  clear Rgh
  have K15 := Lib.hid (K14.out.trans hk)
  have z15 := hk.size
  clear hk K14
  have cgh0 := ay0 Bgh.out
  have cgh1 := ay1 Bgh.out
  have lgh := Bgh.out.lt
  have cwh0 := ay0 Bwh.out
  have cwh1 := ay1 Bwh.out
  have lwh := Bwh.out.lt
  go_wp2_with fail
  clear cgh0 cgh1 cwh0 cwh1 lgh lwh
  with_reducible refine (eqHandle_same h1 h2 _).mono ?_
  rintro e w16 ⟨rfl, hk⟩
  have PW := Lib.hid (OW.out.kept hk (.inl (Nat.le_refl _)))
  have Px := Lib.hid (Ox.out.kept hk (.inl (Nat.le_refl _)))
  have PG := Lib.hid (OG.out.kept hk (.inl (Nat.le_refl _)))
  have Ra := Lib.hid (Ba.out.kept hk (.inl (Nat.le_refl _)))
  have Rw := Lib.hid (Bw.out.kept hk (.inl (Nat.le_refl _)))
  have Rwh := Lib.hid (Bwh.out.kept hk (.inl (Nat.le_refl _)))
  have Rx := Lib.hid (Bx.out.kept hk (.inl (Nat.le_refl _)))
  have Rg := Lib.hid (Bg.out.kept hk (.inl (Nat.le_refl _)))
  have Rgh := Lib.hid (Bgh.out.kept hk (.inl (Nat.le_refl _)))
  clear OW
  have OW := PW
  clear PW
  clear Ox
  have Ox := Px
  clear Px
  clear OG
  have OG := PG
  clear PG
  clear Ba
  have Ba := Ra
  clear Ra
  clear Bw
  have Bw := Rw
  clear Rw
  clear Bwh
  have Bwh := Rwh
  clear Rwh
  clear Bx
  have Bx := Rx
  clear Rx
  clear Bg
  have Bg := Rg
  clear Rg
  clear Bgh
  have Bgh := Rgh
  clear Rgh
  have K16 := Lib.hid (K15.out.trans hk)
  have z16 := hk.size
  clear hk K15
  have cg0 := ax0 Bg.out
  have cg1 := ax1 Bg.out
  have cg2 := ax2 Bg.out
  have lg := Bg.out.lt
  go_wp2_with fail
  clear cg0 cg1 cg2 lg
  with_reducible refine (markAs (1) N _ (w7.heap.size) (w8.heap.size) _ OG.out (by omega) (by omega) Na Nu Nl (by omega)).mono ?_
  rintro e w17 ⟨rfl, ho, hk⟩
  have PW := Lib.hid (OW.out.kept hk (by omega))
  have Px := Lib.hid (Ox.out.kept hk (by omega))
  have Ra := Lib.hid (Ba.out.kept hk (by omega))
  have Rw := Lib.hid (Bw.out.kept hk (by omega))
  have Rwh := Lib.hid (Bwh.out.kept hk (by omega))
  have Rx := Lib.hid (Bx.out.kept hk (by omega))
  have Rg := Lib.hid (Bg.out.kept hk (by omega))
  have Rgh := Lib.hid (Bgh.out.kept hk (by omega))
  clear OW
  have OW := PW
  clear PW
  clear Ox
  have Ox := Px
  clear Px
  clear Ba
  have Ba := Ra
  clear Ra
  clear Bw
  have Bw := Rw
  clear Rw
  clear Bwh
  have Bwh := Rwh
  clear Rwh
  clear Bx
  have Bx := Rx
  clear Rx
  clear Bg
  have Bg := Rg
  clear Rg
  clear Bgh
  have Bgh := Rgh
  clear Rgh
  clear OG
  have OG := Lib.hid ho
  have K17 := Lib.hid (K16.out.trans2 hk (.inr (by omega)))
  have z17 := hk.size
  clear hk ho K16
  rw [HmN.out]
  have cg0 := ax0 Bg.out
  have cg1 := ax1 Bg.out
  have cg2 := ax2 Bg.out
  have lg := Bg.out.lt
  go_wp2_with fail
  clear cg0 cg1 cg2 lg
  with_reducible refine (heldAs 1 N _ _ (OG.out.rdW (by omega)) (by omega) (by omega) Na Nu Nl).mono ?_
  rintro e w18 ⟨rfl, hk⟩
  have PW := Lib.hid (OW.out.kept hk (.inl (Nat.le_refl _)))
  have Px := Lib.hid (Ox.out.kept hk (.inl (Nat.le_refl _)))
  have PG := Lib.hid (OG.out.kept hk (.inl (Nat.le_refl _)))
  have Ra := Lib.hid (Ba.out.kept hk (.inl (Nat.le_refl _)))
  have Rw := Lib.hid (Bw.out.kept hk (.inl (Nat.le_refl _)))
  have Rwh := Lib.hid (Bwh.out.kept hk (.inl (Nat.le_refl _)))
  have Rx := Lib.hid (Bx.out.kept hk (.inl (Nat.le_refl _)))
  have Rg := Lib.hid (Bg.out.kept hk (.inl (Nat.le_refl _)))
  have Rgh := Lib.hid (Bgh.out.kept hk (.inl (Nat.le_refl _)))
  clear OW
  have OW := PW
  clear PW
  clear Ox
  have Ox := Px
  clear Px
  clear OG
  have OG := PG
  clear PG
  clear Ba
  have Ba := Ra
  clear Ra
  clear Bw
  have Bw := Rw
  clear Rw
  clear Bwh
  have Bwh := Rwh
  clear Rwh
  clear Bx
  have Bx := Rx
  clear Rx
  clear Bg
  have Bg := Rg
  clear Rg
  clear Bgh
  have Bgh := Rgh
  clear Rgh
  have K18 := Lib.hid (K17.out.trans hk)
  have z18 := hk.size
  clear hk K17
  rw [HmN.out]
  have qm : (mN != mN) = false := by simp
  clear Ox
  have ca0 := ax0 Ba.out
  have ca1 := ax1 Ba.out
  have ca2 := ax2 Ba.out
  have la := Ba.out.lt
  go_wp2_with fail
  clear ca0 ca1 ca2 la
  with_reducible refine (toAs s _ _ (Hb.out.up K18.out) sa su sl).mono ?_
  rintro e w19 ⟨_, rfl, ⟨_, _, _, rfl, ⟨DAp, dAp, rfl, oa⟩, ⟨DBp, dBp, rfl, ob⟩, ⟨DCp, dCp, rfl, oc⟩⟩, hk⟩
  have PW := Lib.hid (OW.out.kept hk (.inl (Nat.le_refl _)))
  have PG := Lib.hid (OG.out.kept hk (.inl (Nat.le_refl _)))
  have Ra := Lib.hid (Ba.out.kept hk (.inl (Nat.le_refl _)))
  have Rw := Lib.hid (Bw.out.kept hk (.inl (Nat.le_refl _)))
  have Rwh := Lib.hid (Bwh.out.kept hk (.inl (Nat.le_refl _)))
  have Rx := Lib.hid (Bx.out.kept hk (.inl (Nat.le_refl _)))
  have Rg := Lib.hid (Bg.out.kept hk (.inl (Nat.le_refl _)))
  have Rgh := Lib.hid (Bgh.out.kept hk (.inl (Nat.le_refl _)))
  clear OW
  have OW := PW
  clear PW
  clear OG
  have OG := PG
  clear PG
  clear Ba
  have Ba := Ra
  clear Ra
  clear Bw
  have Bw := Rw
  clear Rw
  clear Bwh
  have Bwh := Rwh
  clear Rwh
  clear Bx
  have Bx := Rx
  clear Rx
  clear Bg
  have Bg := Rg
  clear Rg
  clear Bgh
  have Bgh := Rgh
  clear Rgh
  have Op : Hid (OwnAs w19 w18.heap.size w19.heap.size (.agg #[.slice DAp s.slots.ages.length dAp, .slice DBp s.slots.used.length dBp, .slice DCp s.list.length dCp]) s) := ⟨_, _, _, rfl, ⟨DAp, dAp, rfl, oa⟩, ⟨DBp, dBp, rfl, ob⟩, ⟨DCp, dCp, rfl, oc⟩⟩
  have K19 := Lib.hid (K18.out.trans hk)
  have z19 := hk.size
  clear hk oa ob oc K18
  go_wp2_with fail
  with_reducible refine (CI.out _ _ (Op.out.rdW (by omega))).mono ?_
  rintro e w20 ⟨_, rfl, ⟨_, _, _, rfl, ⟨DAQ, dAQ, rfl, oa⟩, ⟨DBQ, dBQ, rfl, ob⟩, ⟨DCQ, dCQ, rfl, oc⟩⟩, hk⟩
  have PW := Lib.hid (OW.out.kept hk (.inl (Nat.le_refl _)))
  have PG := Lib.hid (OG.out.kept hk (.inl (Nat.le_refl _)))
  have Pp := Lib.hid (Op.out.kept hk (.inl (Nat.le_refl _)))
  have Ra := Lib.hid (Ba.out.kept hk (.inl (Nat.le_refl _)))
  have Rw := Lib.hid (Bw.out.kept hk (.inl (Nat.le_refl _)))
  have Rwh := Lib.hid (Bwh.out.kept hk (.inl (Nat.le_refl _)))
  have Rx := Lib.hid (Bx.out.kept hk (.inl (Nat.le_refl _)))
  have Rg := Lib.hid (Bg.out.kept hk (.inl (Nat.le_refl _)))
  have Rgh := Lib.hid (Bgh.out.kept hk (.inl (Nat.le_refl _)))
  clear OW
  have OW := PW
  clear PW
  clear OG
  have OG := PG
  clear PG
  clear Op
  have Op := Pp
  clear Pp
  clear Ba
  have Ba := Ra
  clear Ra
  clear Bw
  have Bw := Rw
  clear Rw
  clear Bwh
  have Bwh := Rwh
  clear Rwh
  clear Bx
  have Bx := Rx
  clear Rx
  clear Bg
  have Bg := Rg
  clear Rg
  clear Bgh
  have Bgh := Rgh
  clear Rgh
  have OQ : Hid (OwnAs w20 w19.heap.size w20.heap.size (.agg #[.slice DAQ N.slots.ages.length dAQ, .slice DBQ N.slots.used.length dBQ, .slice DCQ N.list.length dCQ]) N) := ⟨_, _, _, rfl, ⟨DAQ, dAQ, rfl, oa⟩, ⟨DBQ, dBQ, rfl, ob⟩, ⟨DCQ, dCQ, rfl, oc⟩⟩
  have K20 := Lib.hid (K19.out.trans hk)
  have z20 := hk.size
  clear hk oa ob oc K19
  clear Op
  have cw0 := ax0 Bw.out
  have cw1 := ax1 Bw.out
  have cw2 := ax2 Bw.out
  have lw := Bw.out.lt
  go_wp2_with fail
  clear cw0 cw1 cw2 lw
  obtain ⟨w21, hw⟩ : ∃ w21, w21 = ((w20.alloc (.cells #[.slice DAQ N.slots.ages.length dAQ, .slice DBQ N.slots.used.length dBQ, .slice DCQ N.list.length dCQ] 34)).alloc (.cells #[.int .i64 h1, .int .i64 h2] 40)) := ⟨_, rfl⟩
  have hk : Kept 0 0 w20 w21 := by rw [hw]; exact (Kept.alloc0 _ _).alloc _
  have Nq : Hid (Blk w21 (w20.heap.size) 34 #[.slice DAQ N.slots.ages.length dAQ, .slice DBQ N.slots.used.length dBQ, .slice DCQ N.list.length dCQ]) := by show Blk _ _ _ _; rw [hw]; have := (Blk.new w20 34 #[.slice DAQ N.slots.ages.length dAQ, .slice DBQ N.slots.used.length dBQ, .slice DCQ N.list.length dCQ]).alloc (.cells #[.int .i64 h1, .int .i64 h2] 40); simpa using this
  have Nqh : Hid (Blk w21 (w20.heap.size + 1) 40 #[.int .i64 h1, .int .i64 h2]) := by show Blk _ _ _ _; rw [hw]; have := (Blk.new (w20.alloc (.cells #[.slice DAQ N.slots.ages.length dAQ, .slice DBQ N.slots.used.length dBQ, .slice DCQ N.list.length dCQ] 34)) 40 #[.int .i64 h1, .int .i64 h2]); simpa using this
  rw [← hw]
  have PW := Lib.hid (OW.out.kept hk (.inl (Nat.le_refl _)))
  have PG := Lib.hid (OG.out.kept hk (.inl (Nat.le_refl _)))
  have PQ := Lib.hid (OQ.out.kept hk (.inl (Nat.le_refl _)))
  have Ra := Lib.hid (Ba.out.kept hk (.inl (Nat.le_refl _)))
  have Rw := Lib.hid (Bw.out.kept hk (.inl (Nat.le_refl _)))
  have Rwh := Lib.hid (Bwh.out.kept hk (.inl (Nat.le_refl _)))
  have Rx := Lib.hid (Bx.out.kept hk (.inl (Nat.le_refl _)))
  have Rg := Lib.hid (Bg.out.kept hk (.inl (Nat.le_refl _)))
  have Rgh := Lib.hid (Bgh.out.kept hk (.inl (Nat.le_refl _)))
  clear OW
  have OW := PW
  clear PW
  clear OG
  have OG := PG
  clear PG
  clear OQ
  have OQ := PQ
  clear PQ
  clear Ba
  have Ba := Ra
  clear Ra
  clear Bw
  have Bw := Rw
  clear Rw
  clear Bwh
  have Bwh := Rwh
  clear Rwh
  clear Bx
  have Bx := Rx
  clear Rx
  clear Bg
  have Bg := Rg
  clear Rg
  clear Bgh
  have Bgh := Rgh
  clear Rgh
  have Bq := Nq
  clear Nq
  have yq : w20.heap.size + 0 < w21.heap.size := Bq.out.lt
  have Bqh := Nqh
  clear Nqh
  have yqh : w20.heap.size + 1 < w21.heap.size := Bqh.out.lt
  have K21 := Lib.hid (K20.out.trans hk)
  have z21 := hk.size
  clear hk hw K20
  with_reducible refine (eqAs N _ _ _ (OQ.out.rdW (by omega)) (OW.out.rdW (by omega))).mono ?_
  rintro e w22 ⟨rfl, hk⟩
  have PW := Lib.hid (OW.out.kept hk (.inl (Nat.le_refl _)))
  have PG := Lib.hid (OG.out.kept hk (.inl (Nat.le_refl _)))
  have PQ := Lib.hid (OQ.out.kept hk (.inl (Nat.le_refl _)))
  have Ra := Lib.hid (Ba.out.kept hk (.inl (Nat.le_refl _)))
  have Rw := Lib.hid (Bw.out.kept hk (.inl (Nat.le_refl _)))
  have Rwh := Lib.hid (Bwh.out.kept hk (.inl (Nat.le_refl _)))
  have Rx := Lib.hid (Bx.out.kept hk (.inl (Nat.le_refl _)))
  have Rg := Lib.hid (Bg.out.kept hk (.inl (Nat.le_refl _)))
  have Rgh := Lib.hid (Bgh.out.kept hk (.inl (Nat.le_refl _)))
  have Rq := Lib.hid (Bq.out.kept hk (.inl (Nat.le_refl _)))
  have Rqh := Lib.hid (Bqh.out.kept hk (.inl (Nat.le_refl _)))
  clear OW
  have OW := PW
  clear PW
  clear OG
  have OG := PG
  clear PG
  clear OQ
  have OQ := PQ
  clear PQ
  clear Ba
  have Ba := Ra
  clear Ra
  clear Bw
  have Bw := Rw
  clear Rw
  clear Bwh
  have Bwh := Rwh
  clear Rwh
  clear Bx
  have Bx := Rx
  clear Rx
  clear Bg
  have Bg := Rg
  clear Rg
  clear Bgh
  have Bgh := Rgh
  clear Rgh
  clear Bq
  have Bq := Rq
  clear Rq
  clear Bqh
  have Bqh := Rqh
  clear Rqh
  have K22 := Lib.hid (K21.out.trans hk)
  have z22 := hk.size
  clear hk K21
  have cqh0 := ay0 Bqh.out
  have cqh1 := ay1 Bqh.out
  have lqh := Bqh.out.lt
  have cwh0 := ay0 Bwh.out
  have cwh1 := ay1 Bwh.out
  have lwh := Bwh.out.lt
  go_wp2_with fail
  clear cqh0 cqh1 cwh0 cwh1 lqh lwh
  with_reducible refine (eqHandle_same h1 h2 _).mono ?_
  rintro e w23 ⟨rfl, hk⟩
  have PW := Lib.hid (OW.out.kept hk (.inl (Nat.le_refl _)))
  have PG := Lib.hid (OG.out.kept hk (.inl (Nat.le_refl _)))
  have PQ := Lib.hid (OQ.out.kept hk (.inl (Nat.le_refl _)))
  have Ra := Lib.hid (Ba.out.kept hk (.inl (Nat.le_refl _)))
  have Rw := Lib.hid (Bw.out.kept hk (.inl (Nat.le_refl _)))
  have Rwh := Lib.hid (Bwh.out.kept hk (.inl (Nat.le_refl _)))
  have Rx := Lib.hid (Bx.out.kept hk (.inl (Nat.le_refl _)))
  have Rg := Lib.hid (Bg.out.kept hk (.inl (Nat.le_refl _)))
  have Rgh := Lib.hid (Bgh.out.kept hk (.inl (Nat.le_refl _)))
  have Rq := Lib.hid (Bq.out.kept hk (.inl (Nat.le_refl _)))
  have Rqh := Lib.hid (Bqh.out.kept hk (.inl (Nat.le_refl _)))
  clear OW
  have OW := PW
  clear PW
  clear OG
  have OG := PG
  clear PG
  clear OQ
  have OQ := PQ
  clear PQ
  clear Ba
  have Ba := Ra
  clear Ra
  clear Bw
  have Bw := Rw
  clear Rw
  clear Bwh
  have Bwh := Rwh
  clear Rwh
  clear Bx
  have Bx := Rx
  clear Rx
  clear Bg
  have Bg := Rg
  clear Rg
  clear Bgh
  have Bgh := Rgh
  clear Rgh
  clear Bq
  have Bq := Rq
  clear Rq
  clear Bqh
  have Bqh := Rqh
  clear Rqh
  have K23 := Lib.hid (K22.out.trans hk)
  have z23 := hk.size
  clear hk K22
  have cg0 := ax0 Bg.out
  have cg1 := ax1 Bg.out
  have cg2 := ax2 Bg.out
  have lg := Bg.out.lt
  go_wp2_with fail
  clear cg0 cg1 cg2 lg
  with_reducible refine (heldAs 1 N _ _ (OG.out.rdW (by omega)) (by omega) (by omega) Na Nu Nl).mono ?_
  rintro e w24 ⟨rfl, hk⟩
  have PW := Lib.hid (OW.out.kept hk (.inl (Nat.le_refl _)))
  have PG := Lib.hid (OG.out.kept hk (.inl (Nat.le_refl _)))
  have PQ := Lib.hid (OQ.out.kept hk (.inl (Nat.le_refl _)))
  have Ra := Lib.hid (Ba.out.kept hk (.inl (Nat.le_refl _)))
  have Rw := Lib.hid (Bw.out.kept hk (.inl (Nat.le_refl _)))
  have Rwh := Lib.hid (Bwh.out.kept hk (.inl (Nat.le_refl _)))
  have Rx := Lib.hid (Bx.out.kept hk (.inl (Nat.le_refl _)))
  have Rg := Lib.hid (Bg.out.kept hk (.inl (Nat.le_refl _)))
  have Rgh := Lib.hid (Bgh.out.kept hk (.inl (Nat.le_refl _)))
  have Rq := Lib.hid (Bq.out.kept hk (.inl (Nat.le_refl _)))
  have Rqh := Lib.hid (Bqh.out.kept hk (.inl (Nat.le_refl _)))
  clear OW
  have OW := PW
  clear PW
  clear OG
  have OG := PG
  clear PG
  clear OQ
  have OQ := PQ
  clear PQ
  clear Ba
  have Ba := Ra
  clear Ra
  clear Bw
  have Bw := Rw
  clear Rw
  clear Bwh
  have Bwh := Rwh
  clear Rwh
  clear Bx
  have Bx := Rx
  clear Rx
  clear Bg
  have Bg := Rg
  clear Rg
  clear Bgh
  have Bgh := Rgh
  clear Rgh
  clear Bq
  have Bq := Rq
  clear Rq
  clear Bqh
  have Bqh := Rqh
  clear Rqh
  have K24 := Lib.hid (K23.out.trans hk)
  have z24 := hk.size
  clear hk K23
  rw [HmN.out]
  go_wp2_with fail
  go_ret
  exact ⟨rfl, K24.out⟩
set_option maxHeartbeats 800000 in
theorem lawReg (D : DoesAsR 17) (s : Afs) (node fn : Int) (v : Value) (w : World) (hb : RdAs w w.heap.size v s) :
    Calls Try.prog 6 #[v, .int .i64 node, .int .i64 fn] w fun e w' => e = .returned (.bool true) ∧ Kept 0 0 w w' := by
  rcases Nat.lt_or_ge 1048576 (s.slots.ages.length + s.slots.used.length + s.list.length) with hl | hl
  case inr => exact lawReg_small D s node fn v w hb hl
  obtain ⟨_, _, _, rfl, ⟨A1, q1, rfl, s1⟩, ⟨A2, q2, rfl, s2⟩, ⟨A3, q3, rfl, s3⟩⟩ := hb
  have Hb : Hid (RdAs w w.heap.size (.agg #[.slice A1 s.slots.ages.length q1, .slice A2 s.slots.used.length q2, .slice A3 s.list.length q3]) s) := ⟨_, _, _, rfl, ⟨A1, q1, rfl, s1⟩, ⟨A2, q2, rfl, s2⟩, ⟨A3, q3, rfl, s3⟩⟩
  obtain ⟨W, hW⟩ : ∃ W, W = w.alloc (.cells #[.slice A1 s.slots.ages.length q1, .slice A2 s.slots.used.length q2, .slice A3 s.list.length q3] 53) := ⟨_, rfl⟩
  have KW : Hid (Kept 0 0 w W) := by show Kept _ _ _ _; rw [hW]; exact Kept.alloc0 _ _
  have HW := Lib.hid hW
  have CS := Lib.hid (szAs_neg s _ 1048576 W (Hb.out.up KW.out) (by unfold szAsN; omega) (by omega) (by omega))
  clear hW s1 s2 s3
  go_enter Try.func6, Try.ntmps6
  go_wp2_with fail
  rw [← HW.out]
  with_reducible refine CS.out.mono ?_
  rintro e w1 ⟨rfl, hk⟩
  have K1 := Lib.hid (KW.out.trans hk)
  clear hk CS
  go_wp2
  go_ret
  exact ⟨rfl, K1.out⟩


set_option maxHeartbeats 12800000 in
set_option maxRecDepth 100000 in
theorem lawOff_small (D : DoesAsC 16) (s : Afs) (hs hg : Int) (v : Value) (w : World) (hb : RdAs w w.heap.size v s) (hn : s.slots.ages.length + s.slots.used.length + s.list.length ≤ 1048576) :
    Calls Try.prog 7 #[v, .agg #[.int .i64 hs, .int .i64 hg]] w fun e w' => e = .returned (.bool true) ∧ Kept 0 0 w w' := by
  obtain ⟨_, _, _, rfl, ⟨A1, q1, rfl, s1⟩, ⟨A2, q2, rfl, s2⟩, ⟨A3, q3, rfl, s3⟩⟩ := hb
  have Hb : Hid (RdAs w w.heap.size (.agg #[.slice A1 s.slots.ages.length q1, .slice A2 s.slots.used.length q2, .slice A3 s.list.length q3]) s) := ⟨_, _, _, rfl, ⟨A1, q1, rfl, s1⟩, ⟨A2, q2, rfl, s2⟩, ⟨A3, q3, rfl, s3⟩⟩
  clear s1 s2 s3
  have sa : s.slots.ages.length ≤ 1048576 := by omega
  have su : s.slots.used.length ≤ 1048576 := by omega
  have sl : s.list.length ≤ 1048576 := by omega
  have sz : szAsN s ≤ 1048576 := by unfold szAsN; omega
  have SZ : Hid ((0 : Int) ≤ 1048576 - s.slots.ages.length - s.slots.used.length - s.list.length) := by show _ ≤ _; omega
  obtain ⟨N, hN⟩ : ∃ N, N = pickA (offB hs hg) s := ⟨_, rfl⟩
  obtain ⟨bb, hbb⟩ : ∃ bb, bb = pickB (offB hs hg) s := ⟨_, rfl⟩
  have NL : N.slots.ages.length ≤ 1048576 ∧ N.slots.used.length ≤ 1048576 ∧ N.list.length ≤ 1048576 := by rw [hN]; exact pickA_len _ _
  have Na := NL.1
  have Nu := NL.2.1
  have Nl := NL.2.2
  have CS : Hid (∀ (x : Value) (X : World), RdAs X X.heap.size x s → Calls Try.prog 29 #[x, .agg #[.int .i64 hs, .int .i64 hg]] X fun e w' => ∃ z, e = .returned (.tuple #[z, .bool bb]) ∧ OwnAs w' X.heap.size w'.heap.size z N ∧ Kept 0 0 X w') := by
    intro x X h1
    have := specOff s hs hg x X h1
    rw [← hN, ← hbb] at this
    exact this
  have CI : Hid (∀ (x : Value) (X : World), RdAs X X.heap.size x s → Calls Try.prog 16 #[x, .agg #[.int .i64 hs, .int .i64 hg]] X fun e w' => ∃ z, e = .returned (.tuple #[z, .bool bb]) ∧ OwnAs w' X.heap.size w'.heap.size z N ∧ Kept 0 0 X w') := by
    intro x X h1
    have := D s hs hg x X h1
    rw [← hN, ← hbb] at this
    exact this
  clear hN NL hbb
  have qq : (bb != bb) = false := by simp
  go_enter Try.func7, Try.ntmps7
  go_wp2_with fail
  obtain ⟨w1, hw⟩ : ∃ w1, w1 = ((w.alloc (.cells #[.slice A1 s.slots.ages.length q1, .slice A2 s.slots.used.length q2, .slice A3 s.list.length q3] 53)).alloc (.cells #[.int .i64 hs, .int .i64 hg] 62)) := ⟨_, rfl⟩
  have hk : Kept 0 0 w w1 := by rw [hw]; exact (Kept.alloc0 _ _).alloc _
  have Na : Hid (Blk w1 (w.heap.size) 53 #[.slice A1 s.slots.ages.length q1, .slice A2 s.slots.used.length q2, .slice A3 s.list.length q3]) := by show Blk _ _ _ _; rw [hw]; have := (Blk.new w 53 #[.slice A1 s.slots.ages.length q1, .slice A2 s.slots.used.length q2, .slice A3 s.list.length q3]).alloc (.cells #[.int .i64 hs, .int .i64 hg] 62); simpa using this
  have Nh : Hid (Blk w1 (w.heap.size + 1) 62 #[.int .i64 hs, .int .i64 hg]) := by show Blk _ _ _ _; rw [hw]; have := (Blk.new (w.alloc (.cells #[.slice A1 s.slots.ages.length q1, .slice A2 s.slots.used.length q2, .slice A3 s.list.length q3] 53)) 62 #[.int .i64 hs, .int .i64 hg]); simpa using this
  rw [← hw]
  have Ba := Na
  clear Na
  have ya : w.heap.size + 0 < w1.heap.size := Ba.out.lt
  have Bh := Nh
  clear Nh
  have yh : w.heap.size + 1 < w1.heap.size := Bh.out.lt
  have K1 := Lib.hid ((Kept.refl 0 0 w).trans hk)
  have z1 := hk.size
  clear hk hw
  have szz := SZ.out
  with_reducible refine (szAs_pos s _ _ _ (Hb.out.up K1.out) sz (by omega)).mono ?_
  rintro e w2 ⟨rfl, hk⟩
  have Ra := Lib.hid (Ba.out.kept hk (.inl (Nat.le_refl _)))
  have Rh := Lib.hid (Bh.out.kept hk (.inl (Nat.le_refl _)))
  clear Ba
  have Ba := Ra
  clear Ra
  clear Bh
  have Bh := Rh
  clear Rh
  have K2 := Lib.hid (K1.out.trans hk)
  have z2 := hk.size
  clear hk K1
  go_upto_region 5 with fail
  have la := Ba.out.lt
  have lh := Bh.out.lt
  go_cut [6, 7] (fun p q wx => AfsAt w2 wx p N ∧ q = .bool bb)
  case first =>
    go_region_held3 (fun w' => w'.cell? ⟨(w.heap.size), 0, none⟩ = some (.slice A1 s.slots.ages.length q1) ∧ w'.cell? ⟨(w.heap.size), 1, none⟩ = some (.slice A2 s.slots.used.length q2) ∧ w'.cell? ⟨(w.heap.size), 2, none⟩ = some (.slice A3 s.list.length q3) ∧ w'.cell? ⟨(w.heap.size + 1), 0, none⟩ = some (.int .i64 hs) ∧ w'.cell? ⟨(w.heap.size + 1), 1, none⟩ = some (.int .i64 hg))
      (first | with_reducible exact ⟨ax0 Ba.out.drew, ax1 Ba.out.drew, ax2 Ba.out.drew, ay0 Bh.out.drew, ay1 Bh.out.drew⟩ | with_reducible exact ⟨ax0 (Ba.out.alloc (.cells #[.slice none 0 0, .slice none 0 0, .slice none 0 0] 34)).drew, ax1 (Ba.out.alloc (.cells #[.slice none 0 0, .slice none 0 0, .slice none 0 0] 34)).drew, ax2 (Ba.out.alloc (.cells #[.slice none 0 0, .slice none 0 0, .slice none 0 0] 34)).drew, ay0 (Bh.out.alloc (.cells #[.slice none 0 0, .slice none 0 0, .slice none 0 0] 34)).drew, ay1 (Bh.out.alloc (.cells #[.slice none 0 0, .slice none 0 0, .slice none 0 0] 34)).drew⟩ | with_reducible exact ⟨ax0 Ya1, ax1 Ya1, ax2 Ya1, ay0 Yh1, ay1 Yh1⟩ | with_reducible exact ⟨ax0 (Ya1.alloc (.cells #[.slice none 0 0, .slice none 0 0, .slice none 0 0] 34)), ax1 (Ya1.alloc (.cells #[.slice none 0 0, .slice none 0 0, .slice none 0 0] 34)), ax2 (Ya1.alloc (.cells #[.slice none 0 0, .slice none 0 0, .slice none 0 0] 34)), ay0 (Yh1.alloc (.cells #[.slice none 0 0, .slice none 0 0, .slice none 0 0] 34)), ay1 (Yh1.alloc (.cells #[.slice none 0 0, .slice none 0 0, .slice none 0 0] 34))⟩ | with_reducible exact ⟨ax0 Ya2, ax1 Ya2, ax2 Ya2, ay0 Yh2, ay1 Yh2⟩ | with_reducible exact ⟨ax0 (Ya2.alloc (.cells #[.slice none 0 0, .slice none 0 0, .slice none 0 0] 34)), ax1 (Ya2.alloc (.cells #[.slice none 0 0, .slice none 0 0, .slice none 0 0] 34)), ax2 (Ya2.alloc (.cells #[.slice none 0 0, .slice none 0 0, .slice none 0 0] 34)), ay0 (Yh2.alloc (.cells #[.slice none 0 0, .slice none 0 0, .slice none 0 0] 34)), ay1 (Yh2.alloc (.cells #[.slice none 0 0, .slice none 0 0, .slice none 0 0] 34))⟩ | with_reducible exact ⟨ax0 Ya3, ax1 Ya3, ax2 Ya3, ay0 Yh3, ay1 Yh3⟩ | with_reducible exact ⟨ax0 (Ya3.alloc _), ax1 (Ya3.alloc _), ax2 (Ya3.alloc _), ay0 (Yh3.alloc _), ay1 (Yh3.alloc _)⟩ | with_reducible exact ⟨ax0 (((Ya3.far (by first | omega | (simp; done) | (simp; omega)) _).far (by first | omega | (simp; done) | (simp; omega)) _).far (by first | omega | (simp; done) | (simp; omega)) _), ax1 (((Ya3.far (by first | omega | (simp; done) | (simp; omega)) _).far (by first | omega | (simp; done) | (simp; omega)) _).far (by first | omega | (simp; done) | (simp; omega)) _), ax2 (((Ya3.far (by first | omega | (simp; done) | (simp; omega)) _).far (by first | omega | (simp; done) | (simp; omega)) _).far (by first | omega | (simp; done) | (simp; omega)) _), ay0 (((Yh3.far (by first | omega | (simp; done) | (simp; omega)) _).far (by first | omega | (simp; done) | (simp; omega)) _).far (by first | omega | (simp; done) | (simp; omega)) _), ay1 (((Yh3.far (by first | omega | (simp; done) | (simp; omega)) _).far (by first | omega | (simp; done) | (simp; omega)) _).far (by first | omega | (simp; done) | (simp; omega)) _)⟩)
      (first
        | (go_at_call 22; (with_reducible refine (toAs s _ w2.drew (Hb.out.up (K2.out.trans (Kept.refl 0 0 w2).drew)) sa su sl).mono ?_); rintro e v1' ⟨u1, rfl, o1, hk⟩; have k1 : Kept 0 0 w2 v1' := (Kept.refl 0 0 w2).drew.trans hk; have z1' := k1.size; have Ya1 := Ba.out.kept k1 (.inl (Nat.le_refl _)); have Yh1 := Bh.out.kept k1 (.inl (Nat.le_refl _)); have oR := Lib.hid (o1.rdW (Nat.le_refl _)); clear hk o1)
        | (go_at_call 22; (with_reducible refine (toAs s _ (w2.alloc (.cells #[.slice none 0 0, .slice none 0 0, .slice none 0 0] 34)).drew (Hb.out.up (K2.out.trans (Kept.alloc0 w2 (.cells #[.slice none 0 0, .slice none 0 0, .slice none 0 0] 34)).drew)) sa su sl).mono ?_); rintro e v1' ⟨u1, rfl, o1, hk⟩; have k1 : Kept 0 0 w2 v1' := (Kept.alloc0 w2 (.cells #[.slice none 0 0, .slice none 0 0, .slice none 0 0] 34)).drew.trans hk; have z1' := k1.size; have Ya1 := Ba.out.kept k1 (.inl (Nat.le_refl _)); have Yh1 := Bh.out.kept k1 (.inl (Nat.le_refl _)); have X1 : Blk v1' w2.heap.size 34 #[.slice none 0 0, .slice none 0 0, .slice none 0 0] := (Blk.new w2 34 #[.slice none 0 0, .slice none 0 0, .slice none 0 0]).drew.kept hk (.inl (Nat.le_refl _)); have rb : w2.heap.size ≤ w2.heap.size := Nat.le_refl _; have oR := Lib.hid (o1.rdW (Nat.le_refl _)); clear hk o1)
        | (go_at_call 30; have _t := X1; (with_reducible refine (toHandle_any hs hg v1').mono ?_); rintro e v2' ⟨rfl, hk⟩; have k2 : Kept 0 0 w2 v2' := k1.trans hk; have z2' := k2.size; have Ya2 := Ba.out.kept k2 (.inl (Nat.le_refl _)); have Yh2 := Bh.out.kept k2 (.inl (Nat.le_refl _)); have X2 := X1.kept hk (.inl (Nat.le_refl _)); have oS := Lib.hid (oR.out.up hk); clear hk)
        | (go_at_call 30; (with_reducible refine (toHandle_any hs hg (v1'.alloc (.cells #[.slice none 0 0, .slice none 0 0, .slice none 0 0] 34))).mono ?_); rintro e v2' ⟨rfl, hk⟩; have k2 : Kept 0 0 w2 v2' := (k1.alloc (.cells #[.slice none 0 0, .slice none 0 0, .slice none 0 0] 34)).trans hk; have z2' := k2.size; have Ya2 := Ba.out.kept k2 (.inl (Nat.le_refl _)); have Yh2 := Bh.out.kept k2 (.inl (Nat.le_refl _)); have X2 : Blk v2' v1'.heap.size 34 #[.slice none 0 0, .slice none 0 0, .slice none 0 0] := (Blk.new v1' 34 #[.slice none 0 0, .slice none 0 0, .slice none 0 0]).kept hk (.inl (Nat.le_refl _)); have rb : w2.heap.size ≤ v1'.heap.size := k1.size; have oS := Lib.hid (oR.out.up ((Kept.alloc0 v1' (.cells #[.slice none 0 0, .slice none 0 0, .slice none 0 0] 34)).trans hk)); clear hk)
        | (go_at_call 30; (with_reducible refine (toHandle_any hs hg v1').mono ?_); rintro e v2' ⟨rfl, hk⟩; have k2 : Kept 0 0 w2 v2' := k1.trans hk; have z2' := k2.size; have Ya2 := Ba.out.kept k2 (.inl (Nat.le_refl _)); have Yh2 := Bh.out.kept k2 (.inl (Nat.le_refl _)); have oS := Lib.hid (oR.out.up hk); clear hk)
        | (go_at_call 29; have _t := X2; (with_reducible refine (CS.out _ v2' oS.out).mono ?_); rintro e v3' ⟨_, rfl, ⟨_, _, _, rfl, ⟨DAZ, dAZ, rfl, oa⟩, ⟨DBZ, dBZ, rfl, ob⟩, ⟨DCZ, dCZ, rfl, oc⟩⟩, hk⟩; have rl := Lib.hid X2.lt; have k3 : Kept 0 0 w2 v3' := k2.trans hk; have z3' := k3.size; have Ya3 := Ba.out.kept k3 (.inl (Nat.le_refl _)); have Yh3 := Bh.out.kept k3 (.inl (Nat.le_refl _)); have X3 := X2.kept hk (.inl (Nat.le_refl _)); have OO := Lib.hid (show OwnAs v3' (v2').heap.size v3'.heap.size (.agg #[.slice DAZ N.slots.ages.length dAZ, .slice DBZ N.slots.used.length dBZ, .slice DCZ N.list.length dCZ]) N from ⟨_, _, _, rfl, ⟨DAZ, dAZ, rfl, oa⟩, ⟨DBZ, dBZ, rfl, ob⟩, ⟨DCZ, dCZ, rfl, oc⟩⟩); have kb' := Lib.hid (k2.size); have HY := Lib.hid k3; have q0 := ax0 X3; have q1 := ax1 X3; have q2 := ax2 X3; have f0 := X3.frozen 0; have f1 := X3.frozen 1; have f2 := X3.frozen 2; have HX := Lib.hid X3; clear hk oa ob oc)
        | (go_at_call 29; (with_reducible refine (CS.out _ (v2'.alloc (.cells #[.slice none 0 0, .slice none 0 0, .slice none 0 0] 34)) (oS.out.up (Kept.alloc0 v2' (.cells #[.slice none 0 0, .slice none 0 0, .slice none 0 0] 34)))).mono ?_); rintro e v3' ⟨_, rfl, ⟨_, _, _, rfl, ⟨DAZ, dAZ, rfl, oa⟩, ⟨DBZ, dBZ, rfl, ob⟩, ⟨DCZ, dCZ, rfl, oc⟩⟩, hk⟩; have rl : Hid (v2'.heap.size < ((v2'.alloc (.cells #[.slice none 0 0, .slice none 0 0, .slice none 0 0] 34))).heap.size) := (by show _ < _; simp); have k3 : Kept 0 0 w2 v3' := (k2.alloc (.cells #[.slice none 0 0, .slice none 0 0, .slice none 0 0] 34)).trans hk; have z3' := k3.size; have Ya3 := Ba.out.kept k3 (.inl (Nat.le_refl _)); have Yh3 := Bh.out.kept k3 (.inl (Nat.le_refl _)); have X3 : Blk v3' v2'.heap.size 34 #[.slice none 0 0, .slice none 0 0, .slice none 0 0] := (Blk.new v2' 34 #[.slice none 0 0, .slice none 0 0, .slice none 0 0]).kept hk (.inl (Nat.le_refl _)); have rb : w2.heap.size ≤ v2'.heap.size := k2.size; have OO := Lib.hid (show OwnAs v3' ((v2'.alloc (.cells #[.slice none 0 0, .slice none 0 0, .slice none 0 0] 34))).heap.size v3'.heap.size (.agg #[.slice DAZ N.slots.ages.length dAZ, .slice DBZ N.slots.used.length dBZ, .slice DCZ N.list.length dCZ]) N from ⟨_, _, _, rfl, ⟨DAZ, dAZ, rfl, oa⟩, ⟨DBZ, dBZ, rfl, ob⟩, ⟨DCZ, dCZ, rfl, oc⟩⟩); have kb' := Lib.hid ((k2.alloc (.cells #[.slice none 0 0, .slice none 0 0, .slice none 0 0] 34)).size); have HY := Lib.hid k3; have q0 := ax0 X3; have q1 := ax1 X3; have q2 := ax2 X3; have f0 := X3.frozen 0; have f1 := X3.frozen 1; have f2 := X3.frozen 2; have HX := Lib.hid X3; clear hk oa ob oc)
        | (go_at_call 29; (with_reducible refine (CS.out _ v2' oS.out).mono ?_); rintro e v3' ⟨_, rfl, ⟨_, _, _, rfl, ⟨DAZ, dAZ, rfl, oa⟩, ⟨DBZ, dBZ, rfl, ob⟩, ⟨DCZ, dCZ, rfl, oc⟩⟩, hk⟩; have k3 : Kept 0 0 w2 v3' := k2.trans hk; have z3' := k3.size; have Ya3 := Ba.out.kept k3 (.inl (Nat.le_refl _)); have Yh3 := Bh.out.kept k3 (.inl (Nat.le_refl _)); have OO := Lib.hid (show OwnAs v3' (v2').heap.size v3'.heap.size (.agg #[.slice DAZ N.slots.ages.length dAZ, .slice DBZ N.slots.used.length dBZ, .slice DCZ N.list.length dCZ]) N from ⟨_, _, _, rfl, ⟨DAZ, dAZ, rfl, oa⟩, ⟨DBZ, dBZ, rfl, ob⟩, ⟨DCZ, dCZ, rfl, oc⟩⟩); have kb' := Lib.hid (k2.size); have HY := Lib.hid k3; clear hk oa ob oc))
    all_goals (go_wp2_with fail; go_meet)
    all_goals first
      | exact ⟨afsAt_new OO.out HY.out kb'.out, rfl⟩
      | exact ⟨afsAt_set HX.out OO.out HY.out rb kb'.out rl.out, rfl⟩
  case rest =>
    obtain ⟨w3, rfl⟩ : ∃ w3 : World, w3 = wc := ⟨_, rfl⟩
    obtain ⟨⟨rw, loW, hiW, DAW, DBW, DCW, dAW, dBW, dCW, rfl, hrw, hloW, hhiW, hspW, hb, ho, hk⟩, rfl⟩ := hcut
    clear la lh
    have Ra := Lib.hid (Ba.out.kept hk (.inl (Nat.le_refl _)))
    have Rh := Lib.hid (Bh.out.kept hk (.inl (Nat.le_refl _)))
    clear Ba
    have Ba := Ra
    clear Ra
    clear Bh
    have Bh := Rh
    clear Rh
    have OW := Lib.hid ho
    have Bw := Lib.hid hb
    have yw := hb.lt
    have K3 := Lib.hid (K2.out.trans hk)
    have z3 := hk.size
    clear hk hb ho K2
    have ca0 := ax0 Ba.out
    have ca1 := ax1 Ba.out
    have ca2 := ax2 Ba.out
    have la := Ba.out.lt
    go_wp2_with fail
    clear ca0 ca1 ca2 la
    with_reducible refine (toAs s _ _ (Hb.out.up K3.out) sa su sl).mono ?_
    rintro e w4 ⟨_, rfl, ⟨_, _, _, rfl, ⟨DAx, dAx, rfl, oa⟩, ⟨DBx, dBx, rfl, ob⟩, ⟨DCx, dCx, rfl, oc⟩⟩, hk⟩
    have PW := Lib.hid (OW.out.kept hk (.inl (Nat.le_refl _)))
    have Ra := Lib.hid (Ba.out.kept hk (.inl (Nat.le_refl _)))
    have Rh := Lib.hid (Bh.out.kept hk (.inl (Nat.le_refl _)))
    have Rw := Lib.hid (Bw.out.kept hk (.inl (Nat.le_refl _)))
    clear OW
    have OW := PW
    clear PW
    clear Ba
    have Ba := Ra
    clear Ra
    clear Bh
    have Bh := Rh
    clear Rh
    clear Bw
    have Bw := Rw
    clear Rw
    have Ox : Hid (OwnAs w4 w3.heap.size w4.heap.size (.agg #[.slice DAx s.slots.ages.length dAx, .slice DBx s.slots.used.length dBx, .slice DCx s.list.length dCx]) s) := ⟨_, _, _, rfl, ⟨DAx, dAx, rfl, oa⟩, ⟨DBx, dBx, rfl, ob⟩, ⟨DCx, dCx, rfl, oc⟩⟩
    have K4 := Lib.hid (K3.out.trans hk)
    have z4 := hk.size
    clear hk oa ob oc K3
    go_upto_region 7 with fail
    obtain ⟨w5, hw⟩ : ∃ w5, w5 = (w4.alloc (.cells #[.slice DAx s.slots.ages.length dAx, .slice DBx s.slots.used.length dBx, .slice DCx s.list.length dCx] 34)) := ⟨_, rfl⟩
    have hk : Kept 0 0 w4 w5 := by rw [hw]; exact Kept.alloc0 _ _
    have Nx : Hid (Blk w5 (w4.heap.size) 34 #[.slice DAx s.slots.ages.length dAx, .slice DBx s.slots.used.length dBx, .slice DCx s.list.length dCx]) := by show Blk _ _ _ _; rw [hw]; have := (Blk.new w4 34 #[.slice DAx s.slots.ages.length dAx, .slice DBx s.slots.used.length dBx, .slice DCx s.list.length dCx]); simpa using this
    rw [← hw]
    have PW := Lib.hid (OW.out.kept hk (.inl (Nat.le_refl _)))
    have Px := Lib.hid (Ox.out.kept hk (.inl (Nat.le_refl _)))
    have Ra := Lib.hid (Ba.out.kept hk (.inl (Nat.le_refl _)))
    have Rh := Lib.hid (Bh.out.kept hk (.inl (Nat.le_refl _)))
    have Rw := Lib.hid (Bw.out.kept hk (.inl (Nat.le_refl _)))
    clear OW
    have OW := PW
    clear PW
    clear Ox
    have Ox := Px
    clear Px
    clear Ba
    have Ba := Ra
    clear Ra
    clear Bh
    have Bh := Rh
    clear Rh
    clear Bw
    have Bw := Rw
    clear Rw
    have Bx := Nx
    clear Nx
    have yx : w4.heap.size + 0 < w5.heap.size := Bx.out.lt
    have K5 := Lib.hid (K4.out.trans hk)
    have z5 := hk.size
    clear hk hw K4
    go_upto_region 7 with fail
    have lx := Bx.out.lt
    have lh := Bh.out.lt
    go_cut [9, 10] (fun p q wx => AfsAt w5 wx p N ∧ q = .bool bb)
    case first =>
      go_region_held3 (fun w' => w'.cell? ⟨(w4.heap.size), 0, none⟩ = some (.slice DAx s.slots.ages.length dAx) ∧ w'.cell? ⟨(w4.heap.size), 1, none⟩ = some (.slice DBx s.slots.used.length dBx) ∧ w'.cell? ⟨(w4.heap.size), 2, none⟩ = some (.slice DCx s.list.length dCx) ∧ w'.cell? ⟨(w.heap.size + 1), 0, none⟩ = some (.int .i64 hs) ∧ w'.cell? ⟨(w.heap.size + 1), 1, none⟩ = some (.int .i64 hg))
        (first | with_reducible exact ⟨ax0 Bx.out.drew, ax1 Bx.out.drew, ax2 Bx.out.drew, ay0 Bh.out.drew, ay1 Bh.out.drew⟩ | with_reducible exact ⟨ax0 (Bx.out.alloc (.cells #[.slice none 0 0, .slice none 0 0, .slice none 0 0] 34)).drew, ax1 (Bx.out.alloc (.cells #[.slice none 0 0, .slice none 0 0, .slice none 0 0] 34)).drew, ax2 (Bx.out.alloc (.cells #[.slice none 0 0, .slice none 0 0, .slice none 0 0] 34)).drew, ay0 (Bh.out.alloc (.cells #[.slice none 0 0, .slice none 0 0, .slice none 0 0] 34)).drew, ay1 (Bh.out.alloc (.cells #[.slice none 0 0, .slice none 0 0, .slice none 0 0] 34)).drew⟩ | with_reducible exact ⟨ax0 Yx1, ax1 Yx1, ax2 Yx1, ay0 Yh1, ay1 Yh1⟩ | with_reducible exact ⟨ax0 (Yx1.alloc (.cells #[.slice none 0 0, .slice none 0 0, .slice none 0 0] 34)), ax1 (Yx1.alloc (.cells #[.slice none 0 0, .slice none 0 0, .slice none 0 0] 34)), ax2 (Yx1.alloc (.cells #[.slice none 0 0, .slice none 0 0, .slice none 0 0] 34)), ay0 (Yh1.alloc (.cells #[.slice none 0 0, .slice none 0 0, .slice none 0 0] 34)), ay1 (Yh1.alloc (.cells #[.slice none 0 0, .slice none 0 0, .slice none 0 0] 34))⟩ | with_reducible exact ⟨ax0 Yx2, ax1 Yx2, ax2 Yx2, ay0 Yh2, ay1 Yh2⟩ | with_reducible exact ⟨ax0 (Yx2.alloc _), ax1 (Yx2.alloc _), ax2 (Yx2.alloc _), ay0 (Yh2.alloc _), ay1 (Yh2.alloc _)⟩ | with_reducible exact ⟨ax0 (((Yx2.far (by first | omega | (simp; done) | (simp; omega)) _).far (by first | omega | (simp; done) | (simp; omega)) _).far (by first | omega | (simp; done) | (simp; omega)) _), ax1 (((Yx2.far (by first | omega | (simp; done) | (simp; omega)) _).far (by first | omega | (simp; done) | (simp; omega)) _).far (by first | omega | (simp; done) | (simp; omega)) _), ax2 (((Yx2.far (by first | omega | (simp; done) | (simp; omega)) _).far (by first | omega | (simp; done) | (simp; omega)) _).far (by first | omega | (simp; done) | (simp; omega)) _), ay0 (((Yh2.far (by first | omega | (simp; done) | (simp; omega)) _).far (by first | omega | (simp; done) | (simp; omega)) _).far (by first | omega | (simp; done) | (simp; omega)) _), ay1 (((Yh2.far (by first | omega | (simp; done) | (simp; omega)) _).far (by first | omega | (simp; done) | (simp; omega)) _).far (by first | omega | (simp; done) | (simp; omega)) _)⟩)
        (first
          | (go_at_call 30; (with_reducible refine (toHandle_any hs hg w5.drew).mono ?_); rintro e v1' ⟨rfl, hk⟩; have k1 : Kept 0 0 w5 v1' := (Kept.refl 0 0 w5).drew.trans hk; have z1' := k1.size; have Yx1 := Bx.out.kept k1 (.inl (Nat.le_refl _)); have Yh1 := Bh.out.kept k1 (.inl (Nat.le_refl _)); clear hk)
          | (go_at_call 30; (with_reducible refine (toHandle_any hs hg (w5.alloc (.cells #[.slice none 0 0, .slice none 0 0, .slice none 0 0] 34)).drew).mono ?_); rintro e v1' ⟨rfl, hk⟩; have k1 : Kept 0 0 w5 v1' := (Kept.alloc0 w5 (.cells #[.slice none 0 0, .slice none 0 0, .slice none 0 0] 34)).drew.trans hk; have z1' := k1.size; have Yx1 := Bx.out.kept k1 (.inl (Nat.le_refl _)); have Yh1 := Bh.out.kept k1 (.inl (Nat.le_refl _)); have X1 : Blk v1' w5.heap.size 34 #[.slice none 0 0, .slice none 0 0, .slice none 0 0] := (Blk.new w5 34 #[.slice none 0 0, .slice none 0 0, .slice none 0 0]).drew.kept hk (.inl (Nat.le_refl _)); have rb : w5.heap.size ≤ w5.heap.size := Nat.le_refl _; clear hk)
          | (go_at_call 16; have _t := X1; (with_reducible refine (CI.out _ v1' ((Ox.out.rdW (by omega)).up k1)).mono ?_); rintro e v2' ⟨_, rfl, ⟨_, _, _, rfl, ⟨DAZ, dAZ, rfl, oa⟩, ⟨DBZ, dBZ, rfl, ob⟩, ⟨DCZ, dCZ, rfl, oc⟩⟩, hk⟩; have rl := Lib.hid X1.lt; have k2 : Kept 0 0 w5 v2' := k1.trans hk; have z2' := k2.size; have Yx2 := Bx.out.kept k2 (.inl (Nat.le_refl _)); have Yh2 := Bh.out.kept k2 (.inl (Nat.le_refl _)); have X2 := X1.kept hk (.inl (Nat.le_refl _)); have OO := Lib.hid (show OwnAs v2' (v1').heap.size v2'.heap.size (.agg #[.slice DAZ N.slots.ages.length dAZ, .slice DBZ N.slots.used.length dBZ, .slice DCZ N.list.length dCZ]) N from ⟨_, _, _, rfl, ⟨DAZ, dAZ, rfl, oa⟩, ⟨DBZ, dBZ, rfl, ob⟩, ⟨DCZ, dCZ, rfl, oc⟩⟩); have kb' := Lib.hid (k1.size); have HY := Lib.hid k2; have q0 := ax0 X2; have q1 := ax1 X2; have q2 := ax2 X2; have f0 := X2.frozen 0; have f1 := X2.frozen 1; have f2 := X2.frozen 2; have HX := Lib.hid X2; clear hk oa ob oc)
          | (go_at_call 16; (with_reducible refine (CI.out _ (v1'.alloc (.cells #[.slice none 0 0, .slice none 0 0, .slice none 0 0] 34)) ((Ox.out.rdW (by omega)).up (k1.alloc (.cells #[.slice none 0 0, .slice none 0 0, .slice none 0 0] 34)))).mono ?_); rintro e v2' ⟨_, rfl, ⟨_, _, _, rfl, ⟨DAZ, dAZ, rfl, oa⟩, ⟨DBZ, dBZ, rfl, ob⟩, ⟨DCZ, dCZ, rfl, oc⟩⟩, hk⟩; have rl : Hid (v1'.heap.size < ((v1'.alloc (.cells #[.slice none 0 0, .slice none 0 0, .slice none 0 0] 34))).heap.size) := (by show _ < _; simp); have k2 : Kept 0 0 w5 v2' := (k1.alloc (.cells #[.slice none 0 0, .slice none 0 0, .slice none 0 0] 34)).trans hk; have z2' := k2.size; have Yx2 := Bx.out.kept k2 (.inl (Nat.le_refl _)); have Yh2 := Bh.out.kept k2 (.inl (Nat.le_refl _)); have X2 : Blk v2' v1'.heap.size 34 #[.slice none 0 0, .slice none 0 0, .slice none 0 0] := (Blk.new v1' 34 #[.slice none 0 0, .slice none 0 0, .slice none 0 0]).kept hk (.inl (Nat.le_refl _)); have rb : w5.heap.size ≤ v1'.heap.size := k1.size; have OO := Lib.hid (show OwnAs v2' ((v1'.alloc (.cells #[.slice none 0 0, .slice none 0 0, .slice none 0 0] 34))).heap.size v2'.heap.size (.agg #[.slice DAZ N.slots.ages.length dAZ, .slice DBZ N.slots.used.length dBZ, .slice DCZ N.list.length dCZ]) N from ⟨_, _, _, rfl, ⟨DAZ, dAZ, rfl, oa⟩, ⟨DBZ, dBZ, rfl, ob⟩, ⟨DCZ, dCZ, rfl, oc⟩⟩); have kb' := Lib.hid ((k1.alloc (.cells #[.slice none 0 0, .slice none 0 0, .slice none 0 0] 34)).size); have HY := Lib.hid k2; have q0 := ax0 X2; have q1 := ax1 X2; have q2 := ax2 X2; have f0 := X2.frozen 0; have f1 := X2.frozen 1; have f2 := X2.frozen 2; have HX := Lib.hid X2; clear hk oa ob oc)
          | (go_at_call 16; (with_reducible refine (CI.out _ v1' ((Ox.out.rdW (by omega)).up k1)).mono ?_); rintro e v2' ⟨_, rfl, ⟨_, _, _, rfl, ⟨DAZ, dAZ, rfl, oa⟩, ⟨DBZ, dBZ, rfl, ob⟩, ⟨DCZ, dCZ, rfl, oc⟩⟩, hk⟩; have k2 : Kept 0 0 w5 v2' := k1.trans hk; have z2' := k2.size; have Yx2 := Bx.out.kept k2 (.inl (Nat.le_refl _)); have Yh2 := Bh.out.kept k2 (.inl (Nat.le_refl _)); have OO := Lib.hid (show OwnAs v2' (v1').heap.size v2'.heap.size (.agg #[.slice DAZ N.slots.ages.length dAZ, .slice DBZ N.slots.used.length dBZ, .slice DCZ N.list.length dCZ]) N from ⟨_, _, _, rfl, ⟨DAZ, dAZ, rfl, oa⟩, ⟨DBZ, dBZ, rfl, ob⟩, ⟨DCZ, dCZ, rfl, oc⟩⟩); have kb' := Lib.hid (k1.size); have HY := Lib.hid k2; clear hk oa ob oc))
      all_goals (go_wp2_with fail; go_meet)
      all_goals first
        | exact ⟨afsAt_new OO.out HY.out kb'.out, rfl⟩
        | exact ⟨afsAt_set HX.out OO.out HY.out rb kb'.out rl.out, rfl⟩
    case rest =>
      obtain ⟨w6, rfl⟩ : ∃ w6 : World, w6 = wc := ⟨_, rfl⟩
      obtain ⟨⟨rg, loG, hiG, DAG, DBG, DCG, dAG, dBG, dCG, rfl, hrg, hloG, hhiG, hspG, hb, ho, hk⟩, rfl⟩ := hcut
      clear lx lh
      have PW := Lib.hid (OW.out.kept hk (.inl (Nat.le_refl _)))
      have Px := Lib.hid (Ox.out.kept hk (.inl (Nat.le_refl _)))
      have Ra := Lib.hid (Ba.out.kept hk (.inl (Nat.le_refl _)))
      have Rh := Lib.hid (Bh.out.kept hk (.inl (Nat.le_refl _)))
      have Rw := Lib.hid (Bw.out.kept hk (.inl (Nat.le_refl _)))
      have Rx := Lib.hid (Bx.out.kept hk (.inl (Nat.le_refl _)))
      clear OW
      have OW := PW
      clear PW
      clear Ox
      have Ox := Px
      clear Px
      clear Ba
      have Ba := Ra
      clear Ra
      clear Bh
      have Bh := Rh
      clear Rh
      clear Bw
      have Bw := Rw
      clear Rw
      clear Bx
      have Bx := Rx
      clear Rx
      have OG := Lib.hid ho
      have Bg := Lib.hid hb
      have yg := hb.lt
      have K6 := Lib.hid (K5.out.trans hk)
      have z6 := hk.size
      clear hk hb ho K5
      have cg0 := ax0 Bg.out
      have cg1 := ax1 Bg.out
      have cg2 := ax2 Bg.out
      have lg := Bg.out.lt
      have cw0 := ax0 Bw.out
      have cw1 := ax1 Bw.out
      have cw2 := ax2 Bw.out
      have lw := Bw.out.lt
      go_wp2_with fail
      clear cg0 cg1 cg2 cw0 cw1 cw2 lg lw
      with_reducible refine (eqAs N _ _ _ (OG.out.rdW (by omega)) (OW.out.rdW (by omega))).mono ?_
      rintro e w7 ⟨rfl, hk⟩
      have PW := Lib.hid (OW.out.kept hk (.inl (Nat.le_refl _)))
      have Px := Lib.hid (Ox.out.kept hk (.inl (Nat.le_refl _)))
      have PG := Lib.hid (OG.out.kept hk (.inl (Nat.le_refl _)))
      have Ra := Lib.hid (Ba.out.kept hk (.inl (Nat.le_refl _)))
      have Rh := Lib.hid (Bh.out.kept hk (.inl (Nat.le_refl _)))
      have Rw := Lib.hid (Bw.out.kept hk (.inl (Nat.le_refl _)))
      have Rx := Lib.hid (Bx.out.kept hk (.inl (Nat.le_refl _)))
      have Rg := Lib.hid (Bg.out.kept hk (.inl (Nat.le_refl _)))
      clear OW
      have OW := PW
      clear PW
      clear Ox
      have Ox := Px
      clear Px
      clear OG
      have OG := PG
      clear PG
      clear Ba
      have Ba := Ra
      clear Ra
      clear Bh
      have Bh := Rh
      clear Rh
      clear Bw
      have Bw := Rw
      clear Rw
      clear Bx
      have Bx := Rx
      clear Rx
      clear Bg
      have Bg := Rg
      clear Rg
      have K7 := Lib.hid (K6.out.trans hk)
      have z7 := hk.size
      clear hk K6
      go_upto_region 10 with fail
      have lx := Bx.out.lt
      have la := Ba.out.lt
      go_region_held3 (fun w' => w'.cell? ⟨(w4.heap.size), 0, none⟩ = some (.slice DAx s.slots.ages.length dAx) ∧ w'.cell? ⟨(w4.heap.size), 1, none⟩ = some (.slice DBx s.slots.used.length dBx) ∧ w'.cell? ⟨(w4.heap.size), 2, none⟩ = some (.slice DCx s.list.length dCx) ∧ w'.cell? ⟨(w.heap.size), 0, none⟩ = some (.slice A1 s.slots.ages.length q1) ∧ w'.cell? ⟨(w.heap.size), 1, none⟩ = some (.slice A2 s.slots.used.length q2) ∧ w'.cell? ⟨(w.heap.size), 2, none⟩ = some (.slice A3 s.list.length q3))
        (first | with_reducible exact ⟨ax0 Bx.out.drew, ax1 Bx.out.drew, ax2 Bx.out.drew, ax0 Ba.out.drew, ax1 Ba.out.drew, ax2 Ba.out.drew⟩ | with_reducible exact ⟨ax0 Xx, ax1 Xx, ax2 Xx, ax0 Xa, ax1 Xa, ax2 Xa⟩ | with_reducible exact ⟨ax0 Yx, ax1 Yx, ax2 Yx, ax0 Ya, ax1 Ya, ax2 Ya⟩)
        (first | (go_at_call 22; (with_reducible refine (toAs s _ w7.drew (Hb.out.up K7.out.drew) sa su sl).mono ?_); rintro e w8 ⟨u1, rfl, oy, hk⟩; have k1 : Kept 0 0 w7 w8 := (Kept.refl 0 0 w7).drew.trans hk; have Xx := Bx.out.kept k1 (.inl (Nat.le_refl _)); have Xa := Ba.out.kept k1 (.inl (Nat.le_refl _)); have zz := k1.size; clear hk) | (go_at_call 23; (with_reducible refine (eqAs s _ _ w8 ((Ox.out.kept k1 (.inl (Nat.le_refl _))).rdW (by omega)) (oy.rdW (Nat.le_refl _))).mono ?_); rintro e w9 ⟨rfl, hk⟩; have k2 : Kept 0 0 w7 w9 := k1.trans hk; have Yx := Bx.out.kept k2 (.inl (Nat.le_refl _)); have Ya := Ba.out.kept k2 (.inl (Nat.le_refl _)); have ks := Lib.hid k2; clear hk))
      clear Xx Xa Yx Ya k1 k2 oy zz lx la
      have PW := Lib.hid (OW.out.kept ks.out (.inl (Nat.le_refl _)))
      have Px := Lib.hid (Ox.out.kept ks.out (.inl (Nat.le_refl _)))
      have PG := Lib.hid (OG.out.kept ks.out (.inl (Nat.le_refl _)))
      have Ra := Lib.hid (Ba.out.kept ks.out (.inl (Nat.le_refl _)))
      have Rh := Lib.hid (Bh.out.kept ks.out (.inl (Nat.le_refl _)))
      have Rw := Lib.hid (Bw.out.kept ks.out (.inl (Nat.le_refl _)))
      have Rx := Lib.hid (Bx.out.kept ks.out (.inl (Nat.le_refl _)))
      have Rg := Lib.hid (Bg.out.kept ks.out (.inl (Nat.le_refl _)))
      clear OW
      have OW := PW
      clear PW
      clear Ox
      have Ox := Px
      clear Px
      clear OG
      have OG := PG
      clear PG
      clear Ba
      have Ba := Ra
      clear Ra
      clear Bh
      have Bh := Rh
      clear Rh
      clear Bw
      have Bw := Rw
      clear Rw
      clear Bx
      have Bx := Rx
      clear Rx
      clear Bg
      have Bg := Rg
      clear Rg
      have K9 := Lib.hid (K7.out.trans ks.out)
      have z9 := ks.out.size
      clear ks K7
      obtain ⟨mS, hmS⟩ : ∃ mS, mS = markAsN 1 s := ⟨_, rfl⟩
      obtain ⟨mN, hmN⟩ : ∃ mN, mN = markAsN 1 N := ⟨_, rfl⟩
      have pS : 0 ≤ mS := by rw [hmS]; exact markAsN_pos _
      have pN : 0 ≤ mN := by rw [hmN]; exact markAsN_pos _
      have HmS := Lib.hid hmS.symm
      have HmN := Lib.hid hmN.symm
      clear hmS hmN
      have cx0 := ax0 Bx.out
      have cx1 := ax1 Bx.out
      have cx2 := ax2 Bx.out
      have lx := Bx.out.lt
      go_wp2_with fail
      clear cx0 cx1 cx2 lx
      with_reducible refine (markAs (1) s _ (w3.heap.size) (w4.heap.size) _ Ox.out (by omega) (by omega) sa su sl (by omega)).mono ?_
      rintro e w10 ⟨rfl, ho, hk⟩
      have PW := Lib.hid (OW.out.kept hk (by omega))
      have PG := Lib.hid (OG.out.kept hk (by omega))
      have Ra := Lib.hid (Ba.out.kept hk (by omega))
      have Rh := Lib.hid (Bh.out.kept hk (by omega))
      have Rw := Lib.hid (Bw.out.kept hk (by omega))
      have Rx := Lib.hid (Bx.out.kept hk (by omega))
      have Rg := Lib.hid (Bg.out.kept hk (by omega))
      clear OW
      have OW := PW
      clear PW
      clear OG
      have OG := PG
      clear PG
      clear Ba
      have Ba := Ra
      clear Ra
      clear Bh
      have Bh := Rh
      clear Rh
      clear Bw
      have Bw := Rw
      clear Rw
      clear Bx
      have Bx := Rx
      clear Rx
      clear Bg
      have Bg := Rg
      clear Rg
      clear Ox
      have Ox := Lib.hid ho
      have K10 := Lib.hid (K9.out.trans2 hk (.inr (by omega)))
      have z10 := hk.size
      clear hk ho K9
      rw [HmS.out]
      have cg0 := ax0 Bg.out
      have cg1 := ax1 Bg.out
      have cg2 := ax2 Bg.out
      have lg := Bg.out.lt
      have cw0 := ax0 Bw.out
      have cw1 := ax1 Bw.out
      have cw2 := ax2 Bw.out
      have lw := Bw.out.lt
      go_wp2_with fail
      clear cg0 cg1 cg2 cw0 cw1 cw2 lg lw
      with_reducible refine (eqAs N _ _ _ (OG.out.rdW (by omega)) (OW.out.rdW (by omega))).mono ?_
      rintro e w11 ⟨rfl, hk⟩
      have PW := Lib.hid (OW.out.kept hk (.inl (Nat.le_refl _)))
      have Px := Lib.hid (Ox.out.kept hk (.inl (Nat.le_refl _)))
      have PG := Lib.hid (OG.out.kept hk (.inl (Nat.le_refl _)))
      have Ra := Lib.hid (Ba.out.kept hk (.inl (Nat.le_refl _)))
      have Rh := Lib.hid (Bh.out.kept hk (.inl (Nat.le_refl _)))
      have Rw := Lib.hid (Bw.out.kept hk (.inl (Nat.le_refl _)))
      have Rx := Lib.hid (Bx.out.kept hk (.inl (Nat.le_refl _)))
      have Rg := Lib.hid (Bg.out.kept hk (.inl (Nat.le_refl _)))
      clear OW
      have OW := PW
      clear PW
      clear Ox
      have Ox := Px
      clear Px
      clear OG
      have OG := PG
      clear PG
      clear Ba
      have Ba := Ra
      clear Ra
      clear Bh
      have Bh := Rh
      clear Rh
      clear Bw
      have Bw := Rw
      clear Rw
      clear Bx
      have Bx := Rx
      clear Rx
      clear Bg
      have Bg := Rg
      clear Rg
      have K11 := Lib.hid (K10.out.trans hk)
      have z11 := hk.size
      clear hk K10
      have cg0 := ax0 Bg.out
      have cg1 := ax1 Bg.out
      have cg2 := ax2 Bg.out
      have lg := Bg.out.lt
      go_wp2_with fail
      clear cg0 cg1 cg2 lg
      with_reducible refine (markAs (1) N _ (loG) (hiG) _ OG.out (by omega) (by omega) Na Nu Nl (by omega)).mono ?_
      rintro e w12 ⟨rfl, ho, hk⟩
      have PW := Lib.hid (OW.out.kept hk (by omega))
      have Px := Lib.hid (Ox.out.kept hk (by omega))
      have Ra := Lib.hid (Ba.out.kept hk (by omega))
      have Rh := Lib.hid (Bh.out.kept hk (by omega))
      have Rw := Lib.hid (Bw.out.kept hk (by omega))
      have Rx := Lib.hid (Bx.out.kept hk (by omega))
      have Rg := Lib.hid (Bg.out.kept hk (by omega))
      clear OW
      have OW := PW
      clear PW
      clear Ox
      have Ox := Px
      clear Px
      clear Ba
      have Ba := Ra
      clear Ra
      clear Bh
      have Bh := Rh
      clear Rh
      clear Bw
      have Bw := Rw
      clear Rw
      clear Bx
      have Bx := Rx
      clear Rx
      clear Bg
      have Bg := Rg
      clear Rg
      clear OG
      have OG := Lib.hid ho
      have K12 := Lib.hid (K11.out.trans2 hk (.inr (by omega)))
      have z12 := hk.size
      clear hk ho K11
      rw [HmN.out]
      have cg0 := ax0 Bg.out
      have cg1 := ax1 Bg.out
      have cg2 := ax2 Bg.out
      have lg := Bg.out.lt
      go_wp2_with fail
      clear cg0 cg1 cg2 lg
      with_reducible refine (heldAs 1 N _ _ (OG.out.rdW (by omega)) (by omega) (by omega) Na Nu Nl).mono ?_
      rintro e w13 ⟨rfl, hk⟩
      have PW := Lib.hid (OW.out.kept hk (.inl (Nat.le_refl _)))
      have Px := Lib.hid (Ox.out.kept hk (.inl (Nat.le_refl _)))
      have PG := Lib.hid (OG.out.kept hk (.inl (Nat.le_refl _)))
      have Ra := Lib.hid (Ba.out.kept hk (.inl (Nat.le_refl _)))
      have Rh := Lib.hid (Bh.out.kept hk (.inl (Nat.le_refl _)))
      have Rw := Lib.hid (Bw.out.kept hk (.inl (Nat.le_refl _)))
      have Rx := Lib.hid (Bx.out.kept hk (.inl (Nat.le_refl _)))
      have Rg := Lib.hid (Bg.out.kept hk (.inl (Nat.le_refl _)))
      clear OW
      have OW := PW
      clear PW
      clear Ox
      have Ox := Px
      clear Px
      clear OG
      have OG := PG
      clear PG
      clear Ba
      have Ba := Ra
      clear Ra
      clear Bh
      have Bh := Rh
      clear Rh
      clear Bw
      have Bw := Rw
      clear Rw
      clear Bx
      have Bx := Rx
      clear Rx
      clear Bg
      have Bg := Rg
      clear Rg
      have K13 := Lib.hid (K12.out.trans hk)
      have z13 := hk.size
      clear hk K12
      rw [HmN.out]
      have qm : (mN != mN) = false := by simp
      clear Ox
      clear Bx
      go_upto_region 24 with fail
      have la := Ba.out.lt
      have lh := Bh.out.lt
      go_cut [14, 15] (fun p q wx => AfsAt w13 wx p N ∧ q = .bool bb)
      case first =>
        go_region_held3 (fun w' => w'.cell? ⟨(w.heap.size), 0, none⟩ = some (.slice A1 s.slots.ages.length q1) ∧ w'.cell? ⟨(w.heap.size), 1, none⟩ = some (.slice A2 s.slots.used.length q2) ∧ w'.cell? ⟨(w.heap.size), 2, none⟩ = some (.slice A3 s.list.length q3) ∧ w'.cell? ⟨(w.heap.size + 1), 0, none⟩ = some (.int .i64 hs) ∧ w'.cell? ⟨(w.heap.size + 1), 1, none⟩ = some (.int .i64 hg))
          (first | with_reducible exact ⟨ax0 Ba.out.drew, ax1 Ba.out.drew, ax2 Ba.out.drew, ay0 Bh.out.drew, ay1 Bh.out.drew⟩ | with_reducible exact ⟨ax0 (Ba.out.alloc (.cells #[.slice none 0 0, .slice none 0 0, .slice none 0 0] 34)).drew, ax1 (Ba.out.alloc (.cells #[.slice none 0 0, .slice none 0 0, .slice none 0 0] 34)).drew, ax2 (Ba.out.alloc (.cells #[.slice none 0 0, .slice none 0 0, .slice none 0 0] 34)).drew, ay0 (Bh.out.alloc (.cells #[.slice none 0 0, .slice none 0 0, .slice none 0 0] 34)).drew, ay1 (Bh.out.alloc (.cells #[.slice none 0 0, .slice none 0 0, .slice none 0 0] 34)).drew⟩ | with_reducible exact ⟨ax0 Ya1, ax1 Ya1, ax2 Ya1, ay0 Yh1, ay1 Yh1⟩ | with_reducible exact ⟨ax0 (Ya1.alloc (.cells #[.slice none 0 0, .slice none 0 0, .slice none 0 0] 34)), ax1 (Ya1.alloc (.cells #[.slice none 0 0, .slice none 0 0, .slice none 0 0] 34)), ax2 (Ya1.alloc (.cells #[.slice none 0 0, .slice none 0 0, .slice none 0 0] 34)), ay0 (Yh1.alloc (.cells #[.slice none 0 0, .slice none 0 0, .slice none 0 0] 34)), ay1 (Yh1.alloc (.cells #[.slice none 0 0, .slice none 0 0, .slice none 0 0] 34))⟩ | with_reducible exact ⟨ax0 Ya2, ax1 Ya2, ax2 Ya2, ay0 Yh2, ay1 Yh2⟩ | with_reducible exact ⟨ax0 (Ya2.alloc (.cells #[.slice none 0 0, .slice none 0 0, .slice none 0 0] 34)), ax1 (Ya2.alloc (.cells #[.slice none 0 0, .slice none 0 0, .slice none 0 0] 34)), ax2 (Ya2.alloc (.cells #[.slice none 0 0, .slice none 0 0, .slice none 0 0] 34)), ay0 (Yh2.alloc (.cells #[.slice none 0 0, .slice none 0 0, .slice none 0 0] 34)), ay1 (Yh2.alloc (.cells #[.slice none 0 0, .slice none 0 0, .slice none 0 0] 34))⟩ | with_reducible exact ⟨ax0 Ya3, ax1 Ya3, ax2 Ya3, ay0 Yh3, ay1 Yh3⟩ | with_reducible exact ⟨ax0 (Ya3.alloc _), ax1 (Ya3.alloc _), ax2 (Ya3.alloc _), ay0 (Yh3.alloc _), ay1 (Yh3.alloc _)⟩ | with_reducible exact ⟨ax0 (((Ya3.far (by first | omega | (simp; done) | (simp; omega)) _).far (by first | omega | (simp; done) | (simp; omega)) _).far (by first | omega | (simp; done) | (simp; omega)) _), ax1 (((Ya3.far (by first | omega | (simp; done) | (simp; omega)) _).far (by first | omega | (simp; done) | (simp; omega)) _).far (by first | omega | (simp; done) | (simp; omega)) _), ax2 (((Ya3.far (by first | omega | (simp; done) | (simp; omega)) _).far (by first | omega | (simp; done) | (simp; omega)) _).far (by first | omega | (simp; done) | (simp; omega)) _), ay0 (((Yh3.far (by first | omega | (simp; done) | (simp; omega)) _).far (by first | omega | (simp; done) | (simp; omega)) _).far (by first | omega | (simp; done) | (simp; omega)) _), ay1 (((Yh3.far (by first | omega | (simp; done) | (simp; omega)) _).far (by first | omega | (simp; done) | (simp; omega)) _).far (by first | omega | (simp; done) | (simp; omega)) _)⟩)
          (first
            | (go_at_call 22; (with_reducible refine (toAs s _ w13.drew (Hb.out.up (K13.out.trans (Kept.refl 0 0 w13).drew)) sa su sl).mono ?_); rintro e v1' ⟨u1, rfl, o1, hk⟩; have k1 : Kept 0 0 w13 v1' := (Kept.refl 0 0 w13).drew.trans hk; have z1' := k1.size; have Ya1 := Ba.out.kept k1 (.inl (Nat.le_refl _)); have Yh1 := Bh.out.kept k1 (.inl (Nat.le_refl _)); have oR := Lib.hid (o1.rdW (Nat.le_refl _)); clear hk o1)
            | (go_at_call 22; (with_reducible refine (toAs s _ (w13.alloc (.cells #[.slice none 0 0, .slice none 0 0, .slice none 0 0] 34)).drew (Hb.out.up (K13.out.trans (Kept.alloc0 w13 (.cells #[.slice none 0 0, .slice none 0 0, .slice none 0 0] 34)).drew)) sa su sl).mono ?_); rintro e v1' ⟨u1, rfl, o1, hk⟩; have k1 : Kept 0 0 w13 v1' := (Kept.alloc0 w13 (.cells #[.slice none 0 0, .slice none 0 0, .slice none 0 0] 34)).drew.trans hk; have z1' := k1.size; have Ya1 := Ba.out.kept k1 (.inl (Nat.le_refl _)); have Yh1 := Bh.out.kept k1 (.inl (Nat.le_refl _)); have X1 : Blk v1' w13.heap.size 34 #[.slice none 0 0, .slice none 0 0, .slice none 0 0] := (Blk.new w13 34 #[.slice none 0 0, .slice none 0 0, .slice none 0 0]).drew.kept hk (.inl (Nat.le_refl _)); have rb : w13.heap.size ≤ w13.heap.size := Nat.le_refl _; have oR := Lib.hid (o1.rdW (Nat.le_refl _)); clear hk o1)
            | (go_at_call 30; have _t := X1; (with_reducible refine (toHandle_any hs hg v1').mono ?_); rintro e v2' ⟨rfl, hk⟩; have k2 : Kept 0 0 w13 v2' := k1.trans hk; have z2' := k2.size; have Ya2 := Ba.out.kept k2 (.inl (Nat.le_refl _)); have Yh2 := Bh.out.kept k2 (.inl (Nat.le_refl _)); have X2 := X1.kept hk (.inl (Nat.le_refl _)); have oS := Lib.hid (oR.out.up hk); clear hk)
            | (go_at_call 30; (with_reducible refine (toHandle_any hs hg (v1'.alloc (.cells #[.slice none 0 0, .slice none 0 0, .slice none 0 0] 34))).mono ?_); rintro e v2' ⟨rfl, hk⟩; have k2 : Kept 0 0 w13 v2' := (k1.alloc (.cells #[.slice none 0 0, .slice none 0 0, .slice none 0 0] 34)).trans hk; have z2' := k2.size; have Ya2 := Ba.out.kept k2 (.inl (Nat.le_refl _)); have Yh2 := Bh.out.kept k2 (.inl (Nat.le_refl _)); have X2 : Blk v2' v1'.heap.size 34 #[.slice none 0 0, .slice none 0 0, .slice none 0 0] := (Blk.new v1' 34 #[.slice none 0 0, .slice none 0 0, .slice none 0 0]).kept hk (.inl (Nat.le_refl _)); have rb : w13.heap.size ≤ v1'.heap.size := k1.size; have oS := Lib.hid (oR.out.up ((Kept.alloc0 v1' (.cells #[.slice none 0 0, .slice none 0 0, .slice none 0 0] 34)).trans hk)); clear hk)
            | (go_at_call 30; (with_reducible refine (toHandle_any hs hg v1').mono ?_); rintro e v2' ⟨rfl, hk⟩; have k2 : Kept 0 0 w13 v2' := k1.trans hk; have z2' := k2.size; have Ya2 := Ba.out.kept k2 (.inl (Nat.le_refl _)); have Yh2 := Bh.out.kept k2 (.inl (Nat.le_refl _)); have oS := Lib.hid (oR.out.up hk); clear hk)
            | (go_at_call 16; have _t := X2; (with_reducible refine (CI.out _ v2' oS.out).mono ?_); rintro e v3' ⟨_, rfl, ⟨_, _, _, rfl, ⟨DAZ, dAZ, rfl, oa⟩, ⟨DBZ, dBZ, rfl, ob⟩, ⟨DCZ, dCZ, rfl, oc⟩⟩, hk⟩; have rl := Lib.hid X2.lt; have k3 : Kept 0 0 w13 v3' := k2.trans hk; have z3' := k3.size; have Ya3 := Ba.out.kept k3 (.inl (Nat.le_refl _)); have Yh3 := Bh.out.kept k3 (.inl (Nat.le_refl _)); have X3 := X2.kept hk (.inl (Nat.le_refl _)); have OO := Lib.hid (show OwnAs v3' (v2').heap.size v3'.heap.size (.agg #[.slice DAZ N.slots.ages.length dAZ, .slice DBZ N.slots.used.length dBZ, .slice DCZ N.list.length dCZ]) N from ⟨_, _, _, rfl, ⟨DAZ, dAZ, rfl, oa⟩, ⟨DBZ, dBZ, rfl, ob⟩, ⟨DCZ, dCZ, rfl, oc⟩⟩); have kb' := Lib.hid (k2.size); have HY := Lib.hid k3; have q0 := ax0 X3; have q1 := ax1 X3; have q2 := ax2 X3; have f0 := X3.frozen 0; have f1 := X3.frozen 1; have f2 := X3.frozen 2; have HX := Lib.hid X3; clear hk oa ob oc)
            | (go_at_call 16; (with_reducible refine (CI.out _ (v2'.alloc (.cells #[.slice none 0 0, .slice none 0 0, .slice none 0 0] 34)) (oS.out.up (Kept.alloc0 v2' (.cells #[.slice none 0 0, .slice none 0 0, .slice none 0 0] 34)))).mono ?_); rintro e v3' ⟨_, rfl, ⟨_, _, _, rfl, ⟨DAZ, dAZ, rfl, oa⟩, ⟨DBZ, dBZ, rfl, ob⟩, ⟨DCZ, dCZ, rfl, oc⟩⟩, hk⟩; have rl : Hid (v2'.heap.size < ((v2'.alloc (.cells #[.slice none 0 0, .slice none 0 0, .slice none 0 0] 34))).heap.size) := (by show _ < _; simp); have k3 : Kept 0 0 w13 v3' := (k2.alloc (.cells #[.slice none 0 0, .slice none 0 0, .slice none 0 0] 34)).trans hk; have z3' := k3.size; have Ya3 := Ba.out.kept k3 (.inl (Nat.le_refl _)); have Yh3 := Bh.out.kept k3 (.inl (Nat.le_refl _)); have X3 : Blk v3' v2'.heap.size 34 #[.slice none 0 0, .slice none 0 0, .slice none 0 0] := (Blk.new v2' 34 #[.slice none 0 0, .slice none 0 0, .slice none 0 0]).kept hk (.inl (Nat.le_refl _)); have rb : w13.heap.size ≤ v2'.heap.size := k2.size; have OO := Lib.hid (show OwnAs v3' ((v2'.alloc (.cells #[.slice none 0 0, .slice none 0 0, .slice none 0 0] 34))).heap.size v3'.heap.size (.agg #[.slice DAZ N.slots.ages.length dAZ, .slice DBZ N.slots.used.length dBZ, .slice DCZ N.list.length dCZ]) N from ⟨_, _, _, rfl, ⟨DAZ, dAZ, rfl, oa⟩, ⟨DBZ, dBZ, rfl, ob⟩, ⟨DCZ, dCZ, rfl, oc⟩⟩); have kb' := Lib.hid ((k2.alloc (.cells #[.slice none 0 0, .slice none 0 0, .slice none 0 0] 34)).size); have HY := Lib.hid k3; have q0 := ax0 X3; have q1 := ax1 X3; have q2 := ax2 X3; have f0 := X3.frozen 0; have f1 := X3.frozen 1; have f2 := X3.frozen 2; have HX := Lib.hid X3; clear hk oa ob oc)
            | (go_at_call 16; (with_reducible refine (CI.out _ v2' oS.out).mono ?_); rintro e v3' ⟨_, rfl, ⟨_, _, _, rfl, ⟨DAZ, dAZ, rfl, oa⟩, ⟨DBZ, dBZ, rfl, ob⟩, ⟨DCZ, dCZ, rfl, oc⟩⟩, hk⟩; have k3 : Kept 0 0 w13 v3' := k2.trans hk; have z3' := k3.size; have Ya3 := Ba.out.kept k3 (.inl (Nat.le_refl _)); have Yh3 := Bh.out.kept k3 (.inl (Nat.le_refl _)); have OO := Lib.hid (show OwnAs v3' (v2').heap.size v3'.heap.size (.agg #[.slice DAZ N.slots.ages.length dAZ, .slice DBZ N.slots.used.length dBZ, .slice DCZ N.list.length dCZ]) N from ⟨_, _, _, rfl, ⟨DAZ, dAZ, rfl, oa⟩, ⟨DBZ, dBZ, rfl, ob⟩, ⟨DCZ, dCZ, rfl, oc⟩⟩); have kb' := Lib.hid (k2.size); have HY := Lib.hid k3; clear hk oa ob oc))
        all_goals (go_wp2_with fail; go_meet)
        all_goals first
          | exact ⟨afsAt_new OO.out HY.out kb'.out, rfl⟩
          | exact ⟨afsAt_set HX.out OO.out HY.out rb kb'.out rl.out, rfl⟩
      case rest =>
        obtain ⟨w14, rfl⟩ : ∃ w14 : World, w14 = wc := ⟨_, rfl⟩
        obtain ⟨⟨rq, loQ, hiQ, DAQ, DBQ, DCQ, dAQ, dBQ, dCQ, rfl, hrq, hloQ, hhiQ, hspQ, hb, ho, hk⟩, rfl⟩ := hcut
        clear la lh
        have PW := Lib.hid (OW.out.kept hk (.inl (Nat.le_refl _)))
        have PG := Lib.hid (OG.out.kept hk (.inl (Nat.le_refl _)))
        have Ra := Lib.hid (Ba.out.kept hk (.inl (Nat.le_refl _)))
        have Rh := Lib.hid (Bh.out.kept hk (.inl (Nat.le_refl _)))
        have Rw := Lib.hid (Bw.out.kept hk (.inl (Nat.le_refl _)))
        have Rg := Lib.hid (Bg.out.kept hk (.inl (Nat.le_refl _)))
        clear OW
        have OW := PW
        clear PW
        clear OG
        have OG := PG
        clear PG
        clear Ba
        have Ba := Ra
        clear Ra
        clear Bh
        have Bh := Rh
        clear Rh
        clear Bw
        have Bw := Rw
        clear Rw
        clear Bg
        have Bg := Rg
        clear Rg
        have OQ := Lib.hid ho
        have Bq := Lib.hid hb
        have yq := hb.lt
        have K14 := Lib.hid (K13.out.trans hk)
        have z14 := hk.size
        clear hk hb ho K13
        have cq0 := ax0 Bq.out
        have cq1 := ax1 Bq.out
        have cq2 := ax2 Bq.out
        have lq := Bq.out.lt
        have cw0 := ax0 Bw.out
        have cw1 := ax1 Bw.out
        have cw2 := ax2 Bw.out
        have lw := Bw.out.lt
        go_wp2_with fail
        clear cq0 cq1 cq2 cw0 cw1 cw2 lq lw
        with_reducible refine (eqAs N _ _ _ (OQ.out.rdW (by omega)) (OW.out.rdW (by omega))).mono ?_
        rintro e w15 ⟨rfl, hk⟩
        have PW := Lib.hid (OW.out.kept hk (.inl (Nat.le_refl _)))
        have PG := Lib.hid (OG.out.kept hk (.inl (Nat.le_refl _)))
        have PQ := Lib.hid (OQ.out.kept hk (.inl (Nat.le_refl _)))
        have Ra := Lib.hid (Ba.out.kept hk (.inl (Nat.le_refl _)))
        have Rh := Lib.hid (Bh.out.kept hk (.inl (Nat.le_refl _)))
        have Rw := Lib.hid (Bw.out.kept hk (.inl (Nat.le_refl _)))
        have Rg := Lib.hid (Bg.out.kept hk (.inl (Nat.le_refl _)))
        have Rq := Lib.hid (Bq.out.kept hk (.inl (Nat.le_refl _)))
        clear OW
        have OW := PW
        clear PW
        clear OG
        have OG := PG
        clear PG
        clear OQ
        have OQ := PQ
        clear PQ
        clear Ba
        have Ba := Ra
        clear Ra
        clear Bh
        have Bh := Rh
        clear Rh
        clear Bw
        have Bw := Rw
        clear Rw
        clear Bg
        have Bg := Rg
        clear Rg
        clear Bq
        have Bq := Rq
        clear Rq
        have K15 := Lib.hid (K14.out.trans hk)
        have z15 := hk.size
        clear hk K14
        have cg0 := ax0 Bg.out
        have cg1 := ax1 Bg.out
        have cg2 := ax2 Bg.out
        have lg := Bg.out.lt
        go_wp2_with fail
        clear cg0 cg1 cg2 lg
        with_reducible refine (heldAs 1 N _ _ (OG.out.rdW (by omega)) (by omega) (by omega) Na Nu Nl).mono ?_
        rintro e w16 ⟨rfl, hk⟩
        have PW := Lib.hid (OW.out.kept hk (.inl (Nat.le_refl _)))
        have PG := Lib.hid (OG.out.kept hk (.inl (Nat.le_refl _)))
        have PQ := Lib.hid (OQ.out.kept hk (.inl (Nat.le_refl _)))
        have Ra := Lib.hid (Ba.out.kept hk (.inl (Nat.le_refl _)))
        have Rh := Lib.hid (Bh.out.kept hk (.inl (Nat.le_refl _)))
        have Rw := Lib.hid (Bw.out.kept hk (.inl (Nat.le_refl _)))
        have Rg := Lib.hid (Bg.out.kept hk (.inl (Nat.le_refl _)))
        have Rq := Lib.hid (Bq.out.kept hk (.inl (Nat.le_refl _)))
        clear OW
        have OW := PW
        clear PW
        clear OG
        have OG := PG
        clear PG
        clear OQ
        have OQ := PQ
        clear PQ
        clear Ba
        have Ba := Ra
        clear Ra
        clear Bh
        have Bh := Rh
        clear Rh
        clear Bw
        have Bw := Rw
        clear Rw
        clear Bg
        have Bg := Rg
        clear Rg
        clear Bq
        have Bq := Rq
        clear Rq
        have K16 := Lib.hid (K15.out.trans hk)
        have z16 := hk.size
        clear hk K15
        rw [HmN.out]
        go_wp2_with fail
        go_ret
        exact ⟨rfl, K16.out⟩
set_option maxHeartbeats 800000 in
theorem lawOff (D : DoesAsC 16) (s : Afs) (hs hg : Int) (v : Value) (w : World) (hb : RdAs w w.heap.size v s) :
    Calls Try.prog 7 #[v, .agg #[.int .i64 hs, .int .i64 hg]] w fun e w' => e = .returned (.bool true) ∧ Kept 0 0 w w' := by
  rcases Nat.lt_or_ge 1048576 (s.slots.ages.length + s.slots.used.length + s.list.length) with hl | hl
  case inr => exact lawOff_small D s hs hg v w hb hl
  obtain ⟨_, _, _, rfl, ⟨A1, q1, rfl, s1⟩, ⟨A2, q2, rfl, s2⟩, ⟨A3, q3, rfl, s3⟩⟩ := hb
  have Hb : Hid (RdAs w w.heap.size (.agg #[.slice A1 s.slots.ages.length q1, .slice A2 s.slots.used.length q2, .slice A3 s.list.length q3]) s) := ⟨_, _, _, rfl, ⟨A1, q1, rfl, s1⟩, ⟨A2, q2, rfl, s2⟩, ⟨A3, q3, rfl, s3⟩⟩
  obtain ⟨W, hW⟩ : ∃ W, W = (w.alloc (.cells #[.slice A1 s.slots.ages.length q1, .slice A2 s.slots.used.length q2, .slice A3 s.list.length q3] 53)).alloc (.cells #[.int .i64 hs, .int .i64 hg] 62) := ⟨_, rfl⟩
  have KW : Hid (Kept 0 0 w W) := by show Kept _ _ _ _; rw [hW]; exact (Kept.alloc0 _ _).alloc _
  have HW := Lib.hid hW
  have CS := Lib.hid (szAs_neg s _ 1048576 W (Hb.out.up KW.out) (by unfold szAsN; omega) (by omega) (by omega))
  clear hW s1 s2 s3
  go_enter Try.func7, Try.ntmps7
  go_wp2_with fail
  rw [← HW.out]
  with_reducible refine CS.out.mono ?_
  rintro e w1 ⟨rfl, hk⟩
  have K1 := Lib.hid (KW.out.trans hk)
  clear hk CS
  go_wp2
  go_ret
  exact ⟨rfl, K1.out⟩


set_option maxHeartbeats 12800000 in
set_option maxRecDepth 100000 in
theorem lawQueue_small (D : DoesAsQ 14) (s : Afs) (node : Int) (v : Value) (w : World) (hb : RdAs w w.heap.size v s) (hn : s.slots.ages.length + s.slots.used.length + s.list.length ≤ 1048576) :
    Calls Try.prog 8 #[v, .int .i64 node] w fun e w' => e = .returned (.bool true) ∧ Kept 0 0 w w' := by
  obtain ⟨_, _, _, rfl, ⟨A1, q1, rfl, s1⟩, ⟨A2, q2, rfl, s2⟩, ⟨A3, q3, rfl, s3⟩⟩ := hb
  have Hb : Hid (RdAs w w.heap.size (.agg #[.slice A1 s.slots.ages.length q1, .slice A2 s.slots.used.length q2, .slice A3 s.list.length q3]) s) := ⟨_, _, _, rfl, ⟨A1, q1, rfl, s1⟩, ⟨A2, q2, rfl, s2⟩, ⟨A3, q3, rfl, s3⟩⟩
  clear s1 s2 s3
  have sa : s.slots.ages.length ≤ 1048576 := by omega
  have su : s.slots.used.length ≤ 1048576 := by omega
  have sl : s.list.length ≤ 1048576 := by omega
  have sz : szAsN s ≤ 1048576 := by unfold szAsN; omega
  have SZ : Hid ((0 : Int) ≤ 1048576 - s.slots.ages.length - s.slots.used.length - s.list.length) := by show _ ≤ _; omega
  obtain ⟨N, hN⟩ : ∃ N, N = queueA s node := ⟨_, rfl⟩
  have NL : N.slots.ages.length ≤ 1048576 ∧ N.slots.used.length ≤ 1048576 ∧ N.list.length ≤ 1048576 := by rw [hN]; exact queueA_len _ _
  have Na := NL.1
  have Nu := NL.2.1
  have Nl := NL.2.2
  have CS : Hid (∀ (x : Value) (X : World), RdAs X X.heap.size x s → Calls Try.prog 31 #[x, .int .i64 node] X fun e w' => ∃ z, e = .returned (z) ∧ OwnAs w' X.heap.size w'.heap.size z N ∧ Kept 0 0 X w') := by
    intro x X h1
    have := specQueue s node x X h1
    rw [← hN] at this
    exact this
  have CI : Hid (∀ (x : Value) (X : World), RdAs X X.heap.size x s → Calls Try.prog 14 #[x, .int .i64 node] X fun e w' => ∃ z, e = .returned (z) ∧ OwnAs w' X.heap.size w'.heap.size z N ∧ Kept 0 0 X w') := by
    intro x X h1
    have := D s node x X h1
    rw [← hN] at this
    exact this
  clear hN NL 
  go_enter Try.func8, Try.ntmps8
  go_wp2_with fail
  obtain ⟨w1, hw⟩ : ∃ w1, w1 = (w.alloc (.cells #[.slice A1 s.slots.ages.length q1, .slice A2 s.slots.used.length q2, .slice A3 s.list.length q3] 53)) := ⟨_, rfl⟩
  have hk : Kept 0 0 w w1 := by rw [hw]; exact Kept.alloc0 _ _
  have Na : Hid (Blk w1 (w.heap.size) 53 #[.slice A1 s.slots.ages.length q1, .slice A2 s.slots.used.length q2, .slice A3 s.list.length q3]) := by show Blk _ _ _ _; rw [hw]; have := (Blk.new w 53 #[.slice A1 s.slots.ages.length q1, .slice A2 s.slots.used.length q2, .slice A3 s.list.length q3]); simpa using this
  rw [← hw]
  have Ba := Na
  clear Na
  have ya : w.heap.size + 0 < w1.heap.size := Ba.out.lt
  have K1 := Lib.hid ((Kept.refl 0 0 w).trans hk)
  have z1 := hk.size
  clear hk hw
  have szz := SZ.out
  with_reducible refine (szAs_pos s _ _ _ (Hb.out.up K1.out) sz (by omega)).mono ?_
  rintro e w2 ⟨rfl, hk⟩
  have Ra := Lib.hid (Ba.out.kept hk (.inl (Nat.le_refl _)))
  clear Ba
  have Ba := Ra
  clear Ra
  have K2 := Lib.hid (K1.out.trans hk)
  have z2 := hk.size
  clear hk K1
  have ca0 := ax0 Ba.out
  have ca1 := ax1 Ba.out
  have ca2 := ax2 Ba.out
  have la := Ba.out.lt
  go_wp2_with fail
  clear ca0 ca1 ca2 la
  with_reducible refine (toAs s _ _ (Hb.out.up K2.out) sa su sl).mono ?_
  rintro e w3 ⟨_, rfl, ⟨_, _, _, rfl, ⟨DAp, dAp, rfl, oa⟩, ⟨DBp, dBp, rfl, ob⟩, ⟨DCp, dCp, rfl, oc⟩⟩, hk⟩
  have Ra := Lib.hid (Ba.out.kept hk (.inl (Nat.le_refl _)))
  clear Ba
  have Ba := Ra
  clear Ra
  have Op : Hid (OwnAs w3 w2.heap.size w3.heap.size (.agg #[.slice DAp s.slots.ages.length dAp, .slice DBp s.slots.used.length dBp, .slice DCp s.list.length dCp]) s) := ⟨_, _, _, rfl, ⟨DAp, dAp, rfl, oa⟩, ⟨DBp, dBp, rfl, ob⟩, ⟨DCp, dCp, rfl, oc⟩⟩
  have K3 := Lib.hid (K2.out.trans hk)
  have z3 := hk.size
  clear hk oa ob oc K2
  go_wp2_with fail
  with_reducible refine (CS.out _ _ (Op.out.rdW (by omega))).mono ?_
  rintro e w4 ⟨_, rfl, ⟨_, _, _, rfl, ⟨DAW, dAW, rfl, oa⟩, ⟨DBW, dBW, rfl, ob⟩, ⟨DCW, dCW, rfl, oc⟩⟩, hk⟩
  have Pp := Lib.hid (Op.out.kept hk (.inl (Nat.le_refl _)))
  have Ra := Lib.hid (Ba.out.kept hk (.inl (Nat.le_refl _)))
  clear Op
  have Op := Pp
  clear Pp
  clear Ba
  have Ba := Ra
  clear Ra
  have OW : Hid (OwnAs w4 w3.heap.size w4.heap.size (.agg #[.slice DAW N.slots.ages.length dAW, .slice DBW N.slots.used.length dBW, .slice DCW N.list.length dCW]) N) := ⟨_, _, _, rfl, ⟨DAW, dAW, rfl, oa⟩, ⟨DBW, dBW, rfl, ob⟩, ⟨DCW, dCW, rfl, oc⟩⟩
  have K4 := Lib.hid (K3.out.trans hk)
  have z4 := hk.size
  clear hk oa ob oc K3
  clear Op
  have ca0 := ax0 Ba.out
  have ca1 := ax1 Ba.out
  have ca2 := ax2 Ba.out
  have la := Ba.out.lt
  go_wp2_with fail
  clear ca0 ca1 ca2 la
  obtain ⟨w5, hw⟩ : ∃ w5, w5 = (w4.alloc (.cells #[.slice DAW N.slots.ages.length dAW, .slice DBW N.slots.used.length dBW, .slice DCW N.list.length dCW] 34)) := ⟨_, rfl⟩
  have hk : Kept 0 0 w4 w5 := by rw [hw]; exact Kept.alloc0 _ _
  have Nw : Hid (Blk w5 (w4.heap.size) 34 #[.slice DAW N.slots.ages.length dAW, .slice DBW N.slots.used.length dBW, .slice DCW N.list.length dCW]) := by show Blk _ _ _ _; rw [hw]; have := (Blk.new w4 34 #[.slice DAW N.slots.ages.length dAW, .slice DBW N.slots.used.length dBW, .slice DCW N.list.length dCW]); simpa using this
  rw [← hw]
  have PW := Lib.hid (OW.out.kept hk (.inl (Nat.le_refl _)))
  have Ra := Lib.hid (Ba.out.kept hk (.inl (Nat.le_refl _)))
  clear OW
  have OW := PW
  clear PW
  clear Ba
  have Ba := Ra
  clear Ra
  have Bw := Nw
  clear Nw
  have yw : w4.heap.size + 0 < w5.heap.size := Bw.out.lt
  have K5 := Lib.hid (K4.out.trans hk)
  have z5 := hk.size
  clear hk hw K4
  with_reducible refine (toAs s _ _ (Hb.out.up K5.out) sa su sl).mono ?_
  rintro e w6 ⟨_, rfl, ⟨_, _, _, rfl, ⟨DAx, dAx, rfl, oa⟩, ⟨DBx, dBx, rfl, ob⟩, ⟨DCx, dCx, rfl, oc⟩⟩, hk⟩
  have PW := Lib.hid (OW.out.kept hk (.inl (Nat.le_refl _)))
  have Ra := Lib.hid (Ba.out.kept hk (.inl (Nat.le_refl _)))
  have Rw := Lib.hid (Bw.out.kept hk (.inl (Nat.le_refl _)))
  clear OW
  have OW := PW
  clear PW
  clear Ba
  have Ba := Ra
  clear Ra
  clear Bw
  have Bw := Rw
  clear Rw
  have Ox : Hid (OwnAs w6 w5.heap.size w6.heap.size (.agg #[.slice DAx s.slots.ages.length dAx, .slice DBx s.slots.used.length dBx, .slice DCx s.list.length dCx]) s) := ⟨_, _, _, rfl, ⟨DAx, dAx, rfl, oa⟩, ⟨DBx, dBx, rfl, ob⟩, ⟨DCx, dCx, rfl, oc⟩⟩
  have K6 := Lib.hid (K5.out.trans hk)
  have z6 := hk.size
  clear hk oa ob oc K5
  go_wp2_with fail
  obtain ⟨w7, hw⟩ : ∃ w7, w7 = (w6.alloc (.cells #[.slice DAx s.slots.ages.length dAx, .slice DBx s.slots.used.length dBx, .slice DCx s.list.length dCx] 34)) := ⟨_, rfl⟩
  have hk : Kept 0 0 w6 w7 := by rw [hw]; exact Kept.alloc0 _ _
  have Nx : Hid (Blk w7 (w6.heap.size) 34 #[.slice DAx s.slots.ages.length dAx, .slice DBx s.slots.used.length dBx, .slice DCx s.list.length dCx]) := by show Blk _ _ _ _; rw [hw]; have := (Blk.new w6 34 #[.slice DAx s.slots.ages.length dAx, .slice DBx s.slots.used.length dBx, .slice DCx s.list.length dCx]); simpa using this
  rw [← hw]
  have PW := Lib.hid (OW.out.kept hk (.inl (Nat.le_refl _)))
  have Px := Lib.hid (Ox.out.kept hk (.inl (Nat.le_refl _)))
  have Ra := Lib.hid (Ba.out.kept hk (.inl (Nat.le_refl _)))
  have Rw := Lib.hid (Bw.out.kept hk (.inl (Nat.le_refl _)))
  clear OW
  have OW := PW
  clear PW
  clear Ox
  have Ox := Px
  clear Px
  clear Ba
  have Ba := Ra
  clear Ra
  clear Bw
  have Bw := Rw
  clear Rw
  have Bx := Nx
  clear Nx
  have yx : w6.heap.size + 0 < w7.heap.size := Bx.out.lt
  have K7 := Lib.hid (K6.out.trans hk)
  have z7 := hk.size
  clear hk hw K6
  with_reducible refine (CI.out _ _ (Ox.out.rdW (by omega))).mono ?_
  rintro e w8 ⟨_, rfl, ⟨_, _, _, rfl, ⟨DAG, dAG, rfl, oa⟩, ⟨DBG, dBG, rfl, ob⟩, ⟨DCG, dCG, rfl, oc⟩⟩, hk⟩
  have PW := Lib.hid (OW.out.kept hk (.inl (Nat.le_refl _)))
  have Px := Lib.hid (Ox.out.kept hk (.inl (Nat.le_refl _)))
  have Ra := Lib.hid (Ba.out.kept hk (.inl (Nat.le_refl _)))
  have Rw := Lib.hid (Bw.out.kept hk (.inl (Nat.le_refl _)))
  have Rx := Lib.hid (Bx.out.kept hk (.inl (Nat.le_refl _)))
  clear OW
  have OW := PW
  clear PW
  clear Ox
  have Ox := Px
  clear Px
  clear Ba
  have Ba := Ra
  clear Ra
  clear Bw
  have Bw := Rw
  clear Rw
  clear Bx
  have Bx := Rx
  clear Rx
  have OG : Hid (OwnAs w8 w7.heap.size w8.heap.size (.agg #[.slice DAG N.slots.ages.length dAG, .slice DBG N.slots.used.length dBG, .slice DCG N.list.length dCG]) N) := ⟨_, _, _, rfl, ⟨DAG, dAG, rfl, oa⟩, ⟨DBG, dBG, rfl, ob⟩, ⟨DCG, dCG, rfl, oc⟩⟩
  have K8 := Lib.hid (K7.out.trans hk)
  have z8 := hk.size
  clear hk oa ob oc K7
  have cw0 := ax0 Bw.out
  have cw1 := ax1 Bw.out
  have cw2 := ax2 Bw.out
  have lw := Bw.out.lt
  go_wp2_with fail
  clear cw0 cw1 cw2 lw
  obtain ⟨w9, hw⟩ : ∃ w9, w9 = (w8.alloc (.cells #[.slice DAG N.slots.ages.length dAG, .slice DBG N.slots.used.length dBG, .slice DCG N.list.length dCG] 34)) := ⟨_, rfl⟩
  have hk : Kept 0 0 w8 w9 := by rw [hw]; exact Kept.alloc0 _ _
  have Ng : Hid (Blk w9 (w8.heap.size) 34 #[.slice DAG N.slots.ages.length dAG, .slice DBG N.slots.used.length dBG, .slice DCG N.list.length dCG]) := by show Blk _ _ _ _; rw [hw]; have := (Blk.new w8 34 #[.slice DAG N.slots.ages.length dAG, .slice DBG N.slots.used.length dBG, .slice DCG N.list.length dCG]); simpa using this
  rw [← hw]
  have PW := Lib.hid (OW.out.kept hk (.inl (Nat.le_refl _)))
  have Px := Lib.hid (Ox.out.kept hk (.inl (Nat.le_refl _)))
  have PG := Lib.hid (OG.out.kept hk (.inl (Nat.le_refl _)))
  have Ra := Lib.hid (Ba.out.kept hk (.inl (Nat.le_refl _)))
  have Rw := Lib.hid (Bw.out.kept hk (.inl (Nat.le_refl _)))
  have Rx := Lib.hid (Bx.out.kept hk (.inl (Nat.le_refl _)))
  clear OW
  have OW := PW
  clear PW
  clear Ox
  have Ox := Px
  clear Px
  clear OG
  have OG := PG
  clear PG
  clear Ba
  have Ba := Ra
  clear Ra
  clear Bw
  have Bw := Rw
  clear Rw
  clear Bx
  have Bx := Rx
  clear Rx
  have Bg := Ng
  clear Ng
  have yg : w8.heap.size + 0 < w9.heap.size := Bg.out.lt
  have K9 := Lib.hid (K8.out.trans hk)
  have z9 := hk.size
  clear hk hw K8
  with_reducible refine (eqAs N _ _ _ (OG.out.rdW (by omega)) (OW.out.rdW (by omega))).mono ?_
  rintro e w10 ⟨rfl, hk⟩
  have PW := Lib.hid (OW.out.kept hk (.inl (Nat.le_refl _)))
  have Px := Lib.hid (Ox.out.kept hk (.inl (Nat.le_refl _)))
  have PG := Lib.hid (OG.out.kept hk (.inl (Nat.le_refl _)))
  have Ra := Lib.hid (Ba.out.kept hk (.inl (Nat.le_refl _)))
  have Rw := Lib.hid (Bw.out.kept hk (.inl (Nat.le_refl _)))
  have Rx := Lib.hid (Bx.out.kept hk (.inl (Nat.le_refl _)))
  have Rg := Lib.hid (Bg.out.kept hk (.inl (Nat.le_refl _)))
  clear OW
  have OW := PW
  clear PW
  clear Ox
  have Ox := Px
  clear Px
  clear OG
  have OG := PG
  clear PG
  clear Ba
  have Ba := Ra
  clear Ra
  clear Bw
  have Bw := Rw
  clear Rw
  clear Bx
  have Bx := Rx
  clear Rx
  clear Bg
  have Bg := Rg
  clear Rg
  have K10 := Lib.hid (K9.out.trans hk)
  have z10 := hk.size
  clear hk K9
  go_upto_region 10 with fail
  have lx := Bx.out.lt
  have la := Ba.out.lt
  go_region_held3 (fun w' => w'.cell? ⟨(w6.heap.size), 0, none⟩ = some (.slice DAx s.slots.ages.length dAx) ∧ w'.cell? ⟨(w6.heap.size), 1, none⟩ = some (.slice DBx s.slots.used.length dBx) ∧ w'.cell? ⟨(w6.heap.size), 2, none⟩ = some (.slice DCx s.list.length dCx) ∧ w'.cell? ⟨(w.heap.size), 0, none⟩ = some (.slice A1 s.slots.ages.length q1) ∧ w'.cell? ⟨(w.heap.size), 1, none⟩ = some (.slice A2 s.slots.used.length q2) ∧ w'.cell? ⟨(w.heap.size), 2, none⟩ = some (.slice A3 s.list.length q3))
    (first | with_reducible exact ⟨ax0 Bx.out.drew, ax1 Bx.out.drew, ax2 Bx.out.drew, ax0 Ba.out.drew, ax1 Ba.out.drew, ax2 Ba.out.drew⟩ | with_reducible exact ⟨ax0 Xx, ax1 Xx, ax2 Xx, ax0 Xa, ax1 Xa, ax2 Xa⟩ | with_reducible exact ⟨ax0 Yx, ax1 Yx, ax2 Yx, ax0 Ya, ax1 Ya, ax2 Ya⟩)
    (first | (go_at_call 22; (with_reducible refine (toAs s _ w10.drew (Hb.out.up K10.out.drew) sa su sl).mono ?_); rintro e w11 ⟨u1, rfl, oy, hk⟩; have k1 : Kept 0 0 w10 w11 := (Kept.refl 0 0 w10).drew.trans hk; have Xx := Bx.out.kept k1 (.inl (Nat.le_refl _)); have Xa := Ba.out.kept k1 (.inl (Nat.le_refl _)); have zz := k1.size; clear hk) | (go_at_call 23; (with_reducible refine (eqAs s _ _ w11 ((Ox.out.kept k1 (.inl (Nat.le_refl _))).rdW (by omega)) (oy.rdW (Nat.le_refl _))).mono ?_); rintro e w12 ⟨rfl, hk⟩; have k2 : Kept 0 0 w10 w12 := k1.trans hk; have Yx := Bx.out.kept k2 (.inl (Nat.le_refl _)); have Ya := Ba.out.kept k2 (.inl (Nat.le_refl _)); have ks := Lib.hid k2; clear hk))
  clear Xx Xa Yx Ya k1 k2 oy zz lx la
  have PW := Lib.hid (OW.out.kept ks.out (.inl (Nat.le_refl _)))
  have Px := Lib.hid (Ox.out.kept ks.out (.inl (Nat.le_refl _)))
  have PG := Lib.hid (OG.out.kept ks.out (.inl (Nat.le_refl _)))
  have Ra := Lib.hid (Ba.out.kept ks.out (.inl (Nat.le_refl _)))
  have Rw := Lib.hid (Bw.out.kept ks.out (.inl (Nat.le_refl _)))
  have Rx := Lib.hid (Bx.out.kept ks.out (.inl (Nat.le_refl _)))
  have Rg := Lib.hid (Bg.out.kept ks.out (.inl (Nat.le_refl _)))
  clear OW
  have OW := PW
  clear PW
  clear Ox
  have Ox := Px
  clear Px
  clear OG
  have OG := PG
  clear PG
  clear Ba
  have Ba := Ra
  clear Ra
  clear Bw
  have Bw := Rw
  clear Rw
  clear Bx
  have Bx := Rx
  clear Rx
  clear Bg
  have Bg := Rg
  clear Rg
  have K12 := Lib.hid (K10.out.trans ks.out)
  have z12 := ks.out.size
  clear ks K10
  obtain ⟨mS, hmS⟩ : ∃ mS, mS = markAsN 1 s := ⟨_, rfl⟩
  obtain ⟨mN, hmN⟩ : ∃ mN, mN = markAsN 1 N := ⟨_, rfl⟩
  have pS : 0 ≤ mS := by rw [hmS]; exact markAsN_pos _
  have pN : 0 ≤ mN := by rw [hmN]; exact markAsN_pos _
  have HmS := Lib.hid hmS.symm
  have HmN := Lib.hid hmN.symm
  clear hmS hmN
  have cx0 := ax0 Bx.out
  have cx1 := ax1 Bx.out
  have cx2 := ax2 Bx.out
  have lx := Bx.out.lt
  go_wp2_with fail
  clear cx0 cx1 cx2 lx
  with_reducible refine (markAs (1) s _ (w5.heap.size) (w6.heap.size) _ Ox.out (by omega) (by omega) sa su sl (by omega)).mono ?_
  rintro e w13 ⟨rfl, ho, hk⟩
  have PW := Lib.hid (OW.out.kept hk (by omega))
  have PG := Lib.hid (OG.out.kept hk (by omega))
  have Ra := Lib.hid (Ba.out.kept hk (by omega))
  have Rw := Lib.hid (Bw.out.kept hk (by omega))
  have Rx := Lib.hid (Bx.out.kept hk (by omega))
  have Rg := Lib.hid (Bg.out.kept hk (by omega))
  clear OW
  have OW := PW
  clear PW
  clear OG
  have OG := PG
  clear PG
  clear Ba
  have Ba := Ra
  clear Ra
  clear Bw
  have Bw := Rw
  clear Rw
  clear Bx
  have Bx := Rx
  clear Rx
  clear Bg
  have Bg := Rg
  clear Rg
  clear Ox
  have Ox := Lib.hid ho
  have K13 := Lib.hid (K12.out.trans2 hk (.inr (by omega)))
  have z13 := hk.size
  clear hk ho K12
  rw [HmS.out]
  have cg0 := ax0 Bg.out
  have cg1 := ax1 Bg.out
  have cg2 := ax2 Bg.out
  have lg := Bg.out.lt
  have cw0 := ax0 Bw.out
  have cw1 := ax1 Bw.out
  have cw2 := ax2 Bw.out
  have lw := Bw.out.lt
  go_wp2_with fail
  clear cg0 cg1 cg2 cw0 cw1 cw2 lg lw
  with_reducible refine (eqAs N _ _ _ (OG.out.rdW (by omega)) (OW.out.rdW (by omega))).mono ?_
  rintro e w14 ⟨rfl, hk⟩
  have PW := Lib.hid (OW.out.kept hk (.inl (Nat.le_refl _)))
  have Px := Lib.hid (Ox.out.kept hk (.inl (Nat.le_refl _)))
  have PG := Lib.hid (OG.out.kept hk (.inl (Nat.le_refl _)))
  have Ra := Lib.hid (Ba.out.kept hk (.inl (Nat.le_refl _)))
  have Rw := Lib.hid (Bw.out.kept hk (.inl (Nat.le_refl _)))
  have Rx := Lib.hid (Bx.out.kept hk (.inl (Nat.le_refl _)))
  have Rg := Lib.hid (Bg.out.kept hk (.inl (Nat.le_refl _)))
  clear OW
  have OW := PW
  clear PW
  clear Ox
  have Ox := Px
  clear Px
  clear OG
  have OG := PG
  clear PG
  clear Ba
  have Ba := Ra
  clear Ra
  clear Bw
  have Bw := Rw
  clear Rw
  clear Bx
  have Bx := Rx
  clear Rx
  clear Bg
  have Bg := Rg
  clear Rg
  have K14 := Lib.hid (K13.out.trans hk)
  have z14 := hk.size
  clear hk K13
  have cg0 := ax0 Bg.out
  have cg1 := ax1 Bg.out
  have cg2 := ax2 Bg.out
  have lg := Bg.out.lt
  go_wp2_with fail
  clear cg0 cg1 cg2 lg
  with_reducible refine (markAs (1) N _ (w7.heap.size) (w8.heap.size) _ OG.out (by omega) (by omega) Na Nu Nl (by omega)).mono ?_
  rintro e w15 ⟨rfl, ho, hk⟩
  have PW := Lib.hid (OW.out.kept hk (by omega))
  have Px := Lib.hid (Ox.out.kept hk (by omega))
  have Ra := Lib.hid (Ba.out.kept hk (by omega))
  have Rw := Lib.hid (Bw.out.kept hk (by omega))
  have Rx := Lib.hid (Bx.out.kept hk (by omega))
  have Rg := Lib.hid (Bg.out.kept hk (by omega))
  clear OW
  have OW := PW
  clear PW
  clear Ox
  have Ox := Px
  clear Px
  clear Ba
  have Ba := Ra
  clear Ra
  clear Bw
  have Bw := Rw
  clear Rw
  clear Bx
  have Bx := Rx
  clear Rx
  clear Bg
  have Bg := Rg
  clear Rg
  clear OG
  have OG := Lib.hid ho
  have K15 := Lib.hid (K14.out.trans2 hk (.inr (by omega)))
  have z15 := hk.size
  clear hk ho K14
  rw [HmN.out]
  have cg0 := ax0 Bg.out
  have cg1 := ax1 Bg.out
  have cg2 := ax2 Bg.out
  have lg := Bg.out.lt
  go_wp2_with fail
  clear cg0 cg1 cg2 lg
  with_reducible refine (heldAs 1 N _ _ (OG.out.rdW (by omega)) (by omega) (by omega) Na Nu Nl).mono ?_
  rintro e w16 ⟨rfl, hk⟩
  have PW := Lib.hid (OW.out.kept hk (.inl (Nat.le_refl _)))
  have Px := Lib.hid (Ox.out.kept hk (.inl (Nat.le_refl _)))
  have PG := Lib.hid (OG.out.kept hk (.inl (Nat.le_refl _)))
  have Ra := Lib.hid (Ba.out.kept hk (.inl (Nat.le_refl _)))
  have Rw := Lib.hid (Bw.out.kept hk (.inl (Nat.le_refl _)))
  have Rx := Lib.hid (Bx.out.kept hk (.inl (Nat.le_refl _)))
  have Rg := Lib.hid (Bg.out.kept hk (.inl (Nat.le_refl _)))
  clear OW
  have OW := PW
  clear PW
  clear Ox
  have Ox := Px
  clear Px
  clear OG
  have OG := PG
  clear PG
  clear Ba
  have Ba := Ra
  clear Ra
  clear Bw
  have Bw := Rw
  clear Rw
  clear Bx
  have Bx := Rx
  clear Rx
  clear Bg
  have Bg := Rg
  clear Rg
  have K16 := Lib.hid (K15.out.trans hk)
  have z16 := hk.size
  clear hk K15
  rw [HmN.out]
  have qm : (mN != mN) = false := by simp
  clear Ox
  have ca0 := ax0 Ba.out
  have ca1 := ax1 Ba.out
  have ca2 := ax2 Ba.out
  have la := Ba.out.lt
  go_wp2_with fail
  clear ca0 ca1 ca2 la
  with_reducible refine (toAs s _ _ (Hb.out.up K16.out) sa su sl).mono ?_
  rintro e w17 ⟨_, rfl, ⟨_, _, _, rfl, ⟨DAp, dAp, rfl, oa⟩, ⟨DBp, dBp, rfl, ob⟩, ⟨DCp, dCp, rfl, oc⟩⟩, hk⟩
  have PW := Lib.hid (OW.out.kept hk (.inl (Nat.le_refl _)))
  have PG := Lib.hid (OG.out.kept hk (.inl (Nat.le_refl _)))
  have Ra := Lib.hid (Ba.out.kept hk (.inl (Nat.le_refl _)))
  have Rw := Lib.hid (Bw.out.kept hk (.inl (Nat.le_refl _)))
  have Rx := Lib.hid (Bx.out.kept hk (.inl (Nat.le_refl _)))
  have Rg := Lib.hid (Bg.out.kept hk (.inl (Nat.le_refl _)))
  clear OW
  have OW := PW
  clear PW
  clear OG
  have OG := PG
  clear PG
  clear Ba
  have Ba := Ra
  clear Ra
  clear Bw
  have Bw := Rw
  clear Rw
  clear Bx
  have Bx := Rx
  clear Rx
  clear Bg
  have Bg := Rg
  clear Rg
  have Op : Hid (OwnAs w17 w16.heap.size w17.heap.size (.agg #[.slice DAp s.slots.ages.length dAp, .slice DBp s.slots.used.length dBp, .slice DCp s.list.length dCp]) s) := ⟨_, _, _, rfl, ⟨DAp, dAp, rfl, oa⟩, ⟨DBp, dBp, rfl, ob⟩, ⟨DCp, dCp, rfl, oc⟩⟩
  have K17 := Lib.hid (K16.out.trans hk)
  have z17 := hk.size
  clear hk oa ob oc K16
  go_wp2_with fail
  with_reducible refine (CI.out _ _ (Op.out.rdW (by omega))).mono ?_
  rintro e w18 ⟨_, rfl, ⟨_, _, _, rfl, ⟨DAQ, dAQ, rfl, oa⟩, ⟨DBQ, dBQ, rfl, ob⟩, ⟨DCQ, dCQ, rfl, oc⟩⟩, hk⟩
  have PW := Lib.hid (OW.out.kept hk (.inl (Nat.le_refl _)))
  have PG := Lib.hid (OG.out.kept hk (.inl (Nat.le_refl _)))
  have Pp := Lib.hid (Op.out.kept hk (.inl (Nat.le_refl _)))
  have Ra := Lib.hid (Ba.out.kept hk (.inl (Nat.le_refl _)))
  have Rw := Lib.hid (Bw.out.kept hk (.inl (Nat.le_refl _)))
  have Rx := Lib.hid (Bx.out.kept hk (.inl (Nat.le_refl _)))
  have Rg := Lib.hid (Bg.out.kept hk (.inl (Nat.le_refl _)))
  clear OW
  have OW := PW
  clear PW
  clear OG
  have OG := PG
  clear PG
  clear Op
  have Op := Pp
  clear Pp
  clear Ba
  have Ba := Ra
  clear Ra
  clear Bw
  have Bw := Rw
  clear Rw
  clear Bx
  have Bx := Rx
  clear Rx
  clear Bg
  have Bg := Rg
  clear Rg
  have OQ : Hid (OwnAs w18 w17.heap.size w18.heap.size (.agg #[.slice DAQ N.slots.ages.length dAQ, .slice DBQ N.slots.used.length dBQ, .slice DCQ N.list.length dCQ]) N) := ⟨_, _, _, rfl, ⟨DAQ, dAQ, rfl, oa⟩, ⟨DBQ, dBQ, rfl, ob⟩, ⟨DCQ, dCQ, rfl, oc⟩⟩
  have K18 := Lib.hid (K17.out.trans hk)
  have z18 := hk.size
  clear hk oa ob oc K17
  clear Op
  have cw0 := ax0 Bw.out
  have cw1 := ax1 Bw.out
  have cw2 := ax2 Bw.out
  have lw := Bw.out.lt
  go_wp2_with fail
  clear cw0 cw1 cw2 lw
  obtain ⟨w19, hw⟩ : ∃ w19, w19 = (w18.alloc (.cells #[.slice DAQ N.slots.ages.length dAQ, .slice DBQ N.slots.used.length dBQ, .slice DCQ N.list.length dCQ] 34)) := ⟨_, rfl⟩
  have hk : Kept 0 0 w18 w19 := by rw [hw]; exact Kept.alloc0 _ _
  have Nq : Hid (Blk w19 (w18.heap.size) 34 #[.slice DAQ N.slots.ages.length dAQ, .slice DBQ N.slots.used.length dBQ, .slice DCQ N.list.length dCQ]) := by show Blk _ _ _ _; rw [hw]; have := (Blk.new w18 34 #[.slice DAQ N.slots.ages.length dAQ, .slice DBQ N.slots.used.length dBQ, .slice DCQ N.list.length dCQ]); simpa using this
  rw [← hw]
  have PW := Lib.hid (OW.out.kept hk (.inl (Nat.le_refl _)))
  have PG := Lib.hid (OG.out.kept hk (.inl (Nat.le_refl _)))
  have PQ := Lib.hid (OQ.out.kept hk (.inl (Nat.le_refl _)))
  have Ra := Lib.hid (Ba.out.kept hk (.inl (Nat.le_refl _)))
  have Rw := Lib.hid (Bw.out.kept hk (.inl (Nat.le_refl _)))
  have Rx := Lib.hid (Bx.out.kept hk (.inl (Nat.le_refl _)))
  have Rg := Lib.hid (Bg.out.kept hk (.inl (Nat.le_refl _)))
  clear OW
  have OW := PW
  clear PW
  clear OG
  have OG := PG
  clear PG
  clear OQ
  have OQ := PQ
  clear PQ
  clear Ba
  have Ba := Ra
  clear Ra
  clear Bw
  have Bw := Rw
  clear Rw
  clear Bx
  have Bx := Rx
  clear Rx
  clear Bg
  have Bg := Rg
  clear Rg
  have Bq := Nq
  clear Nq
  have yq : w18.heap.size + 0 < w19.heap.size := Bq.out.lt
  have K19 := Lib.hid (K18.out.trans hk)
  have z19 := hk.size
  clear hk hw K18
  with_reducible refine (eqAs N _ _ _ (OQ.out.rdW (by omega)) (OW.out.rdW (by omega))).mono ?_
  rintro e w20 ⟨rfl, hk⟩
  have PW := Lib.hid (OW.out.kept hk (.inl (Nat.le_refl _)))
  have PG := Lib.hid (OG.out.kept hk (.inl (Nat.le_refl _)))
  have PQ := Lib.hid (OQ.out.kept hk (.inl (Nat.le_refl _)))
  have Ra := Lib.hid (Ba.out.kept hk (.inl (Nat.le_refl _)))
  have Rw := Lib.hid (Bw.out.kept hk (.inl (Nat.le_refl _)))
  have Rx := Lib.hid (Bx.out.kept hk (.inl (Nat.le_refl _)))
  have Rg := Lib.hid (Bg.out.kept hk (.inl (Nat.le_refl _)))
  have Rq := Lib.hid (Bq.out.kept hk (.inl (Nat.le_refl _)))
  clear OW
  have OW := PW
  clear PW
  clear OG
  have OG := PG
  clear PG
  clear OQ
  have OQ := PQ
  clear PQ
  clear Ba
  have Ba := Ra
  clear Ra
  clear Bw
  have Bw := Rw
  clear Rw
  clear Bx
  have Bx := Rx
  clear Rx
  clear Bg
  have Bg := Rg
  clear Rg
  clear Bq
  have Bq := Rq
  clear Rq
  have K20 := Lib.hid (K19.out.trans hk)
  have z20 := hk.size
  clear hk K19
  have cg0 := ax0 Bg.out
  have cg1 := ax1 Bg.out
  have cg2 := ax2 Bg.out
  have lg := Bg.out.lt
  go_wp2_with fail
  clear cg0 cg1 cg2 lg
  with_reducible refine (heldAs 1 N _ _ (OG.out.rdW (by omega)) (by omega) (by omega) Na Nu Nl).mono ?_
  rintro e w21 ⟨rfl, hk⟩
  have PW := Lib.hid (OW.out.kept hk (.inl (Nat.le_refl _)))
  have PG := Lib.hid (OG.out.kept hk (.inl (Nat.le_refl _)))
  have PQ := Lib.hid (OQ.out.kept hk (.inl (Nat.le_refl _)))
  have Ra := Lib.hid (Ba.out.kept hk (.inl (Nat.le_refl _)))
  have Rw := Lib.hid (Bw.out.kept hk (.inl (Nat.le_refl _)))
  have Rx := Lib.hid (Bx.out.kept hk (.inl (Nat.le_refl _)))
  have Rg := Lib.hid (Bg.out.kept hk (.inl (Nat.le_refl _)))
  have Rq := Lib.hid (Bq.out.kept hk (.inl (Nat.le_refl _)))
  clear OW
  have OW := PW
  clear PW
  clear OG
  have OG := PG
  clear PG
  clear OQ
  have OQ := PQ
  clear PQ
  clear Ba
  have Ba := Ra
  clear Ra
  clear Bw
  have Bw := Rw
  clear Rw
  clear Bx
  have Bx := Rx
  clear Rx
  clear Bg
  have Bg := Rg
  clear Rg
  clear Bq
  have Bq := Rq
  clear Rq
  have K21 := Lib.hid (K20.out.trans hk)
  have z21 := hk.size
  clear hk K20
  rw [HmN.out]
  go_wp2_with fail
  go_ret
  exact ⟨rfl, K21.out⟩
set_option maxHeartbeats 800000 in
theorem lawQueue (D : DoesAsQ 14) (s : Afs) (node : Int) (v : Value) (w : World) (hb : RdAs w w.heap.size v s) :
    Calls Try.prog 8 #[v, .int .i64 node] w fun e w' => e = .returned (.bool true) ∧ Kept 0 0 w w' := by
  rcases Nat.lt_or_ge 1048576 (s.slots.ages.length + s.slots.used.length + s.list.length) with hl | hl
  case inr => exact lawQueue_small D s node v w hb hl
  obtain ⟨_, _, _, rfl, ⟨A1, q1, rfl, s1⟩, ⟨A2, q2, rfl, s2⟩, ⟨A3, q3, rfl, s3⟩⟩ := hb
  have Hb : Hid (RdAs w w.heap.size (.agg #[.slice A1 s.slots.ages.length q1, .slice A2 s.slots.used.length q2, .slice A3 s.list.length q3]) s) := ⟨_, _, _, rfl, ⟨A1, q1, rfl, s1⟩, ⟨A2, q2, rfl, s2⟩, ⟨A3, q3, rfl, s3⟩⟩
  obtain ⟨W, hW⟩ : ∃ W, W = w.alloc (.cells #[.slice A1 s.slots.ages.length q1, .slice A2 s.slots.used.length q2, .slice A3 s.list.length q3] 53) := ⟨_, rfl⟩
  have KW : Hid (Kept 0 0 w W) := by show Kept _ _ _ _; rw [hW]; exact Kept.alloc0 _ _
  have HW := Lib.hid hW
  have CS := Lib.hid (szAs_neg s _ 1048576 W (Hb.out.up KW.out) (by unfold szAsN; omega) (by omega) (by omega))
  clear hW s1 s2 s3
  go_enter Try.func8, Try.ntmps8
  go_wp2_with fail
  rw [← HW.out]
  with_reducible refine CS.out.mono ?_
  rintro e w1 ⟨rfl, hk⟩
  have K1 := Lib.hid (KW.out.trans hk)
  clear hk CS
  go_wp2
  go_ret
  exact ⟨rfl, K1.out⟩


set_option maxHeartbeats 12800000 in
set_option maxRecDepth 100000 in
theorem lawStart_small (D : DoesAsS 15) (s : Afs) (v : Value) (w : World) (hb : RdAs w w.heap.size v s) (hn : s.slots.ages.length + s.slots.used.length + s.list.length ≤ 1048576) :
    Calls Try.prog 9 #[v] w fun e w' => e = .returned (.bool true) ∧ Kept 0 0 w w' := by
  obtain ⟨_, _, _, rfl, ⟨A1, q1, rfl, s1⟩, ⟨A2, q2, rfl, s2⟩, ⟨A3, q3, rfl, s3⟩⟩ := hb
  have Hb : Hid (RdAs w w.heap.size (.agg #[.slice A1 s.slots.ages.length q1, .slice A2 s.slots.used.length q2, .slice A3 s.list.length q3]) s) := ⟨_, _, _, rfl, ⟨A1, q1, rfl, s1⟩, ⟨A2, q2, rfl, s2⟩, ⟨A3, q3, rfl, s3⟩⟩
  clear s1 s2 s3
  have sa : s.slots.ages.length ≤ 1048576 := by omega
  have su : s.slots.used.length ≤ 1048576 := by omega
  have sl : s.list.length ≤ 1048576 := by omega
  have sz : szAsN s ≤ 1048576 := by unfold szAsN; omega
  have SZ : Hid ((0 : Int) ≤ 1048576 - s.slots.ages.length - s.slots.used.length - s.list.length) := by show _ ≤ _; omega
  obtain ⟨N, hN⟩ : ∃ N, N = pickA goB s := ⟨_, rfl⟩
  obtain ⟨bb, hbb⟩ : ∃ bb, bb = pickB goB s := ⟨_, rfl⟩
  obtain ⟨y, hy⟩ : ∃ y, y = pickX goB s := ⟨_, rfl⟩
  have NL : N.slots.ages.length ≤ 1048576 ∧ N.slots.used.length ≤ 1048576 ∧ N.list.length ≤ 1048576 := by rw [hN]; exact pickA_len _ _
  have Na := NL.1
  have Nu := NL.2.1
  have Nl := NL.2.2
  have CS : Hid (∀ (x : Value) (X : World), RdAs X X.heap.size x s → Calls Try.prog 32 #[x] X fun e w' => ∃ z, e = .returned (.tuple #[z, .agg #[.int .i64 y.slot, .int .i64 y.age, .int .i64 y.node, .int .i64 y.func, .bool y.queued], .bool bb]) ∧ OwnAs w' X.heap.size w'.heap.size z N ∧ Kept 0 0 X w') := by
    intro x X h1
    have := specStart s x X h1
    rw [← hN, ← hbb, ← hy] at this
    exact this
  have CI : Hid (∀ (x : Value) (X : World), RdAs X X.heap.size x s → Calls Try.prog 15 #[x] X fun e w' => ∃ z, e = .returned (.tuple #[z, .agg #[.int .i64 y.slot, .int .i64 y.age, .int .i64 y.node, .int .i64 y.func, .bool y.queued], .bool bb]) ∧ OwnAs w' X.heap.size w'.heap.size z N ∧ Kept 0 0 X w') := by
    intro x X h1
    have := D s x X h1
    rw [← hN, ← hbb, ← hy] at this
    exact this
  clear hN NL hbb hy
  have qq : (bb != bb) = false := by simp
  go_enter Try.func9, Try.ntmps9
  go_wp2_with fail
  obtain ⟨w1, hw⟩ : ∃ w1, w1 = (w.alloc (.cells #[.slice A1 s.slots.ages.length q1, .slice A2 s.slots.used.length q2, .slice A3 s.list.length q3] 53)) := ⟨_, rfl⟩
  have hk : Kept 0 0 w w1 := by rw [hw]; exact Kept.alloc0 _ _
  have Na : Hid (Blk w1 (w.heap.size) 53 #[.slice A1 s.slots.ages.length q1, .slice A2 s.slots.used.length q2, .slice A3 s.list.length q3]) := by show Blk _ _ _ _; rw [hw]; have := (Blk.new w 53 #[.slice A1 s.slots.ages.length q1, .slice A2 s.slots.used.length q2, .slice A3 s.list.length q3]); simpa using this
  rw [← hw]
  have Ba := Na
  clear Na
  have ya : w.heap.size + 0 < w1.heap.size := Ba.out.lt
  have K1 := Lib.hid ((Kept.refl 0 0 w).trans hk)
  have z1 := hk.size
  clear hk hw
  have szz := SZ.out
  with_reducible refine (szAs_pos s _ _ _ (Hb.out.up K1.out) sz (by omega)).mono ?_
  rintro e w2 ⟨rfl, hk⟩
  have Ra := Lib.hid (Ba.out.kept hk (.inl (Nat.le_refl _)))
  clear Ba
  have Ba := Ra
  clear Ra
  have K2 := Lib.hid (K1.out.trans hk)
  have z2 := hk.size
  clear hk K1
  have ca0 := ax0 Ba.out
  have ca1 := ax1 Ba.out
  have ca2 := ax2 Ba.out
  have la := Ba.out.lt
  go_wp2_with fail
  clear ca0 ca1 ca2 la
  with_reducible refine (toAs s _ _ (Hb.out.up K2.out) sa su sl).mono ?_
  rintro e w3 ⟨_, rfl, ⟨_, _, _, rfl, ⟨DAp, dAp, rfl, oa⟩, ⟨DBp, dBp, rfl, ob⟩, ⟨DCp, dCp, rfl, oc⟩⟩, hk⟩
  have Ra := Lib.hid (Ba.out.kept hk (.inl (Nat.le_refl _)))
  clear Ba
  have Ba := Ra
  clear Ra
  have Op : Hid (OwnAs w3 w2.heap.size w3.heap.size (.agg #[.slice DAp s.slots.ages.length dAp, .slice DBp s.slots.used.length dBp, .slice DCp s.list.length dCp]) s) := ⟨_, _, _, rfl, ⟨DAp, dAp, rfl, oa⟩, ⟨DBp, dBp, rfl, ob⟩, ⟨DCp, dCp, rfl, oc⟩⟩
  have K3 := Lib.hid (K2.out.trans hk)
  have z3 := hk.size
  clear hk oa ob oc K2
  go_wp2_with fail
  with_reducible refine (CS.out _ _ (Op.out.rdW (by omega))).mono ?_
  rintro e w4 ⟨_, rfl, ⟨_, _, _, rfl, ⟨DAW, dAW, rfl, oa⟩, ⟨DBW, dBW, rfl, ob⟩, ⟨DCW, dCW, rfl, oc⟩⟩, hk⟩
  have Pp := Lib.hid (Op.out.kept hk (.inl (Nat.le_refl _)))
  have Ra := Lib.hid (Ba.out.kept hk (.inl (Nat.le_refl _)))
  clear Op
  have Op := Pp
  clear Pp
  clear Ba
  have Ba := Ra
  clear Ra
  have OW : Hid (OwnAs w4 w3.heap.size w4.heap.size (.agg #[.slice DAW N.slots.ages.length dAW, .slice DBW N.slots.used.length dBW, .slice DCW N.list.length dCW]) N) := ⟨_, _, _, rfl, ⟨DAW, dAW, rfl, oa⟩, ⟨DBW, dBW, rfl, ob⟩, ⟨DCW, dCW, rfl, oc⟩⟩
  have K4 := Lib.hid (K3.out.trans hk)
  have z4 := hk.size
  clear hk oa ob oc K3
  clear Op
  have ca0 := ax0 Ba.out
  have ca1 := ax1 Ba.out
  have ca2 := ax2 Ba.out
  have la := Ba.out.lt
  go_wp2_with fail
  clear ca0 ca1 ca2 la
  obtain ⟨w5, hw⟩ : ∃ w5, w5 = ((w4.alloc (.cells #[.slice DAW N.slots.ages.length dAW, .slice DBW N.slots.used.length dBW, .slice DCW N.list.length dCW] 34)).alloc (.cells #[.int .i64 y.slot, .int .i64 y.age, .int .i64 y.node, .int .i64 y.func, .bool y.queued] 42)) := ⟨_, rfl⟩
  have hk : Kept 0 0 w4 w5 := by rw [hw]; exact (Kept.alloc0 _ _).alloc _
  have Nw : Hid (Blk w5 (w4.heap.size) 34 #[.slice DAW N.slots.ages.length dAW, .slice DBW N.slots.used.length dBW, .slice DCW N.list.length dCW]) := by show Blk _ _ _ _; rw [hw]; have := (Blk.new w4 34 #[.slice DAW N.slots.ages.length dAW, .slice DBW N.slots.used.length dBW, .slice DCW N.list.length dCW]).alloc (.cells #[.int .i64 y.slot, .int .i64 y.age, .int .i64 y.node, .int .i64 y.func, .bool y.queued] 42); simpa using this
  have Nwf : Hid (Blk w5 (w4.heap.size + 1) 42 #[.int .i64 y.slot, .int .i64 y.age, .int .i64 y.node, .int .i64 y.func, .bool y.queued]) := by show Blk _ _ _ _; rw [hw]; have := (Blk.new (w4.alloc (.cells #[.slice DAW N.slots.ages.length dAW, .slice DBW N.slots.used.length dBW, .slice DCW N.list.length dCW] 34)) 42 #[.int .i64 y.slot, .int .i64 y.age, .int .i64 y.node, .int .i64 y.func, .bool y.queued]); simpa using this
  rw [← hw]
  have PW := Lib.hid (OW.out.kept hk (.inl (Nat.le_refl _)))
  have Ra := Lib.hid (Ba.out.kept hk (.inl (Nat.le_refl _)))
  clear OW
  have OW := PW
  clear PW
  clear Ba
  have Ba := Ra
  clear Ra
  have Bw := Nw
  clear Nw
  have yw : w4.heap.size + 0 < w5.heap.size := Bw.out.lt
  have Bwf := Nwf
  clear Nwf
  have ywf : w4.heap.size + 1 < w5.heap.size := Bwf.out.lt
  have K5 := Lib.hid (K4.out.trans hk)
  have z5 := hk.size
  clear hk hw K4
  with_reducible refine (toAs s _ _ (Hb.out.up K5.out) sa su sl).mono ?_
  rintro e w6 ⟨_, rfl, ⟨_, _, _, rfl, ⟨DAx, dAx, rfl, oa⟩, ⟨DBx, dBx, rfl, ob⟩, ⟨DCx, dCx, rfl, oc⟩⟩, hk⟩
  have PW := Lib.hid (OW.out.kept hk (.inl (Nat.le_refl _)))
  have Ra := Lib.hid (Ba.out.kept hk (.inl (Nat.le_refl _)))
  have Rw := Lib.hid (Bw.out.kept hk (.inl (Nat.le_refl _)))
  have Rwf := Lib.hid (Bwf.out.kept hk (.inl (Nat.le_refl _)))
  clear OW
  have OW := PW
  clear PW
  clear Ba
  have Ba := Ra
  clear Ra
  clear Bw
  have Bw := Rw
  clear Rw
  clear Bwf
  have Bwf := Rwf
  clear Rwf
  have Ox : Hid (OwnAs w6 w5.heap.size w6.heap.size (.agg #[.slice DAx s.slots.ages.length dAx, .slice DBx s.slots.used.length dBx, .slice DCx s.list.length dCx]) s) := ⟨_, _, _, rfl, ⟨DAx, dAx, rfl, oa⟩, ⟨DBx, dBx, rfl, ob⟩, ⟨DCx, dCx, rfl, oc⟩⟩
  have K6 := Lib.hid (K5.out.trans hk)
  have z6 := hk.size
  clear hk oa ob oc K5
  go_wp2_with fail
  obtain ⟨w7, hw⟩ : ∃ w7, w7 = (w6.alloc (.cells #[.slice DAx s.slots.ages.length dAx, .slice DBx s.slots.used.length dBx, .slice DCx s.list.length dCx] 34)) := ⟨_, rfl⟩
  have hk : Kept 0 0 w6 w7 := by rw [hw]; exact Kept.alloc0 _ _
  have Nx : Hid (Blk w7 (w6.heap.size) 34 #[.slice DAx s.slots.ages.length dAx, .slice DBx s.slots.used.length dBx, .slice DCx s.list.length dCx]) := by show Blk _ _ _ _; rw [hw]; have := (Blk.new w6 34 #[.slice DAx s.slots.ages.length dAx, .slice DBx s.slots.used.length dBx, .slice DCx s.list.length dCx]); simpa using this
  rw [← hw]
  have PW := Lib.hid (OW.out.kept hk (.inl (Nat.le_refl _)))
  have Px := Lib.hid (Ox.out.kept hk (.inl (Nat.le_refl _)))
  have Ra := Lib.hid (Ba.out.kept hk (.inl (Nat.le_refl _)))
  have Rw := Lib.hid (Bw.out.kept hk (.inl (Nat.le_refl _)))
  have Rwf := Lib.hid (Bwf.out.kept hk (.inl (Nat.le_refl _)))
  clear OW
  have OW := PW
  clear PW
  clear Ox
  have Ox := Px
  clear Px
  clear Ba
  have Ba := Ra
  clear Ra
  clear Bw
  have Bw := Rw
  clear Rw
  clear Bwf
  have Bwf := Rwf
  clear Rwf
  have Bx := Nx
  clear Nx
  have yx : w6.heap.size + 0 < w7.heap.size := Bx.out.lt
  have K7 := Lib.hid (K6.out.trans hk)
  have z7 := hk.size
  clear hk hw K6
  with_reducible refine (CI.out _ _ (Ox.out.rdW (by omega))).mono ?_
  rintro e w8 ⟨_, rfl, ⟨_, _, _, rfl, ⟨DAG, dAG, rfl, oa⟩, ⟨DBG, dBG, rfl, ob⟩, ⟨DCG, dCG, rfl, oc⟩⟩, hk⟩
  have PW := Lib.hid (OW.out.kept hk (.inl (Nat.le_refl _)))
  have Px := Lib.hid (Ox.out.kept hk (.inl (Nat.le_refl _)))
  have Ra := Lib.hid (Ba.out.kept hk (.inl (Nat.le_refl _)))
  have Rw := Lib.hid (Bw.out.kept hk (.inl (Nat.le_refl _)))
  have Rwf := Lib.hid (Bwf.out.kept hk (.inl (Nat.le_refl _)))
  have Rx := Lib.hid (Bx.out.kept hk (.inl (Nat.le_refl _)))
  clear OW
  have OW := PW
  clear PW
  clear Ox
  have Ox := Px
  clear Px
  clear Ba
  have Ba := Ra
  clear Ra
  clear Bw
  have Bw := Rw
  clear Rw
  clear Bwf
  have Bwf := Rwf
  clear Rwf
  clear Bx
  have Bx := Rx
  clear Rx
  have OG : Hid (OwnAs w8 w7.heap.size w8.heap.size (.agg #[.slice DAG N.slots.ages.length dAG, .slice DBG N.slots.used.length dBG, .slice DCG N.list.length dCG]) N) := ⟨_, _, _, rfl, ⟨DAG, dAG, rfl, oa⟩, ⟨DBG, dBG, rfl, ob⟩, ⟨DCG, dCG, rfl, oc⟩⟩
  have K8 := Lib.hid (K7.out.trans hk)
  have z8 := hk.size
  clear hk oa ob oc K7
  have cw0 := ax0 Bw.out
  have cw1 := ax1 Bw.out
  have cw2 := ax2 Bw.out
  have lw := Bw.out.lt
  go_wp2_with fail
  clear cw0 cw1 cw2 lw
  obtain ⟨w9, hw⟩ : ∃ w9, w9 = ((w8.alloc (.cells #[.slice DAG N.slots.ages.length dAG, .slice DBG N.slots.used.length dBG, .slice DCG N.list.length dCG] 34)).alloc (.cells #[.int .i64 y.slot, .int .i64 y.age, .int .i64 y.node, .int .i64 y.func, .bool y.queued] 42)) := ⟨_, rfl⟩
  have hk : Kept 0 0 w8 w9 := by rw [hw]; exact (Kept.alloc0 _ _).alloc _
  have Ng : Hid (Blk w9 (w8.heap.size) 34 #[.slice DAG N.slots.ages.length dAG, .slice DBG N.slots.used.length dBG, .slice DCG N.list.length dCG]) := by show Blk _ _ _ _; rw [hw]; have := (Blk.new w8 34 #[.slice DAG N.slots.ages.length dAG, .slice DBG N.slots.used.length dBG, .slice DCG N.list.length dCG]).alloc (.cells #[.int .i64 y.slot, .int .i64 y.age, .int .i64 y.node, .int .i64 y.func, .bool y.queued] 42); simpa using this
  have Ngf : Hid (Blk w9 (w8.heap.size + 1) 42 #[.int .i64 y.slot, .int .i64 y.age, .int .i64 y.node, .int .i64 y.func, .bool y.queued]) := by show Blk _ _ _ _; rw [hw]; have := (Blk.new (w8.alloc (.cells #[.slice DAG N.slots.ages.length dAG, .slice DBG N.slots.used.length dBG, .slice DCG N.list.length dCG] 34)) 42 #[.int .i64 y.slot, .int .i64 y.age, .int .i64 y.node, .int .i64 y.func, .bool y.queued]); simpa using this
  rw [← hw]
  have PW := Lib.hid (OW.out.kept hk (.inl (Nat.le_refl _)))
  have Px := Lib.hid (Ox.out.kept hk (.inl (Nat.le_refl _)))
  have PG := Lib.hid (OG.out.kept hk (.inl (Nat.le_refl _)))
  have Ra := Lib.hid (Ba.out.kept hk (.inl (Nat.le_refl _)))
  have Rw := Lib.hid (Bw.out.kept hk (.inl (Nat.le_refl _)))
  have Rwf := Lib.hid (Bwf.out.kept hk (.inl (Nat.le_refl _)))
  have Rx := Lib.hid (Bx.out.kept hk (.inl (Nat.le_refl _)))
  clear OW
  have OW := PW
  clear PW
  clear Ox
  have Ox := Px
  clear Px
  clear OG
  have OG := PG
  clear PG
  clear Ba
  have Ba := Ra
  clear Ra
  clear Bw
  have Bw := Rw
  clear Rw
  clear Bwf
  have Bwf := Rwf
  clear Rwf
  clear Bx
  have Bx := Rx
  clear Rx
  have Bg := Ng
  clear Ng
  have yg : w8.heap.size + 0 < w9.heap.size := Bg.out.lt
  have Bgf := Ngf
  clear Ngf
  have ygf : w8.heap.size + 1 < w9.heap.size := Bgf.out.lt
  have K9 := Lib.hid (K8.out.trans hk)
  have z9 := hk.size
  clear hk hw K8
  with_reducible refine (eqAs N _ _ _ (OG.out.rdW (by omega)) (OW.out.rdW (by omega))).mono ?_
  rintro e w10 ⟨rfl, hk⟩
  have PW := Lib.hid (OW.out.kept hk (.inl (Nat.le_refl _)))
  have Px := Lib.hid (Ox.out.kept hk (.inl (Nat.le_refl _)))
  have PG := Lib.hid (OG.out.kept hk (.inl (Nat.le_refl _)))
  have Ra := Lib.hid (Ba.out.kept hk (.inl (Nat.le_refl _)))
  have Rw := Lib.hid (Bw.out.kept hk (.inl (Nat.le_refl _)))
  have Rwf := Lib.hid (Bwf.out.kept hk (.inl (Nat.le_refl _)))
  have Rx := Lib.hid (Bx.out.kept hk (.inl (Nat.le_refl _)))
  have Rg := Lib.hid (Bg.out.kept hk (.inl (Nat.le_refl _)))
  have Rgf := Lib.hid (Bgf.out.kept hk (.inl (Nat.le_refl _)))
  clear OW
  have OW := PW
  clear PW
  clear Ox
  have Ox := Px
  clear Px
  clear OG
  have OG := PG
  clear PG
  clear Ba
  have Ba := Ra
  clear Ra
  clear Bw
  have Bw := Rw
  clear Rw
  clear Bwf
  have Bwf := Rwf
  clear Rwf
  clear Bx
  have Bx := Rx
  clear Rx
  clear Bg
  have Bg := Rg
  clear Rg
  clear Bgf
  have Bgf := Rgf
  clear Rgf
  have K10 := Lib.hid (K9.out.trans hk)
  have z10 := hk.size
  clear hk K9
  have cgf0 := az0 Bgf.out
  have cgf1 := az1 Bgf.out
  have cgf2 := az2 Bgf.out
  have cgf3 := az3 Bgf.out
  have cgf4 := az4 Bgf.out
  have lgf := Bgf.out.lt
  have cwf0 := az0 Bwf.out
  have cwf1 := az1 Bwf.out
  have cwf2 := az2 Bwf.out
  have cwf3 := az3 Bwf.out
  have cwf4 := az4 Bwf.out
  have lwf := Bwf.out.lt
  go_wp2_with fail
  clear cgf0 cgf1 cgf2 cgf3 cgf4 cwf0 cwf1 cwf2 cwf3 cwf4 lgf lwf
  with_reducible refine (eqAf1_same y _).mono ?_
  rintro e w11 ⟨rfl, hk⟩
  have PW := Lib.hid (OW.out.kept hk (.inl (Nat.le_refl _)))
  have Px := Lib.hid (Ox.out.kept hk (.inl (Nat.le_refl _)))
  have PG := Lib.hid (OG.out.kept hk (.inl (Nat.le_refl _)))
  have Ra := Lib.hid (Ba.out.kept hk (.inl (Nat.le_refl _)))
  have Rw := Lib.hid (Bw.out.kept hk (.inl (Nat.le_refl _)))
  have Rwf := Lib.hid (Bwf.out.kept hk (.inl (Nat.le_refl _)))
  have Rx := Lib.hid (Bx.out.kept hk (.inl (Nat.le_refl _)))
  have Rg := Lib.hid (Bg.out.kept hk (.inl (Nat.le_refl _)))
  have Rgf := Lib.hid (Bgf.out.kept hk (.inl (Nat.le_refl _)))
  clear OW
  have OW := PW
  clear PW
  clear Ox
  have Ox := Px
  clear Px
  clear OG
  have OG := PG
  clear PG
  clear Ba
  have Ba := Ra
  clear Ra
  clear Bw
  have Bw := Rw
  clear Rw
  clear Bwf
  have Bwf := Rwf
  clear Rwf
  clear Bx
  have Bx := Rx
  clear Rx
  clear Bg
  have Bg := Rg
  clear Rg
  clear Bgf
  have Bgf := Rgf
  clear Rgf
  have K11 := Lib.hid (K10.out.trans hk)
  have z11 := hk.size
  clear hk K10
  go_upto_region 10 with fail
  have lx := Bx.out.lt
  have la := Ba.out.lt
  go_region_held3 (fun w' => w'.cell? ⟨(w6.heap.size), 0, none⟩ = some (.slice DAx s.slots.ages.length dAx) ∧ w'.cell? ⟨(w6.heap.size), 1, none⟩ = some (.slice DBx s.slots.used.length dBx) ∧ w'.cell? ⟨(w6.heap.size), 2, none⟩ = some (.slice DCx s.list.length dCx) ∧ w'.cell? ⟨(w.heap.size), 0, none⟩ = some (.slice A1 s.slots.ages.length q1) ∧ w'.cell? ⟨(w.heap.size), 1, none⟩ = some (.slice A2 s.slots.used.length q2) ∧ w'.cell? ⟨(w.heap.size), 2, none⟩ = some (.slice A3 s.list.length q3))
    (first | with_reducible exact ⟨ax0 Bx.out.drew, ax1 Bx.out.drew, ax2 Bx.out.drew, ax0 Ba.out.drew, ax1 Ba.out.drew, ax2 Ba.out.drew⟩ | with_reducible exact ⟨ax0 Xx, ax1 Xx, ax2 Xx, ax0 Xa, ax1 Xa, ax2 Xa⟩ | with_reducible exact ⟨ax0 Yx, ax1 Yx, ax2 Yx, ax0 Ya, ax1 Ya, ax2 Ya⟩)
    (first | (go_at_call 22; (with_reducible refine (toAs s _ w11.drew (Hb.out.up K11.out.drew) sa su sl).mono ?_); rintro e w12 ⟨u1, rfl, oy, hk⟩; have k1 : Kept 0 0 w11 w12 := (Kept.refl 0 0 w11).drew.trans hk; have Xx := Bx.out.kept k1 (.inl (Nat.le_refl _)); have Xa := Ba.out.kept k1 (.inl (Nat.le_refl _)); have zz := k1.size; clear hk) | (go_at_call 23; (with_reducible refine (eqAs s _ _ w12 ((Ox.out.kept k1 (.inl (Nat.le_refl _))).rdW (by omega)) (oy.rdW (Nat.le_refl _))).mono ?_); rintro e w13 ⟨rfl, hk⟩; have k2 : Kept 0 0 w11 w13 := k1.trans hk; have Yx := Bx.out.kept k2 (.inl (Nat.le_refl _)); have Ya := Ba.out.kept k2 (.inl (Nat.le_refl _)); have ks := Lib.hid k2; clear hk))
  clear Xx Xa Yx Ya k1 k2 oy zz lx la
  have PW := Lib.hid (OW.out.kept ks.out (.inl (Nat.le_refl _)))
  have Px := Lib.hid (Ox.out.kept ks.out (.inl (Nat.le_refl _)))
  have PG := Lib.hid (OG.out.kept ks.out (.inl (Nat.le_refl _)))
  have Ra := Lib.hid (Ba.out.kept ks.out (.inl (Nat.le_refl _)))
  have Rw := Lib.hid (Bw.out.kept ks.out (.inl (Nat.le_refl _)))
  have Rwf := Lib.hid (Bwf.out.kept ks.out (.inl (Nat.le_refl _)))
  have Rx := Lib.hid (Bx.out.kept ks.out (.inl (Nat.le_refl _)))
  have Rg := Lib.hid (Bg.out.kept ks.out (.inl (Nat.le_refl _)))
  have Rgf := Lib.hid (Bgf.out.kept ks.out (.inl (Nat.le_refl _)))
  clear OW
  have OW := PW
  clear PW
  clear Ox
  have Ox := Px
  clear Px
  clear OG
  have OG := PG
  clear PG
  clear Ba
  have Ba := Ra
  clear Ra
  clear Bw
  have Bw := Rw
  clear Rw
  clear Bwf
  have Bwf := Rwf
  clear Rwf
  clear Bx
  have Bx := Rx
  clear Rx
  clear Bg
  have Bg := Rg
  clear Rg
  clear Bgf
  have Bgf := Rgf
  clear Rgf
  have K13 := Lib.hid (K11.out.trans ks.out)
  have z13 := ks.out.size
  clear ks K11
  obtain ⟨mS, hmS⟩ : ∃ mS, mS = markAsN 1 s := ⟨_, rfl⟩
  obtain ⟨mN, hmN⟩ : ∃ mN, mN = markAsN 1 N := ⟨_, rfl⟩
  have pS : 0 ≤ mS := by rw [hmS]; exact markAsN_pos _
  have pN : 0 ≤ mN := by rw [hmN]; exact markAsN_pos _
  have HmS := Lib.hid hmS.symm
  have HmN := Lib.hid hmN.symm
  clear hmS hmN
  have cx0 := ax0 Bx.out
  have cx1 := ax1 Bx.out
  have cx2 := ax2 Bx.out
  have lx := Bx.out.lt
  go_wp2_with fail
  clear cx0 cx1 cx2 lx
  with_reducible refine (markAs (1) s _ (w5.heap.size) (w6.heap.size) _ Ox.out (by omega) (by omega) sa su sl (by omega)).mono ?_
  rintro e w14 ⟨rfl, ho, hk⟩
  have PW := Lib.hid (OW.out.kept hk (by omega))
  have PG := Lib.hid (OG.out.kept hk (by omega))
  have Ra := Lib.hid (Ba.out.kept hk (by omega))
  have Rw := Lib.hid (Bw.out.kept hk (by omega))
  have Rwf := Lib.hid (Bwf.out.kept hk (by omega))
  have Rx := Lib.hid (Bx.out.kept hk (by omega))
  have Rg := Lib.hid (Bg.out.kept hk (by omega))
  have Rgf := Lib.hid (Bgf.out.kept hk (by omega))
  clear OW
  have OW := PW
  clear PW
  clear OG
  have OG := PG
  clear PG
  clear Ba
  have Ba := Ra
  clear Ra
  clear Bw
  have Bw := Rw
  clear Rw
  clear Bwf
  have Bwf := Rwf
  clear Rwf
  clear Bx
  have Bx := Rx
  clear Rx
  clear Bg
  have Bg := Rg
  clear Rg
  clear Bgf
  have Bgf := Rgf
  clear Rgf
  clear Ox
  have Ox := Lib.hid ho
  have K14 := Lib.hid (K13.out.trans2 hk (.inr (by omega)))
  have z14 := hk.size
  clear hk ho K13
  rw [HmS.out]
  have cg0 := ax0 Bg.out
  have cg1 := ax1 Bg.out
  have cg2 := ax2 Bg.out
  have lg := Bg.out.lt
  have cw0 := ax0 Bw.out
  have cw1 := ax1 Bw.out
  have cw2 := ax2 Bw.out
  have lw := Bw.out.lt
  go_wp2_with fail
  clear cg0 cg1 cg2 cw0 cw1 cw2 lg lw
  with_reducible refine (eqAs N _ _ _ (OG.out.rdW (by omega)) (OW.out.rdW (by omega))).mono ?_
  rintro e w15 ⟨rfl, hk⟩
  have PW := Lib.hid (OW.out.kept hk (.inl (Nat.le_refl _)))
  have Px := Lib.hid (Ox.out.kept hk (.inl (Nat.le_refl _)))
  have PG := Lib.hid (OG.out.kept hk (.inl (Nat.le_refl _)))
  have Ra := Lib.hid (Ba.out.kept hk (.inl (Nat.le_refl _)))
  have Rw := Lib.hid (Bw.out.kept hk (.inl (Nat.le_refl _)))
  have Rwf := Lib.hid (Bwf.out.kept hk (.inl (Nat.le_refl _)))
  have Rx := Lib.hid (Bx.out.kept hk (.inl (Nat.le_refl _)))
  have Rg := Lib.hid (Bg.out.kept hk (.inl (Nat.le_refl _)))
  have Rgf := Lib.hid (Bgf.out.kept hk (.inl (Nat.le_refl _)))
  clear OW
  have OW := PW
  clear PW
  clear Ox
  have Ox := Px
  clear Px
  clear OG
  have OG := PG
  clear PG
  clear Ba
  have Ba := Ra
  clear Ra
  clear Bw
  have Bw := Rw
  clear Rw
  clear Bwf
  have Bwf := Rwf
  clear Rwf
  clear Bx
  have Bx := Rx
  clear Rx
  clear Bg
  have Bg := Rg
  clear Rg
  clear Bgf
  have Bgf := Rgf
  clear Rgf
  have K15 := Lib.hid (K14.out.trans hk)
  have z15 := hk.size
  clear hk K14
  have cgf0 := az0 Bgf.out
  have cgf1 := az1 Bgf.out
  have cgf2 := az2 Bgf.out
  have cgf3 := az3 Bgf.out
  have cgf4 := az4 Bgf.out
  have lgf := Bgf.out.lt
  have cwf0 := az0 Bwf.out
  have cwf1 := az1 Bwf.out
  have cwf2 := az2 Bwf.out
  have cwf3 := az3 Bwf.out
  have cwf4 := az4 Bwf.out
  have lwf := Bwf.out.lt
  go_wp2_with fail
  clear cgf0 cgf1 cgf2 cgf3 cgf4 cwf0 cwf1 cwf2 cwf3 cwf4 lgf lwf
  with_reducible refine (eqAf1_same y _).mono ?_
  rintro e w16 ⟨rfl, hk⟩
  have PW := Lib.hid (OW.out.kept hk (.inl (Nat.le_refl _)))
  have Px := Lib.hid (Ox.out.kept hk (.inl (Nat.le_refl _)))
  have PG := Lib.hid (OG.out.kept hk (.inl (Nat.le_refl _)))
  have Ra := Lib.hid (Ba.out.kept hk (.inl (Nat.le_refl _)))
  have Rw := Lib.hid (Bw.out.kept hk (.inl (Nat.le_refl _)))
  have Rwf := Lib.hid (Bwf.out.kept hk (.inl (Nat.le_refl _)))
  have Rx := Lib.hid (Bx.out.kept hk (.inl (Nat.le_refl _)))
  have Rg := Lib.hid (Bg.out.kept hk (.inl (Nat.le_refl _)))
  have Rgf := Lib.hid (Bgf.out.kept hk (.inl (Nat.le_refl _)))
  clear OW
  have OW := PW
  clear PW
  clear Ox
  have Ox := Px
  clear Px
  clear OG
  have OG := PG
  clear PG
  clear Ba
  have Ba := Ra
  clear Ra
  clear Bw
  have Bw := Rw
  clear Rw
  clear Bwf
  have Bwf := Rwf
  clear Rwf
  clear Bx
  have Bx := Rx
  clear Rx
  clear Bg
  have Bg := Rg
  clear Rg
  clear Bgf
  have Bgf := Rgf
  clear Rgf
  have K16 := Lib.hid (K15.out.trans hk)
  have z16 := hk.size
  clear hk K15
  have cg0 := ax0 Bg.out
  have cg1 := ax1 Bg.out
  have cg2 := ax2 Bg.out
  have lg := Bg.out.lt
  go_wp2_with fail
  clear cg0 cg1 cg2 lg
  with_reducible refine (markAs (1) N _ (w7.heap.size) (w8.heap.size) _ OG.out (by omega) (by omega) Na Nu Nl (by omega)).mono ?_
  rintro e w17 ⟨rfl, ho, hk⟩
  have PW := Lib.hid (OW.out.kept hk (by omega))
  have Px := Lib.hid (Ox.out.kept hk (by omega))
  have Ra := Lib.hid (Ba.out.kept hk (by omega))
  have Rw := Lib.hid (Bw.out.kept hk (by omega))
  have Rwf := Lib.hid (Bwf.out.kept hk (by omega))
  have Rx := Lib.hid (Bx.out.kept hk (by omega))
  have Rg := Lib.hid (Bg.out.kept hk (by omega))
  have Rgf := Lib.hid (Bgf.out.kept hk (by omega))
  clear OW
  have OW := PW
  clear PW
  clear Ox
  have Ox := Px
  clear Px
  clear Ba
  have Ba := Ra
  clear Ra
  clear Bw
  have Bw := Rw
  clear Rw
  clear Bwf
  have Bwf := Rwf
  clear Rwf
  clear Bx
  have Bx := Rx
  clear Rx
  clear Bg
  have Bg := Rg
  clear Rg
  clear Bgf
  have Bgf := Rgf
  clear Rgf
  clear OG
  have OG := Lib.hid ho
  have K17 := Lib.hid (K16.out.trans2 hk (.inr (by omega)))
  have z17 := hk.size
  clear hk ho K16
  rw [HmN.out]
  have cg0 := ax0 Bg.out
  have cg1 := ax1 Bg.out
  have cg2 := ax2 Bg.out
  have lg := Bg.out.lt
  go_wp2_with fail
  clear cg0 cg1 cg2 lg
  with_reducible refine (heldAs 1 N _ _ (OG.out.rdW (by omega)) (by omega) (by omega) Na Nu Nl).mono ?_
  rintro e w18 ⟨rfl, hk⟩
  have PW := Lib.hid (OW.out.kept hk (.inl (Nat.le_refl _)))
  have Px := Lib.hid (Ox.out.kept hk (.inl (Nat.le_refl _)))
  have PG := Lib.hid (OG.out.kept hk (.inl (Nat.le_refl _)))
  have Ra := Lib.hid (Ba.out.kept hk (.inl (Nat.le_refl _)))
  have Rw := Lib.hid (Bw.out.kept hk (.inl (Nat.le_refl _)))
  have Rwf := Lib.hid (Bwf.out.kept hk (.inl (Nat.le_refl _)))
  have Rx := Lib.hid (Bx.out.kept hk (.inl (Nat.le_refl _)))
  have Rg := Lib.hid (Bg.out.kept hk (.inl (Nat.le_refl _)))
  have Rgf := Lib.hid (Bgf.out.kept hk (.inl (Nat.le_refl _)))
  clear OW
  have OW := PW
  clear PW
  clear Ox
  have Ox := Px
  clear Px
  clear OG
  have OG := PG
  clear PG
  clear Ba
  have Ba := Ra
  clear Ra
  clear Bw
  have Bw := Rw
  clear Rw
  clear Bwf
  have Bwf := Rwf
  clear Rwf
  clear Bx
  have Bx := Rx
  clear Rx
  clear Bg
  have Bg := Rg
  clear Rg
  clear Bgf
  have Bgf := Rgf
  clear Rgf
  have K18 := Lib.hid (K17.out.trans hk)
  have z18 := hk.size
  clear hk K17
  rw [HmN.out]
  have qm : (mN != mN) = false := by simp
  clear Ox
  have ca0 := ax0 Ba.out
  have ca1 := ax1 Ba.out
  have ca2 := ax2 Ba.out
  have la := Ba.out.lt
  go_wp2_with fail
  clear ca0 ca1 ca2 la
  with_reducible refine (toAs s _ _ (Hb.out.up K18.out) sa su sl).mono ?_
  rintro e w19 ⟨_, rfl, ⟨_, _, _, rfl, ⟨DAp, dAp, rfl, oa⟩, ⟨DBp, dBp, rfl, ob⟩, ⟨DCp, dCp, rfl, oc⟩⟩, hk⟩
  have PW := Lib.hid (OW.out.kept hk (.inl (Nat.le_refl _)))
  have PG := Lib.hid (OG.out.kept hk (.inl (Nat.le_refl _)))
  have Ra := Lib.hid (Ba.out.kept hk (.inl (Nat.le_refl _)))
  have Rw := Lib.hid (Bw.out.kept hk (.inl (Nat.le_refl _)))
  have Rwf := Lib.hid (Bwf.out.kept hk (.inl (Nat.le_refl _)))
  have Rx := Lib.hid (Bx.out.kept hk (.inl (Nat.le_refl _)))
  have Rg := Lib.hid (Bg.out.kept hk (.inl (Nat.le_refl _)))
  have Rgf := Lib.hid (Bgf.out.kept hk (.inl (Nat.le_refl _)))
  clear OW
  have OW := PW
  clear PW
  clear OG
  have OG := PG
  clear PG
  clear Ba
  have Ba := Ra
  clear Ra
  clear Bw
  have Bw := Rw
  clear Rw
  clear Bwf
  have Bwf := Rwf
  clear Rwf
  clear Bx
  have Bx := Rx
  clear Rx
  clear Bg
  have Bg := Rg
  clear Rg
  clear Bgf
  have Bgf := Rgf
  clear Rgf
  have Op : Hid (OwnAs w19 w18.heap.size w19.heap.size (.agg #[.slice DAp s.slots.ages.length dAp, .slice DBp s.slots.used.length dBp, .slice DCp s.list.length dCp]) s) := ⟨_, _, _, rfl, ⟨DAp, dAp, rfl, oa⟩, ⟨DBp, dBp, rfl, ob⟩, ⟨DCp, dCp, rfl, oc⟩⟩
  have K19 := Lib.hid (K18.out.trans hk)
  have z19 := hk.size
  clear hk oa ob oc K18
  go_wp2_with fail
  with_reducible refine (CI.out _ _ (Op.out.rdW (by omega))).mono ?_
  rintro e w20 ⟨_, rfl, ⟨_, _, _, rfl, ⟨DAQ, dAQ, rfl, oa⟩, ⟨DBQ, dBQ, rfl, ob⟩, ⟨DCQ, dCQ, rfl, oc⟩⟩, hk⟩
  have PW := Lib.hid (OW.out.kept hk (.inl (Nat.le_refl _)))
  have PG := Lib.hid (OG.out.kept hk (.inl (Nat.le_refl _)))
  have Pp := Lib.hid (Op.out.kept hk (.inl (Nat.le_refl _)))
  have Ra := Lib.hid (Ba.out.kept hk (.inl (Nat.le_refl _)))
  have Rw := Lib.hid (Bw.out.kept hk (.inl (Nat.le_refl _)))
  have Rwf := Lib.hid (Bwf.out.kept hk (.inl (Nat.le_refl _)))
  have Rx := Lib.hid (Bx.out.kept hk (.inl (Nat.le_refl _)))
  have Rg := Lib.hid (Bg.out.kept hk (.inl (Nat.le_refl _)))
  have Rgf := Lib.hid (Bgf.out.kept hk (.inl (Nat.le_refl _)))
  clear OW
  have OW := PW
  clear PW
  clear OG
  have OG := PG
  clear PG
  clear Op
  have Op := Pp
  clear Pp
  clear Ba
  have Ba := Ra
  clear Ra
  clear Bw
  have Bw := Rw
  clear Rw
  clear Bwf
  have Bwf := Rwf
  clear Rwf
  clear Bx
  have Bx := Rx
  clear Rx
  clear Bg
  have Bg := Rg
  clear Rg
  clear Bgf
  have Bgf := Rgf
  clear Rgf
  have OQ : Hid (OwnAs w20 w19.heap.size w20.heap.size (.agg #[.slice DAQ N.slots.ages.length dAQ, .slice DBQ N.slots.used.length dBQ, .slice DCQ N.list.length dCQ]) N) := ⟨_, _, _, rfl, ⟨DAQ, dAQ, rfl, oa⟩, ⟨DBQ, dBQ, rfl, ob⟩, ⟨DCQ, dCQ, rfl, oc⟩⟩
  have K20 := Lib.hid (K19.out.trans hk)
  have z20 := hk.size
  clear hk oa ob oc K19
  clear Op
  have cw0 := ax0 Bw.out
  have cw1 := ax1 Bw.out
  have cw2 := ax2 Bw.out
  have lw := Bw.out.lt
  go_wp2_with fail
  clear cw0 cw1 cw2 lw
  obtain ⟨w21, hw⟩ : ∃ w21, w21 = ((w20.alloc (.cells #[.slice DAQ N.slots.ages.length dAQ, .slice DBQ N.slots.used.length dBQ, .slice DCQ N.list.length dCQ] 34)).alloc (.cells #[.int .i64 y.slot, .int .i64 y.age, .int .i64 y.node, .int .i64 y.func, .bool y.queued] 42)) := ⟨_, rfl⟩
  have hk : Kept 0 0 w20 w21 := by rw [hw]; exact (Kept.alloc0 _ _).alloc _
  have Nq : Hid (Blk w21 (w20.heap.size) 34 #[.slice DAQ N.slots.ages.length dAQ, .slice DBQ N.slots.used.length dBQ, .slice DCQ N.list.length dCQ]) := by show Blk _ _ _ _; rw [hw]; have := (Blk.new w20 34 #[.slice DAQ N.slots.ages.length dAQ, .slice DBQ N.slots.used.length dBQ, .slice DCQ N.list.length dCQ]).alloc (.cells #[.int .i64 y.slot, .int .i64 y.age, .int .i64 y.node, .int .i64 y.func, .bool y.queued] 42); simpa using this
  have Nqf : Hid (Blk w21 (w20.heap.size + 1) 42 #[.int .i64 y.slot, .int .i64 y.age, .int .i64 y.node, .int .i64 y.func, .bool y.queued]) := by show Blk _ _ _ _; rw [hw]; have := (Blk.new (w20.alloc (.cells #[.slice DAQ N.slots.ages.length dAQ, .slice DBQ N.slots.used.length dBQ, .slice DCQ N.list.length dCQ] 34)) 42 #[.int .i64 y.slot, .int .i64 y.age, .int .i64 y.node, .int .i64 y.func, .bool y.queued]); simpa using this
  rw [← hw]
  have PW := Lib.hid (OW.out.kept hk (.inl (Nat.le_refl _)))
  have PG := Lib.hid (OG.out.kept hk (.inl (Nat.le_refl _)))
  have PQ := Lib.hid (OQ.out.kept hk (.inl (Nat.le_refl _)))
  have Ra := Lib.hid (Ba.out.kept hk (.inl (Nat.le_refl _)))
  have Rw := Lib.hid (Bw.out.kept hk (.inl (Nat.le_refl _)))
  have Rwf := Lib.hid (Bwf.out.kept hk (.inl (Nat.le_refl _)))
  have Rx := Lib.hid (Bx.out.kept hk (.inl (Nat.le_refl _)))
  have Rg := Lib.hid (Bg.out.kept hk (.inl (Nat.le_refl _)))
  have Rgf := Lib.hid (Bgf.out.kept hk (.inl (Nat.le_refl _)))
  clear OW
  have OW := PW
  clear PW
  clear OG
  have OG := PG
  clear PG
  clear OQ
  have OQ := PQ
  clear PQ
  clear Ba
  have Ba := Ra
  clear Ra
  clear Bw
  have Bw := Rw
  clear Rw
  clear Bwf
  have Bwf := Rwf
  clear Rwf
  clear Bx
  have Bx := Rx
  clear Rx
  clear Bg
  have Bg := Rg
  clear Rg
  clear Bgf
  have Bgf := Rgf
  clear Rgf
  have Bq := Nq
  clear Nq
  have yq : w20.heap.size + 0 < w21.heap.size := Bq.out.lt
  have Bqf := Nqf
  clear Nqf
  have yqf : w20.heap.size + 1 < w21.heap.size := Bqf.out.lt
  have K21 := Lib.hid (K20.out.trans hk)
  have z21 := hk.size
  clear hk hw K20
  with_reducible refine (eqAs N _ _ _ (OQ.out.rdW (by omega)) (OW.out.rdW (by omega))).mono ?_
  rintro e w22 ⟨rfl, hk⟩
  have PW := Lib.hid (OW.out.kept hk (.inl (Nat.le_refl _)))
  have PG := Lib.hid (OG.out.kept hk (.inl (Nat.le_refl _)))
  have PQ := Lib.hid (OQ.out.kept hk (.inl (Nat.le_refl _)))
  have Ra := Lib.hid (Ba.out.kept hk (.inl (Nat.le_refl _)))
  have Rw := Lib.hid (Bw.out.kept hk (.inl (Nat.le_refl _)))
  have Rwf := Lib.hid (Bwf.out.kept hk (.inl (Nat.le_refl _)))
  have Rx := Lib.hid (Bx.out.kept hk (.inl (Nat.le_refl _)))
  have Rg := Lib.hid (Bg.out.kept hk (.inl (Nat.le_refl _)))
  have Rgf := Lib.hid (Bgf.out.kept hk (.inl (Nat.le_refl _)))
  have Rq := Lib.hid (Bq.out.kept hk (.inl (Nat.le_refl _)))
  have Rqf := Lib.hid (Bqf.out.kept hk (.inl (Nat.le_refl _)))
  clear OW
  have OW := PW
  clear PW
  clear OG
  have OG := PG
  clear PG
  clear OQ
  have OQ := PQ
  clear PQ
  clear Ba
  have Ba := Ra
  clear Ra
  clear Bw
  have Bw := Rw
  clear Rw
  clear Bwf
  have Bwf := Rwf
  clear Rwf
  clear Bx
  have Bx := Rx
  clear Rx
  clear Bg
  have Bg := Rg
  clear Rg
  clear Bgf
  have Bgf := Rgf
  clear Rgf
  clear Bq
  have Bq := Rq
  clear Rq
  clear Bqf
  have Bqf := Rqf
  clear Rqf
  have K22 := Lib.hid (K21.out.trans hk)
  have z22 := hk.size
  clear hk K21
  have cqf0 := az0 Bqf.out
  have cqf1 := az1 Bqf.out
  have cqf2 := az2 Bqf.out
  have cqf3 := az3 Bqf.out
  have cqf4 := az4 Bqf.out
  have lqf := Bqf.out.lt
  have cwf0 := az0 Bwf.out
  have cwf1 := az1 Bwf.out
  have cwf2 := az2 Bwf.out
  have cwf3 := az3 Bwf.out
  have cwf4 := az4 Bwf.out
  have lwf := Bwf.out.lt
  go_wp2_with fail
  clear cqf0 cqf1 cqf2 cqf3 cqf4 cwf0 cwf1 cwf2 cwf3 cwf4 lqf lwf
  with_reducible refine (eqAf1_same y _).mono ?_
  rintro e w23 ⟨rfl, hk⟩
  have PW := Lib.hid (OW.out.kept hk (.inl (Nat.le_refl _)))
  have PG := Lib.hid (OG.out.kept hk (.inl (Nat.le_refl _)))
  have PQ := Lib.hid (OQ.out.kept hk (.inl (Nat.le_refl _)))
  have Ra := Lib.hid (Ba.out.kept hk (.inl (Nat.le_refl _)))
  have Rw := Lib.hid (Bw.out.kept hk (.inl (Nat.le_refl _)))
  have Rwf := Lib.hid (Bwf.out.kept hk (.inl (Nat.le_refl _)))
  have Rx := Lib.hid (Bx.out.kept hk (.inl (Nat.le_refl _)))
  have Rg := Lib.hid (Bg.out.kept hk (.inl (Nat.le_refl _)))
  have Rgf := Lib.hid (Bgf.out.kept hk (.inl (Nat.le_refl _)))
  have Rq := Lib.hid (Bq.out.kept hk (.inl (Nat.le_refl _)))
  have Rqf := Lib.hid (Bqf.out.kept hk (.inl (Nat.le_refl _)))
  clear OW
  have OW := PW
  clear PW
  clear OG
  have OG := PG
  clear PG
  clear OQ
  have OQ := PQ
  clear PQ
  clear Ba
  have Ba := Ra
  clear Ra
  clear Bw
  have Bw := Rw
  clear Rw
  clear Bwf
  have Bwf := Rwf
  clear Rwf
  clear Bx
  have Bx := Rx
  clear Rx
  clear Bg
  have Bg := Rg
  clear Rg
  clear Bgf
  have Bgf := Rgf
  clear Rgf
  clear Bq
  have Bq := Rq
  clear Rq
  clear Bqf
  have Bqf := Rqf
  clear Rqf
  have K23 := Lib.hid (K22.out.trans hk)
  have z23 := hk.size
  clear hk K22
  have cg0 := ax0 Bg.out
  have cg1 := ax1 Bg.out
  have cg2 := ax2 Bg.out
  have lg := Bg.out.lt
  go_wp2_with fail
  clear cg0 cg1 cg2 lg
  with_reducible refine (heldAs 1 N _ _ (OG.out.rdW (by omega)) (by omega) (by omega) Na Nu Nl).mono ?_
  rintro e w24 ⟨rfl, hk⟩
  have PW := Lib.hid (OW.out.kept hk (.inl (Nat.le_refl _)))
  have PG := Lib.hid (OG.out.kept hk (.inl (Nat.le_refl _)))
  have PQ := Lib.hid (OQ.out.kept hk (.inl (Nat.le_refl _)))
  have Ra := Lib.hid (Ba.out.kept hk (.inl (Nat.le_refl _)))
  have Rw := Lib.hid (Bw.out.kept hk (.inl (Nat.le_refl _)))
  have Rwf := Lib.hid (Bwf.out.kept hk (.inl (Nat.le_refl _)))
  have Rx := Lib.hid (Bx.out.kept hk (.inl (Nat.le_refl _)))
  have Rg := Lib.hid (Bg.out.kept hk (.inl (Nat.le_refl _)))
  have Rgf := Lib.hid (Bgf.out.kept hk (.inl (Nat.le_refl _)))
  have Rq := Lib.hid (Bq.out.kept hk (.inl (Nat.le_refl _)))
  have Rqf := Lib.hid (Bqf.out.kept hk (.inl (Nat.le_refl _)))
  clear OW
  have OW := PW
  clear PW
  clear OG
  have OG := PG
  clear PG
  clear OQ
  have OQ := PQ
  clear PQ
  clear Ba
  have Ba := Ra
  clear Ra
  clear Bw
  have Bw := Rw
  clear Rw
  clear Bwf
  have Bwf := Rwf
  clear Rwf
  clear Bx
  have Bx := Rx
  clear Rx
  clear Bg
  have Bg := Rg
  clear Rg
  clear Bgf
  have Bgf := Rgf
  clear Rgf
  clear Bq
  have Bq := Rq
  clear Rq
  clear Bqf
  have Bqf := Rqf
  clear Rqf
  have K24 := Lib.hid (K23.out.trans hk)
  have z24 := hk.size
  clear hk K23
  rw [HmN.out]
  go_wp2_with fail
  go_ret
  exact ⟨rfl, K24.out⟩
set_option maxHeartbeats 800000 in
theorem lawStart (D : DoesAsS 15) (s : Afs) (v : Value) (w : World) (hb : RdAs w w.heap.size v s) :
    Calls Try.prog 9 #[v] w fun e w' => e = .returned (.bool true) ∧ Kept 0 0 w w' := by
  rcases Nat.lt_or_ge 1048576 (s.slots.ages.length + s.slots.used.length + s.list.length) with hl | hl
  case inr => exact lawStart_small D s v w hb hl
  obtain ⟨_, _, _, rfl, ⟨A1, q1, rfl, s1⟩, ⟨A2, q2, rfl, s2⟩, ⟨A3, q3, rfl, s3⟩⟩ := hb
  have Hb : Hid (RdAs w w.heap.size (.agg #[.slice A1 s.slots.ages.length q1, .slice A2 s.slots.used.length q2, .slice A3 s.list.length q3]) s) := ⟨_, _, _, rfl, ⟨A1, q1, rfl, s1⟩, ⟨A2, q2, rfl, s2⟩, ⟨A3, q3, rfl, s3⟩⟩
  obtain ⟨W, hW⟩ : ∃ W, W = w.alloc (.cells #[.slice A1 s.slots.ages.length q1, .slice A2 s.slots.used.length q2, .slice A3 s.list.length q3] 53) := ⟨_, rfl⟩
  have KW : Hid (Kept 0 0 w W) := by show Kept _ _ _ _; rw [hW]; exact Kept.alloc0 _ _
  have HW := Lib.hid hW
  have CS := Lib.hid (szAs_neg s _ 1048576 W (Hb.out.up KW.out) (by unfold szAsN; omega) (by omega) (by omega))
  clear hW s1 s2 s3
  go_enter Try.func9, Try.ntmps9
  go_wp2_with fail
  rw [← HW.out]
  with_reducible refine CS.out.mono ?_
  rintro e w1 ⟨rfl, hk⟩
  have K1 := Lib.hid (KW.out.trans hk)
  clear hk CS
  go_wp2
  go_ret
  exact ⟨rfl, K1.out⟩

end Go.Proofs.Ytnnbfcmbcjkpoaa
