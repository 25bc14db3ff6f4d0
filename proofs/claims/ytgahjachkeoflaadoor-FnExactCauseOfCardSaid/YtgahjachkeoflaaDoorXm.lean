/- The exact laws of FirstOf, CauseOf and LetGo return true for every tree and list that can be read; condition: the package's variables lie where the program laid them. -/
import Derived.Test.YtgahjachkeoflaaDoorXw
namespace Go.Proofs.YtgahjachkeoflaaDoor
open Go.RowKit Go.Sort

set_option maxHeartbeats 6400000 in
theorem lawCause_small (t : List Nd) (l : List Ev) (n : Int) (v u : Value) (a0 a1 : Addr) (w : World) (hs : Sen w a0 a1) (hy : Typ w) (ha : RdNd w w.heap.size v t) (hb : RdEv w w.heap.size u l) (hn : t.length + l.length ≤ 1048576) :
    Calls Tryd.prog 7 #[v, u, .int .i64 n] w fun e w' => e = .returned (.bool true) ∧ Kept 0 0 w w' := by
  have Ha := Lib.hid ha
  have Hb := Lib.hid hb
  have HS := Lib.hid hs
  have HY := Lib.hid hy
  clear hy
  have han : t.length ≤ 1048576 := by omega
  have hbn : l.length ≤ 1048576 := by omega
  clear ha hb hs
  have Ea : Hid (szF (1048576) t.length = 1048576 - t.length) := szF_pos (by omega)
  have Eb : Hid (szF (1048576 - t.length) l.length = 1048576 - t.length - l.length) := szF_pos (by omega)
  go_enter Tryd.func7, Tryd.ntmps7
  go_wp2_with fail
  with_reducible refine (szNd t _ _ _ _ (Ha.out.up (Kept.refl 0 0 w)) (by omega) (by omega)).mono ?_
  rintro e w' ⟨rfl, rfl⟩
  rw [Ea.out]
  go_wp2_with fail
  with_reducible refine (szEv l _ _ _ _ (Hb.out.up (Kept.refl 0 0 w)) (by omega) (by omega)).mono ?_
  rintro e w' ⟨rfl, rfl⟩
  rw [Eb.out]
  go_wp2_with fail
  with_reducible refine (toNd t v _ (Ha.out.up (Kept.refl 0 0 w)) han).mono ?_
  rintro e w1 ⟨us, rfl, ho, hk⟩
  have Os := Lib.hid ho
  have K1 := Lib.hid ((Kept.refl 0 0 w).trans hk)
  have z1 := hk.size
  clear hk ho
  go_wp2_with fail
  with_reducible refine (toEv l u _ (Hb.out.up K1.out) hbn).mono ?_
  rintro e w2 ⟨ur, rfl, ho, hk⟩
  have Ps := Lib.hid (Os.out.kept hk (.inl (Nat.le_refl _)))
  clear Os
  have Os := Ps
  clear Ps
  have Or := Lib.hid ho
  have K2 := Lib.hid (K1.out.trans hk)
  have z2 := hk.size
  clear hk ho K1
  go_wp2_with fail
  with_reducible refine (cause6_any t l n _ _ _ (Os.out.rdW (by omega)) (Or.out.rdW (by omega))).mono ?_
  rintro e w3 ⟨rfl, hk⟩
  have Ps := Lib.hid (Os.out.kept hk (.inl (Nat.le_refl _)))
  have Pr := Lib.hid (Or.out.kept hk (.inl (Nat.le_refl _)))
  clear Os
  have Os := Ps
  clear Ps
  clear Or
  have Or := Pr
  clear Pr
  have K3 := Lib.hid (K2.out.trans hk)
  have z3 := hk.size
  clear hk K2
  clear Os
  clear Or
  go_wp2_with fail
  with_reducible refine (toNd t v _ (Ha.out.up K3.out) han).mono ?_
  rintro e w4 ⟨ux, rfl, ho, hk⟩
  have Ox := Lib.hid ho
  have K4 := Lib.hid (K3.out.trans hk)
  have z4 := hk.size
  clear hk ho K3
  go_wp2_with fail
  with_reducible refine (toEv l u _ (Hb.out.up K4.out) hbn).mono ?_
  rintro e w5 ⟨uy, rfl, ho, hk⟩
  have Px := Lib.hid (Ox.out.kept hk (.inl (Nat.le_refl _)))
  clear Ox
  have Ox := Px
  clear Px
  have Oy := Lib.hid ho
  have K5 := Lib.hid (K4.out.trans hk)
  have z5 := hk.size
  clear hk ho K4
  go_wp2_with fail
  with_reducible refine (implCause t l n _ _ a0 a1 _ (HS.out.kept K5.out) (Ox.out.rdW (by omega)) (Oy.out.rdW (by omega)) (HY.out.kept K5.out)).mono ?_
  rintro e w6 ⟨rfl, hk⟩
  have Px := Lib.hid (Ox.out.kept hk (.inl (Nat.le_refl _)))
  have Py := Lib.hid (Oy.out.kept hk (.inl (Nat.le_refl _)))
  clear Ox
  have Ox := Px
  clear Px
  clear Oy
  have Oy := Py
  clear Py
  have K6 := Lib.hid (K5.out.trans hk)
  have z6 := hk.size
  clear hk K5
  obtain ⟨bb, hbb⟩ : ∃ bb, bb = causeI t l n := ⟨_, rfl⟩
  rw [← hbb]
  clear hbb
  have q1 : (bb != bb) = false := by simp
  have q2 : (bb == bb) = true := by simp
  go_wp2_with fail
  with_reducible refine (toNd t v _ (Ha.out.up K6.out) han).mono ?_
  rintro e w7 ⟨up, rfl, ho, hk⟩
  have Px := Lib.hid (Ox.out.kept hk (.inl (Nat.le_refl _)))
  have Py := Lib.hid (Oy.out.kept hk (.inl (Nat.le_refl _)))
  clear Ox
  have Ox := Px
  clear Px
  clear Oy
  have Oy := Py
  clear Py
  have Op := Lib.hid ho
  have K7 := Lib.hid (K6.out.trans hk)
  have z7 := hk.size
  clear hk ho K6
  go_wp2_with fail
  with_reducible refine (eqNd (t) _ _ _ (Ox.out.rdW (by omega)) (Op.out.rdW (by omega))).mono ?_
  rintro e w8 ⟨rfl, hk⟩
  have Px := Lib.hid (Ox.out.kept hk (.inl (Nat.le_refl _)))
  have Py := Lib.hid (Oy.out.kept hk (.inl (Nat.le_refl _)))
  have Pp := Lib.hid (Op.out.kept hk (.inl (Nat.le_refl _)))
  clear Ox
  have Ox := Px
  clear Px
  clear Oy
  have Oy := Py
  clear Py
  clear Op
  have Op := Pp
  clear Pp
  have K8 := Lib.hid (K7.out.trans hk)
  have z8 := hk.size
  clear hk K7
  clear Op
  go_wp2_with fail
  with_reducible refine (toEv l u _ (Hb.out.up K8.out) hbn).mono ?_
  rintro e w9 ⟨uq, rfl, ho, hk⟩
  have Px := Lib.hid (Ox.out.kept hk (.inl (Nat.le_refl _)))
  have Py := Lib.hid (Oy.out.kept hk (.inl (Nat.le_refl _)))
  clear Ox
  have Ox := Px
  clear Px
  clear Oy
  have Oy := Py
  clear Py
  have Oq := Lib.hid ho
  have K9 := Lib.hid (K8.out.trans hk)
  have z9 := hk.size
  clear hk ho K8
  go_wp2_with fail
  with_reducible refine (eqEv (l) _ _ _ (Oy.out.rdW (by omega)) (Oq.out.rdW (by omega))).mono ?_
  rintro e w10 ⟨rfl, hk⟩
  have Px := Lib.hid (Ox.out.kept hk (.inl (Nat.le_refl _)))
  have Py := Lib.hid (Oy.out.kept hk (.inl (Nat.le_refl _)))
  have Pq := Lib.hid (Oq.out.kept hk (.inl (Nat.le_refl _)))
  clear Ox
  have Ox := Px
  clear Px
  clear Oy
  have Oy := Py
  clear Py
  clear Oq
  have Oq := Pq
  clear Pq
  have K10 := Lib.hid (K9.out.trans hk)
  have z10 := hk.size
  clear hk K9
  clear Oq
  go_wp2
  go_ret
  exact ⟨rfl, K10.out⟩
set_option maxHeartbeats 800000 in
theorem lawCause (t : List Nd) (l : List Ev) (n : Int) (v u : Value) (a0 a1 : Addr) (w : World) (hs : Sen w a0 a1) (hy : Typ w) (ha : RdNd w w.heap.size v t) (hb : RdEv w w.heap.size u l) :
    Calls Tryd.prog 7 #[v, u, .int .i64 n] w fun e w' => e = .returned (.bool true) ∧ Kept 0 0 w w' := by
  rcases Nat.lt_or_ge 1048576 (t.length + l.length) with hl | hl
  case inr => exact lawCause_small t l n v u a0 a1 w hs hy ha hb hl
  have Ha := Lib.hid ha
  have Hb := Lib.hid hb
  clear hs hy ha hb
  rcases Nat.lt_or_ge 1048576 t.length with ht | ht
  · have Ea : Hid (szF 1048576 t.length = -1) := szF_neg (by omega)
    go_enter Tryd.func7, Tryd.ntmps7
    go_wp2_with fail
    with_reducible refine (szNd t _ _ _ _ Ha.out (by omega) (by omega)).mono ?_
    rintro e w' ⟨rfl, rfl⟩
    rw [Ea.out]
    go_wp2
    go_ret
    exact ⟨rfl, Kept.refl _ _ _⟩
  · have Ea : Hid (szF (1048576) t.length = 1048576 - t.length) := szF_pos (by omega)
    have Eb : Hid (szF (1048576 - t.length) l.length = -1) := szF_neg (by omega)
    go_enter Tryd.func7, Tryd.ntmps7
    go_wp2_with fail
    with_reducible refine (szNd t _ _ _ _ Ha.out (by omega) (by omega)).mono ?_
    rintro e w' ⟨rfl, rfl⟩
    rw [Ea.out]
    go_wp2_with fail
    with_reducible refine (szEv l _ _ _ _ Hb.out (by omega) (by omega)).mono ?_
    rintro e w' ⟨rfl, rfl⟩
    rw [Eb.out]
    go_wp2
    go_ret
    exact ⟨rfl, Kept.refl _ _ _⟩

set_option maxHeartbeats 6400000 in
theorem lawFirst_small (t : List Nd) (l : List Ev) (n : Int) (v u : Value) (a0 a1 : Addr) (w : World) (hs : Sen w a0 a1) (hy : Typ w) (ha : RdNd w w.heap.size v t) (hb : RdEv w w.heap.size u l) (hn : t.length + l.length ≤ 1048576) :
    Calls Tryd.prog 5 #[v, u, .int .i64 n] w fun e w' => e = .returned (.bool true) ∧ Kept 0 0 w w' := by
  have Ha := Lib.hid ha
  have Hb := Lib.hid hb
  have HS := Lib.hid hs
  have HY := Lib.hid hy
  clear hy
  have han : t.length ≤ 1048576 := by omega
  have hbn : l.length ≤ 1048576 := by omega
  clear ha hb hs
  have Ea : Hid (szF (1048576) t.length = 1048576 - t.length) := szF_pos (by omega)
  have Eb : Hid (szF (1048576 - t.length) l.length = 1048576 - t.length - l.length) := szF_pos (by omega)
  go_enter Tryd.func5, Tryd.ntmps5
  go_wp2_with fail
  with_reducible refine (szNd t _ _ _ _ (Ha.out.up (Kept.refl 0 0 w)) (by omega) (by omega)).mono ?_
  rintro e w' ⟨rfl, rfl⟩
  rw [Ea.out]
  go_wp2_with fail
  with_reducible refine (szEv l _ _ _ _ (Hb.out.up (Kept.refl 0 0 w)) (by omega) (by omega)).mono ?_
  rintro e w' ⟨rfl, rfl⟩
  rw [Eb.out]
  go_wp2_with fail
  with_reducible refine (toNd t v _ (Ha.out.up (Kept.refl 0 0 w)) han).mono ?_
  rintro e w1 ⟨us, rfl, ho, hk⟩
  have Os := Lib.hid ho
  have K1 := Lib.hid ((Kept.refl 0 0 w).trans hk)
  have z1 := hk.size
  clear hk ho
  go_wp2_with fail
  with_reducible refine (toEv l u _ (Hb.out.up K1.out) hbn).mono ?_
  rintro e w2 ⟨ur, rfl, ho, hk⟩
  have Ps := Lib.hid (Os.out.kept hk (.inl (Nat.le_refl _)))
  clear Os
  have Os := Ps
  clear Ps
  have Or := Lib.hid ho
  have K2 := Lib.hid (K1.out.trans hk)
  have z2 := hk.size
  clear hk ho K1
  obtain ⟨N, hN⟩ : ∃ N, N = fstE t l n := ⟨_, rfl⟩
  obtain ⟨bb, hbb⟩ : ∃ bb, bb = fstB t l n := ⟨_, rfl⟩
  have HN := Lib.hid hN.symm
  have HBB := Lib.hid hbb.symm
  clear hN hbb
  have q2 : (bb != bb) = false := by simp
  go_wp2_with fail
  have CN := Lib.hid (fst6_any t l n _ _ w2 (Os.out.rdW (by omega)) (Or.out.rdW (by omega)))
  rw [HN.out, HBB.out] at CN
  with_reducible refine CN.out.mono ?_
  rintro e w3 ⟨rfl, hk⟩
  have Ps := Lib.hid (Os.out.kept hk (.inl (Nat.le_refl _)))
  have Pr := Lib.hid (Or.out.kept hk (.inl (Nat.le_refl _)))
  clear Os
  have Os := Ps
  clear Ps
  clear Or
  have Or := Pr
  clear Pr
  have K3 := Lib.hid (K2.out.trans hk)
  have z3 := hk.size
  clear hk CN K2
  go_wp2_with fail
  obtain ⟨w4, hw⟩ : ∃ w4, w4 = w3.alloc (.cells #[.int .i64 N.node, .int .i64 N.err, .int .i64 N.cause, .int .i64 N.time] 27) := ⟨_, rfl⟩
  have hk : Kept 0 0 w3 w4 := by rw [hw]; exact Kept.alloc0 _ _
  have Nw : Hid (Blk w4 w3.heap.size 27 #[.int .i64 N.node, .int .i64 N.err, .int .i64 N.cause, .int .i64 N.time]) := by show Blk _ _ _ _; rw [hw]; exact Blk.new _ _ _
  rw [← hw]
  have Ps := Lib.hid (Os.out.kept hk (.inl (Nat.le_refl _)))
  have Pr := Lib.hid (Or.out.kept hk (.inl (Nat.le_refl _)))
  clear Os
  have Os := Ps
  clear Ps
  clear Or
  have Or := Pr
  clear Pr
  have Bw := Nw
  clear Nw
  have y4 := Bw.out.lt
  have K4 := Lib.hid (K3.out.trans hk)
  have z4 := hk.size
  clear hk hw K3
  clear Os
  clear Or
  with_reducible refine (toNd t v _ (Ha.out.up K4.out) han).mono ?_
  rintro e w5 ⟨ux, rfl, ho, hk⟩
  have Rw := Lib.hid (Bw.out.kept hk (.inl (Nat.le_refl _)))
  clear Bw
  have Bw := Rw
  clear Rw
  have Ox := Lib.hid ho
  have K5 := Lib.hid (K4.out.trans hk)
  have z5 := hk.size
  clear hk ho K4
  go_wp2_with fail
  with_reducible refine (toEv l u _ (Hb.out.up K5.out) hbn).mono ?_
  rintro e w6 ⟨uy, rfl, ho, hk⟩
  have Px := Lib.hid (Ox.out.kept hk (.inl (Nat.le_refl _)))
  have Rw := Lib.hid (Bw.out.kept hk (.inl (Nat.le_refl _)))
  clear Ox
  have Ox := Px
  clear Px
  clear Bw
  have Bw := Rw
  clear Rw
  have Oy := Lib.hid ho
  have K6 := Lib.hid (K5.out.trans hk)
  have z6 := hk.size
  clear hk ho K5
  go_wp2_with fail
  have CN := Lib.hid (implFirst t l n _ _ a0 a1 w6 (HS.out.kept K6.out) (Ox.out.rdW (by omega)) (Oy.out.rdW (by omega)) (HY.out.kept K6.out))
  rw [HN.out, HBB.out] at CN
  with_reducible refine CN.out.mono ?_
  rintro e w7 ⟨rfl, hk⟩
  have Px := Lib.hid (Ox.out.kept hk (.inl (Nat.le_refl _)))
  have Py := Lib.hid (Oy.out.kept hk (.inl (Nat.le_refl _)))
  have Rw := Lib.hid (Bw.out.kept hk (.inl (Nat.le_refl _)))
  clear Ox
  have Ox := Px
  clear Px
  clear Oy
  have Oy := Py
  clear Py
  clear Bw
  have Bw := Rw
  clear Rw
  have K7 := Lib.hid (K6.out.trans hk)
  have z7 := hk.size
  clear hk CN K6
  have cw0 := bq0 Bw.out
  have cw1 := bq1 Bw.out
  have cw2 := bq2 Bw.out
  have cw3 := bq3 Bw.out
  have lw : w3.heap.size < w7.heap.size := by omega
  go_wp2_with fail
  clear cw0 cw1 cw2 cw3
  clear lw
  obtain ⟨w8, hw⟩ : ∃ w8, w8 = w7.alloc (.cells #[.int .i64 N.node, .int .i64 N.err, .int .i64 N.cause, .int .i64 N.time] 27) := ⟨_, rfl⟩
  have hk : Kept 0 0 w7 w8 := by rw [hw]; exact Kept.alloc0 _ _
  have Ng : Hid (Blk w8 w7.heap.size 27 #[.int .i64 N.node, .int .i64 N.err, .int .i64 N.cause, .int .i64 N.time]) := by show Blk _ _ _ _; rw [hw]; exact Blk.new _ _ _
  rw [← hw]
  have Px := Lib.hid (Ox.out.kept hk (.inl (Nat.le_refl _)))
  have Py := Lib.hid (Oy.out.kept hk (.inl (Nat.le_refl _)))
  have Rw := Lib.hid (Bw.out.kept hk (.inl (Nat.le_refl _)))
  clear Ox
  have Ox := Px
  clear Px
  clear Oy
  have Oy := Py
  clear Py
  clear Bw
  have Bw := Rw
  clear Rw
  have Bg := Ng
  clear Ng
  have y8 := Bg.out.lt
  have K8 := Lib.hid (K7.out.trans hk)
  have z8 := hk.size
  clear hk hw K7
  have CQ := Lib.hid (eqEv1_any N N w8)
  rw [decide_eq_true (rfl : N = N)] at CQ
  with_reducible refine (CQ.out).mono ?_
  rintro e w9 ⟨rfl, hk⟩
  have Px := Lib.hid (Ox.out.kept hk (.inl (Nat.le_refl _)))
  have Py := Lib.hid (Oy.out.kept hk (.inl (Nat.le_refl _)))
  have Rw := Lib.hid (Bw.out.kept hk (.inl (Nat.le_refl _)))
  have Rg := Lib.hid (Bg.out.kept hk (.inl (Nat.le_refl _)))
  clear Ox
  have Ox := Px
  clear Px
  clear Oy
  have Oy := Py
  clear Py
  clear Bw
  have Bw := Rw
  clear Rw
  clear Bg
  have Bg := Rg
  clear Rg
  have K9 := Lib.hid (K8.out.trans hk)
  have z9 := hk.size
  clear hk K8
  clear CQ
  go_wp2_with fail
  with_reducible refine (toNd t v _ (Ha.out.up K9.out) han).mono ?_
  rintro e w10 ⟨up, rfl, ho, hk⟩
  have Px := Lib.hid (Ox.out.kept hk (.inl (Nat.le_refl _)))
  have Py := Lib.hid (Oy.out.kept hk (.inl (Nat.le_refl _)))
  have Rw := Lib.hid (Bw.out.kept hk (.inl (Nat.le_refl _)))
  have Rg := Lib.hid (Bg.out.kept hk (.inl (Nat.le_refl _)))
  clear Ox
  have Ox := Px
  clear Px
  clear Oy
  have Oy := Py
  clear Py
  clear Bw
  have Bw := Rw
  clear Rw
  clear Bg
  have Bg := Rg
  clear Rg
  have Op := Lib.hid ho
  have K10 := Lib.hid (K9.out.trans hk)
  have z10 := hk.size
  clear hk ho K9
  go_wp2_with fail
  with_reducible refine (eqNd (t) _ _ _ (Ox.out.rdW (by omega)) (Op.out.rdW (by omega))).mono ?_
  rintro e w11 ⟨rfl, hk⟩
  have Px := Lib.hid (Ox.out.kept hk (.inl (Nat.le_refl _)))
  have Py := Lib.hid (Oy.out.kept hk (.inl (Nat.le_refl _)))
  have Pp := Lib.hid (Op.out.kept hk (.inl (Nat.le_refl _)))
  have Rw := Lib.hid (Bw.out.kept hk (.inl (Nat.le_refl _)))
  have Rg := Lib.hid (Bg.out.kept hk (.inl (Nat.le_refl _)))
  clear Ox
  have Ox := Px
  clear Px
  clear Oy
  have Oy := Py
  clear Py
  clear Op
  have Op := Pp
  clear Pp
  clear Bw
  have Bw := Rw
  clear Rw
  clear Bg
  have Bg := Rg
  clear Rg
  have K11 := Lib.hid (K10.out.trans hk)
  have z11 := hk.size
  clear hk K10
  clear Op
  go_wp2_with fail
  with_reducible refine (toEv l u _ (Hb.out.up K11.out) hbn).mono ?_
  rintro e w12 ⟨uq, rfl, ho, hk⟩
  have Px := Lib.hid (Ox.out.kept hk (.inl (Nat.le_refl _)))
  have Py := Lib.hid (Oy.out.kept hk (.inl (Nat.le_refl _)))
  have Rw := Lib.hid (Bw.out.kept hk (.inl (Nat.le_refl _)))
  have Rg := Lib.hid (Bg.out.kept hk (.inl (Nat.le_refl _)))
  clear Ox
  have Ox := Px
  clear Px
  clear Oy
  have Oy := Py
  clear Py
  clear Bw
  have Bw := Rw
  clear Rw
  clear Bg
  have Bg := Rg
  clear Rg
  have Oq := Lib.hid ho
  have K12 := Lib.hid (K11.out.trans hk)
  have z12 := hk.size
  clear hk ho K11
  go_wp2_with fail
  with_reducible refine (eqEv (l) _ _ _ (Oy.out.rdW (by omega)) (Oq.out.rdW (by omega))).mono ?_
  rintro e w13 ⟨rfl, hk⟩
  have Px := Lib.hid (Ox.out.kept hk (.inl (Nat.le_refl _)))
  have Py := Lib.hid (Oy.out.kept hk (.inl (Nat.le_refl _)))
  have Pq := Lib.hid (Oq.out.kept hk (.inl (Nat.le_refl _)))
  have Rw := Lib.hid (Bw.out.kept hk (.inl (Nat.le_refl _)))
  have Rg := Lib.hid (Bg.out.kept hk (.inl (Nat.le_refl _)))
  clear Ox
  have Ox := Px
  clear Px
  clear Oy
  have Oy := Py
  clear Py
  clear Oq
  have Oq := Pq
  clear Pq
  clear Bw
  have Bw := Rw
  clear Rw
  clear Bg
  have Bg := Rg
  clear Rg
  have K13 := Lib.hid (K12.out.trans hk)
  have z13 := hk.size
  clear hk K12
  clear Oq
  go_wp2
  go_ret
  exact ⟨rfl, K13.out⟩
set_option maxHeartbeats 800000 in
theorem lawFirst (t : List Nd) (l : List Ev) (n : Int) (v u : Value) (a0 a1 : Addr) (w : World) (hs : Sen w a0 a1) (hy : Typ w) (ha : RdNd w w.heap.size v t) (hb : RdEv w w.heap.size u l) :
    Calls Tryd.prog 5 #[v, u, .int .i64 n] w fun e w' => e = .returned (.bool true) ∧ Kept 0 0 w w' := by
  rcases Nat.lt_or_ge 1048576 (t.length + l.length) with hl | hl
  case inr => exact lawFirst_small t l n v u a0 a1 w hs hy ha hb hl
  have Ha := Lib.hid ha
  have Hb := Lib.hid hb
  clear hs hy ha hb
  rcases Nat.lt_or_ge 1048576 t.length with ht | ht
  · have Ea : Hid (szF 1048576 t.length = -1) := szF_neg (by omega)
    go_enter Tryd.func5, Tryd.ntmps5
    go_wp2_with fail
    with_reducible refine (szNd t _ _ _ _ Ha.out (by omega) (by omega)).mono ?_
    rintro e w' ⟨rfl, rfl⟩
    rw [Ea.out]
    go_wp2
    go_ret
    exact ⟨rfl, Kept.refl _ _ _⟩
  · have Ea : Hid (szF (1048576) t.length = 1048576 - t.length) := szF_pos (by omega)
    have Eb : Hid (szF (1048576 - t.length) l.length = -1) := szF_neg (by omega)
    go_enter Tryd.func5, Tryd.ntmps5
    go_wp2_with fail
    with_reducible refine (szNd t _ _ _ _ Ha.out (by omega) (by omega)).mono ?_
    rintro e w' ⟨rfl, rfl⟩
    rw [Ea.out]
    go_wp2_with fail
    with_reducible refine (szEv l _ _ _ _ Hb.out (by omega) (by omega)).mono ?_
    rintro e w' ⟨rfl, rfl⟩
    rw [Eb.out]
    go_wp2
    go_ret
    exact ⟨rfl, Kept.refl _ _ _⟩

set_option maxHeartbeats 6400000 in
theorem lawLet_small (t : List Nd) (l : List Ev) (x : Ev) (v u : Value) (a0 a1 : Addr) (w : World) (hs : Sen w a0 a1) (ha : RdNd w w.heap.size v t) (hb : RdEv w w.heap.size u l) (hn : t.length + l.length ≤ 1048576) :
    Calls Tryd.prog 8 #[v, u, .agg #[.int .i64 x.node, .int .i64 x.err, .int .i64 x.cause, .int .i64 x.time]] w fun e w' => e = .returned (.bool true) ∧ Kept 0 0 w w' := by
  have Ha := Lib.hid ha
  have Hb := Lib.hid hb
  have HS := Lib.hid hs
  have han : t.length ≤ 1048576 := by omega
  have hbn : l.length ≤ 1048576 := by omega
  clear ha hb hs
  have Ea : Hid (szF (1048576) t.length = 1048576 - t.length) := szF_pos (by omega)
  have Eb : Hid (szF (1048576 - t.length) l.length = 1048576 - t.length - l.length) := szF_pos (by omega)
  go_enter Tryd.func8, Tryd.ntmps8
  go_wp2_with fail
  obtain ⟨w1, hw⟩ : ∃ w1, w1 = w.alloc (.cells #[.int .i64 x.node, .int .i64 x.err, .int .i64 x.cause, .int .i64 x.time] 51) := ⟨_, rfl⟩
  have hk : Kept 0 0 w w1 := by rw [hw]; exact Kept.alloc0 _ _
  have Na : Hid (Blk w1 w.heap.size 51 #[.int .i64 x.node, .int .i64 x.err, .int .i64 x.cause, .int .i64 x.time]) := by show Blk _ _ _ _; rw [hw]; exact Blk.new _ _ _
  rw [← hw]
  have Ba := Na
  clear Na
  have y1 := Ba.out.lt
  have K1 := Lib.hid ((Kept.refl 0 0 w).trans hk)
  have z1 := hk.size
  clear hk hw
  go_wp2_with fail
  with_reducible refine (szNd t _ _ _ _ (Ha.out.up K1.out) (by omega) (by omega)).mono ?_
  rintro e w' ⟨rfl, rfl⟩
  rw [Ea.out]
  go_wp2_with fail
  with_reducible refine (szEv l _ _ _ _ (Hb.out.up K1.out) (by omega) (by omega)).mono ?_
  rintro e w' ⟨rfl, rfl⟩
  rw [Eb.out]
  obtain ⟨zs, hzs⟩ : ∃ zs, zs = letL t l x := ⟨_, rfl⟩
  obtain ⟨bb, hbb⟩ : ∃ bb, bb = letB t l x := ⟨_, rfl⟩
  have gl : zs.length ≤ 61 := by rw [hzs]; exact letL_len _ _ _
  have HZ := Lib.hid hzs.symm
  have HBB := Lib.hid hbb.symm
  clear hzs hbb
  have q2 : (bb != bb) = false := by simp
  go_upto_region 8 with fail
  go_region_held3 (fun w' => w'.cell? ⟨w.heap.size, 0, none⟩ = some (.int .i64 x.node) ∧ w'.cell? ⟨w.heap.size, 1, none⟩ = some (.int .i64 x.err) ∧ w'.cell? ⟨w.heap.size, 2, none⟩ = some (.int .i64 x.cause) ∧ w'.cell? ⟨w.heap.size, 3, none⟩ = some (.int .i64 x.time))
    (first | with_reducible exact ⟨bq0 Ba.out.drew, bq1 Ba.out.drew, bq2 Ba.out.drew, bq3 Ba.out.drew⟩ | with_reducible exact ⟨bq0 X1, bq1 X1, bq2 X1, bq3 X1⟩ | with_reducible exact ⟨bq0 X1.drew, bq1 X1.drew, bq2 X1.drew, bq3 X1.drew⟩ | with_reducible exact ⟨bq0 X2, bq1 X2, bq2 X2, bq3 X2⟩ | with_reducible exact ⟨bq0 X2.drew, bq1 X2.drew, bq2 X2.drew, bq3 X2.drew⟩ | with_reducible exact ⟨bq0 X3, bq1 X3, bq2 X3, bq3 X3⟩ | with_reducible exact ⟨bq0 X4, bq1 X4, bq2 X4, bq3 X4⟩)
    (first | (go_at_call 25; (with_reducible refine (toNd t v w1.drew (Ha.out.up K1.out.drew) han).mono ?_); rintro e w2 ⟨u1, rfl, o1, hk⟩; have k1 : Kept 0 0 w1 w2 := (Kept.refl 0 0 w1).drew.trans hk; have X1 := Ba.out.kept k1 (.inl (Nat.le_refl _)); clear hk) | (go_at_call 26; (with_reducible refine (toEv l u w2 (Hb.out.up (K1.out.trans k1)) hbn).mono ?_); rintro e w3 ⟨u2, rfl, p2, hk⟩; have o2 := o1.kept hk (.inl (Nat.le_refl _)); have k2 : Kept 0 0 w1 w3 := k1.trans hk; have z2 := hk.size; have X2 := Ba.out.kept k2 (.inl (Nat.le_refl _)); clear hk) | (go_at_call 33; (with_reducible refine (toEv1_any x w3).mono ?_); rintro e w4 ⟨rfl, hk⟩; have o3 := o2.kept hk (.inl (Nat.le_refl _)); have p3 := p2.kept hk (.inl (Nat.le_refl _)); have k3 : Kept 0 0 w1 w4 := k2.trans hk; have z3 := hk.size; have X3 := Ba.out.kept k3 (.inl (Nat.le_refl _)); clear hk) | (go_at_call 13; (with_reducible refine (let6_any t l x u1 u2 w4 (o3.rdW (Nat.le_trans z2 z3)) (p3.rdW z3)).mono ?_); rintro e w5 ⟨uW, rfl, ho, hk⟩; have k4 : Kept 0 0 w1 w5 := k3.trans hk; have X4 := Ba.out.kept k4 (.inl (Nat.le_refl _)); have ks := Lib.hid k4; have zz := hk.size; have z4 := k3.size; have OO := Lib.hid ho; clear hk))
  clear X1 X2 X3 X4 k1 k2 k3 k4 o1 o2 o3 p2 p3 z2 z3 ho
  have Ra := Lib.hid (Ba.out.kept ks.out (.inl (Nat.le_refl _)))
  clear Ba
  have Ba := Ra
  clear Ra
  have OW := OO
  clear OO
  have K5 := Lib.hid (K1.out.trans ks.out)
  have z5 := ks.out.size
  clear ks K1
  rw [HZ.out] at OW
  rw [HBB.out]
  go_wp2_with fail
  with_reducible refine (toNd t v _ (Ha.out.up K5.out) han).mono ?_
  rintro e w6 ⟨ux, rfl, ho, hk⟩
  have PW := Lib.hid (OW.out.kept hk (.inl (Nat.le_refl _)))
  have Ra := Lib.hid (Ba.out.kept hk (.inl (Nat.le_refl _)))
  clear OW
  have OW := PW
  clear PW
  clear Ba
  have Ba := Ra
  clear Ra
  have Ox := Lib.hid ho
  have K6 := Lib.hid (K5.out.trans hk)
  have z6 := hk.size
  clear hk ho K5
  go_wp2_with fail
  with_reducible refine (toEv l u _ (Hb.out.up K6.out) hbn).mono ?_
  rintro e w7 ⟨uy, rfl, ho, hk⟩
  have PW := Lib.hid (OW.out.kept hk (.inl (Nat.le_refl _)))
  have Px := Lib.hid (Ox.out.kept hk (.inl (Nat.le_refl _)))
  have Ra := Lib.hid (Ba.out.kept hk (.inl (Nat.le_refl _)))
  clear OW
  have OW := PW
  clear PW
  clear Ox
  have Ox := Px
  clear Px
  clear Ba
  have Ba := Ra
  clear Ra
  have Oy := Lib.hid ho
  have K7 := Lib.hid (K6.out.trans hk)
  have z7 := hk.size
  clear hk ho K6
  have ca0 := bq0 Ba.out
  have ca1 := bq1 Ba.out
  have ca2 := bq2 Ba.out
  have ca3 := bq3 Ba.out
  go_wp2_with fail
  clear ca0 ca1 ca2 ca3
  with_reducible refine (toEv1_any x _).mono ?_
  rintro e w8 ⟨rfl, hk⟩
  have PW := Lib.hid (OW.out.kept hk (.inl (Nat.le_refl _)))
  have Px := Lib.hid (Ox.out.kept hk (.inl (Nat.le_refl _)))
  have Py := Lib.hid (Oy.out.kept hk (.inl (Nat.le_refl _)))
  have Ra := Lib.hid (Ba.out.kept hk (.inl (Nat.le_refl _)))
  clear OW
  have OW := PW
  clear PW
  clear Ox
  have Ox := Px
  clear Px
  clear Oy
  have Oy := Py
  clear Py
  clear Ba
  have Ba := Ra
  clear Ra
  have K8 := Lib.hid (K7.out.trans hk)
  have z8 := hk.size
  clear hk K7
  go_wp2_with fail
  have CN := Lib.hid (implLet t l x _ _ a0 a1 w8 (HS.out.kept K8.out) (Ox.out.rdW (by omega)) (Oy.out.rdW (by omega)))
  rw [HZ.out, HBB.out] at CN
  with_reducible refine CN.out.mono ?_
  rintro e w9 ⟨uG, rfl, ho, hk⟩
  have PW := Lib.hid (OW.out.kept hk (.inl (Nat.le_refl _)))
  have Px := Lib.hid (Ox.out.kept hk (.inl (Nat.le_refl _)))
  have Py := Lib.hid (Oy.out.kept hk (.inl (Nat.le_refl _)))
  have Ra := Lib.hid (Ba.out.kept hk (.inl (Nat.le_refl _)))
  clear OW
  have OW := PW
  clear PW
  clear Ox
  have Ox := Px
  clear Px
  clear Oy
  have Oy := Py
  clear Py
  clear Ba
  have Ba := Ra
  clear Ra
  have OG := Lib.hid ho
  have K9 := Lib.hid (K8.out.trans hk)
  have z9 := hk.size
  clear hk CN ho K8
  go_wp2_with fail
  with_reducible refine (eqEv (zs) _ _ _ (OG.out.rdW (by omega)) (OW.out.rdW (by omega))).mono ?_
  rintro e w10 ⟨rfl, hk⟩
  have PW := Lib.hid (OW.out.kept hk (.inl (Nat.le_refl _)))
  have Px := Lib.hid (Ox.out.kept hk (.inl (Nat.le_refl _)))
  have Py := Lib.hid (Oy.out.kept hk (.inl (Nat.le_refl _)))
  have PG := Lib.hid (OG.out.kept hk (.inl (Nat.le_refl _)))
  have Ra := Lib.hid (Ba.out.kept hk (.inl (Nat.le_refl _)))
  clear OW
  have OW := PW
  clear PW
  clear Ox
  have Ox := Px
  clear Px
  clear Oy
  have Oy := Py
  clear Py
  clear OG
  have OG := PG
  clear PG
  clear Ba
  have Ba := Ra
  clear Ra
  have K10 := Lib.hid (K9.out.trans hk)
  have z10 := hk.size
  clear hk K9
  go_wp2_with fail
  with_reducible refine (toNd t v _ (Ha.out.up K10.out) han).mono ?_
  rintro e w11 ⟨up, rfl, ho, hk⟩
  have PW := Lib.hid (OW.out.kept hk (.inl (Nat.le_refl _)))
  have Px := Lib.hid (Ox.out.kept hk (.inl (Nat.le_refl _)))
  have Py := Lib.hid (Oy.out.kept hk (.inl (Nat.le_refl _)))
  have PG := Lib.hid (OG.out.kept hk (.inl (Nat.le_refl _)))
  have Ra := Lib.hid (Ba.out.kept hk (.inl (Nat.le_refl _)))
  clear OW
  have OW := PW
  clear PW
  clear Ox
  have Ox := Px
  clear Px
  clear Oy
  have Oy := Py
  clear Py
  clear OG
  have OG := PG
  clear PG
  clear Ba
  have Ba := Ra
  clear Ra
  have Op := Lib.hid ho
  have K11 := Lib.hid (K10.out.trans hk)
  have z11 := hk.size
  clear hk ho K10
  go_wp2_with fail
  with_reducible refine (eqNd (t) _ _ _ (Ox.out.rdW (by omega)) (Op.out.rdW (by omega))).mono ?_
  rintro e w12 ⟨rfl, hk⟩
  have PW := Lib.hid (OW.out.kept hk (.inl (Nat.le_refl _)))
  have Px := Lib.hid (Ox.out.kept hk (.inl (Nat.le_refl _)))
  have Py := Lib.hid (Oy.out.kept hk (.inl (Nat.le_refl _)))
  have PG := Lib.hid (OG.out.kept hk (.inl (Nat.le_refl _)))
  have Pp := Lib.hid (Op.out.kept hk (.inl (Nat.le_refl _)))
  have Ra := Lib.hid (Ba.out.kept hk (.inl (Nat.le_refl _)))
  clear OW
  have OW := PW
  clear PW
  clear Ox
  have Ox := Px
  clear Px
  clear Oy
  have Oy := Py
  clear Py
  clear OG
  have OG := PG
  clear PG
  clear Op
  have Op := Pp
  clear Pp
  clear Ba
  have Ba := Ra
  clear Ra
  have K12 := Lib.hid (K11.out.trans hk)
  have z12 := hk.size
  clear hk K11
  clear Op
  go_wp2_with fail
  with_reducible refine (toEv l u _ (Hb.out.up K12.out) hbn).mono ?_
  rintro e w13 ⟨uq, rfl, ho, hk⟩
  have PW := Lib.hid (OW.out.kept hk (.inl (Nat.le_refl _)))
  have Px := Lib.hid (Ox.out.kept hk (.inl (Nat.le_refl _)))
  have Py := Lib.hid (Oy.out.kept hk (.inl (Nat.le_refl _)))
  have PG := Lib.hid (OG.out.kept hk (.inl (Nat.le_refl _)))
  have Ra := Lib.hid (Ba.out.kept hk (.inl (Nat.le_refl _)))
  clear OW
  have OW := PW
  clear PW
  clear Ox
  have Ox := Px
  clear Px
  clear Oy
  have Oy := Py
  clear Py
  clear OG
  have OG := PG
  clear PG
  clear Ba
  have Ba := Ra
  clear Ra
  have Oq := Lib.hid ho
  have K13 := Lib.hid (K12.out.trans hk)
  have z13 := hk.size
  clear hk ho K12
  go_wp2_with fail
  with_reducible refine (eqEv (l) _ _ _ (Oy.out.rdW (by omega)) (Oq.out.rdW (by omega))).mono ?_
  rintro e w14 ⟨rfl, hk⟩
  have PW := Lib.hid (OW.out.kept hk (.inl (Nat.le_refl _)))
  have Px := Lib.hid (Ox.out.kept hk (.inl (Nat.le_refl _)))
  have Py := Lib.hid (Oy.out.kept hk (.inl (Nat.le_refl _)))
  have PG := Lib.hid (OG.out.kept hk (.inl (Nat.le_refl _)))
  have Pq := Lib.hid (Oq.out.kept hk (.inl (Nat.le_refl _)))
  have Ra := Lib.hid (Ba.out.kept hk (.inl (Nat.le_refl _)))
  clear OW
  have OW := PW
  clear PW
  clear Ox
  have Ox := Px
  clear Px
  clear Oy
  have Oy := Py
  clear Py
  clear OG
  have OG := PG
  clear PG
  clear Oq
  have Oq := Pq
  clear Pq
  clear Ba
  have Ba := Ra
  clear Ra
  have K14 := Lib.hid (K13.out.trans hk)
  have z14 := hk.size
  clear hk K13
  clear Oq
  go_wp2_with fail
  with_reducible refine (markNd (1) (t) _ w5.heap.size w6.heap.size _ Ox.out (by omega) (by omega) (by omega)).mono ?_
  rintro e w15 ⟨rfl, ho, hk⟩
  have PW := Lib.hid (OW.out.kept hk (by omega))
  have Py := Lib.hid (Oy.out.kept hk (by omega))
  have PG := Lib.hid (OG.out.kept hk (by omega))
  have Ra := Lib.hid (Ba.out.kept hk (by omega))
  clear OW
  have OW := PW
  clear PW
  clear Oy
  have Oy := Py
  clear Py
  clear OG
  have OG := PG
  clear PG
  clear Ba
  have Ba := Ra
  clear Ra
  clear Ox
  have Ox := Lib.hid ho
  have K15 := Lib.hid (K14.out.trans2 hk (.inr (by omega)))
  have z15 := hk.size
  clear hk ho K14
  go_wp2_with fail
  with_reducible refine (markEv (1 + 5 * (t.length : Int)) (l) _ w6.heap.size w7.heap.size _ Oy.out (by omega) (by omega) (by omega)).mono ?_
  rintro e w16 ⟨rfl, ho, hk⟩
  have PW := Lib.hid (OW.out.kept hk (by omega))
  have Px := Lib.hid (Ox.out.kept hk (by omega))
  have PG := Lib.hid (OG.out.kept hk (by omega))
  have Ra := Lib.hid (Ba.out.kept hk (by omega))
  clear OW
  have OW := PW
  clear PW
  clear Ox
  have Ox := Px
  clear Px
  clear OG
  have OG := PG
  clear PG
  clear Ba
  have Ba := Ra
  clear Ra
  clear Oy
  have Oy := Lib.hid ho
  have K16 := Lib.hid (K15.out.trans2 hk (.inr (by omega)))
  have z16 := hk.size
  clear hk ho K15
  have kp : 0 ≤ 1 + 5 * (t.length : Int) + 4 * (l.length : Int) := by omega
  go_wp2_with fail
  with_reducible refine (eqEv (zs) _ _ _ (OG.out.rdW (by omega)) (OW.out.rdW (by omega))).mono ?_
  rintro e w17 ⟨rfl, hk⟩
  have PW := Lib.hid (OW.out.kept hk (.inl (Nat.le_refl _)))
  have Px := Lib.hid (Ox.out.kept hk (.inl (Nat.le_refl _)))
  have Py := Lib.hid (Oy.out.kept hk (.inl (Nat.le_refl _)))
  have PG := Lib.hid (OG.out.kept hk (.inl (Nat.le_refl _)))
  have Ra := Lib.hid (Ba.out.kept hk (.inl (Nat.le_refl _)))
  clear OW
  have OW := PW
  clear PW
  clear Ox
  have Ox := Px
  clear Px
  clear Oy
  have Oy := Py
  clear Py
  clear OG
  have OG := PG
  clear PG
  clear Ba
  have Ba := Ra
  clear Ra
  have K17 := Lib.hid (K16.out.trans hk)
  have z17 := hk.size
  clear hk K16
  go_wp2_with fail
  with_reducible refine (markEv (1) (zs) _ w8.heap.size w9.heap.size _ OG.out (by omega) (by omega) (by omega)).mono ?_
  rintro e w18 ⟨rfl, ho, hk⟩
  have PW := Lib.hid (OW.out.kept hk (by omega))
  have Px := Lib.hid (Ox.out.kept hk (by omega))
  have Py := Lib.hid (Oy.out.kept hk (by omega))
  have Ra := Lib.hid (Ba.out.kept hk (by omega))
  clear OW
  have OW := PW
  clear PW
  clear Ox
  have Ox := Px
  clear Px
  clear Oy
  have Oy := Py
  clear Py
  clear Ba
  have Ba := Ra
  clear Ra
  clear OG
  have OG := Lib.hid ho
  have K18 := Lib.hid (K17.out.trans2 hk (.inr (by omega)))
  have z18 := hk.size
  clear hk ho K17
  have kq : 0 ≤ 1 + 4 * (zs.length : Int) := by omega
  go_wp2_with fail
  with_reducible refine (heldEv (1) (zs.length) _ _ _ (OG.out.rdW (by omega)) (by omega) (by omega) (by omega)).mono ?_
  rintro e w' ⟨rfl, rfl⟩
  clear Ox
  clear Oy
  go_upto_region 40 with fail
  go_region_held3 (fun w' => w'.cell? ⟨w.heap.size, 0, none⟩ = some (.int .i64 x.node) ∧ w'.cell? ⟨w.heap.size, 1, none⟩ = some (.int .i64 x.err) ∧ w'.cell? ⟨w.heap.size, 2, none⟩ = some (.int .i64 x.cause) ∧ w'.cell? ⟨w.heap.size, 3, none⟩ = some (.int .i64 x.time))
    (first | with_reducible exact ⟨bq0 Ba.out.drew, bq1 Ba.out.drew, bq2 Ba.out.drew, bq3 Ba.out.drew⟩ | with_reducible exact ⟨bq0 X1, bq1 X1, bq2 X1, bq3 X1⟩ | with_reducible exact ⟨bq0 X1.drew, bq1 X1.drew, bq2 X1.drew, bq3 X1.drew⟩ | with_reducible exact ⟨bq0 X2, bq1 X2, bq2 X2, bq3 X2⟩ | with_reducible exact ⟨bq0 X2.drew, bq1 X2.drew, bq2 X2.drew, bq3 X2.drew⟩ | with_reducible exact ⟨bq0 X3, bq1 X3, bq2 X3, bq3 X3⟩ | with_reducible exact ⟨bq0 X4, bq1 X4, bq2 X4, bq3 X4⟩)
    (first | (go_at_call 25; (with_reducible refine (toNd t v w18.drew (Ha.out.up K18.out.drew) han).mono ?_); rintro e w19 ⟨u1, rfl, o1, hk⟩; have k1 : Kept 0 0 w18 w19 := (Kept.refl 0 0 w18).drew.trans hk; have X1 := Ba.out.kept k1 (.inl (Nat.le_refl _)); clear hk) | (go_at_call 26; (with_reducible refine (toEv l u w19 (Hb.out.up (K18.out.trans k1)) hbn).mono ?_); rintro e w20 ⟨u2, rfl, p2, hk⟩; have o2 := o1.kept hk (.inl (Nat.le_refl _)); have k2 : Kept 0 0 w18 w20 := k1.trans hk; have z2 := hk.size; have X2 := Ba.out.kept k2 (.inl (Nat.le_refl _)); clear hk) | (go_at_call 33; (with_reducible refine (toEv1_any x w20).mono ?_); rintro e w21 ⟨rfl, hk⟩; have o3 := o2.kept hk (.inl (Nat.le_refl _)); have p3 := p2.kept hk (.inl (Nat.le_refl _)); have k3 : Kept 0 0 w18 w21 := k2.trans hk; have z3 := hk.size; have X3 := Ba.out.kept k3 (.inl (Nat.le_refl _)); clear hk) | (go_at_call 12; (with_reducible refine (implLet t l x u1 u2 a0 a1 w21 (HS.out.kept (K18.out.trans k3)) (o3.rdW (Nat.le_trans z2 z3)) (p3.rdW z3)).mono ?_); rintro e w22 ⟨uQ, rfl, ho, hk⟩; have k4 : Kept 0 0 w18 w22 := k3.trans hk; have X4 := Ba.out.kept k4 (.inl (Nat.le_refl _)); have ks := Lib.hid k4; have zz := hk.size; have z4 := k3.size; have OO := Lib.hid ho; clear hk))
  clear X1 X2 X3 X4 k1 k2 k3 k4 o1 o2 o3 p2 p3 z2 z3 ho
  have PW := Lib.hid (OW.out.kept ks.out (.inl (Nat.le_refl _)))
  have PG := Lib.hid (OG.out.kept ks.out (.inl (Nat.le_refl _)))
  have Ra := Lib.hid (Ba.out.kept ks.out (.inl (Nat.le_refl _)))
  clear OW
  have OW := PW
  clear PW
  clear OG
  have OG := PG
  clear PG
  clear Ba
  have Ba := Ra
  clear Ra
  have OQ := OO
  clear OO
  have K22 := Lib.hid (K18.out.trans ks.out)
  have z22 := ks.out.size
  clear ks K18
  rw [HZ.out] at OQ
  rw [HBB.out]
  go_wp2_with fail
  with_reducible refine (eqEv (zs) _ _ _ (OQ.out.rdW (by omega)) (OW.out.rdW (by omega))).mono ?_
  rintro e w23 ⟨rfl, hk⟩
  have PW := Lib.hid (OW.out.kept hk (.inl (Nat.le_refl _)))
  have PG := Lib.hid (OG.out.kept hk (.inl (Nat.le_refl _)))
  have PQ := Lib.hid (OQ.out.kept hk (.inl (Nat.le_refl _)))
  have Ra := Lib.hid (Ba.out.kept hk (.inl (Nat.le_refl _)))
  clear OW
  have OW := PW
  clear PW
  clear OG
  have OG := PG
  clear PG
  clear OQ
  have OQ := PQ
  clear PQ
  clear Ba
  have Ba := Ra
  clear Ra
  have K23 := Lib.hid (K22.out.trans hk)
  have z23 := hk.size
  clear hk K22
  go_wp2_with fail
  with_reducible refine (heldEv (1) (zs.length) _ _ _ (OG.out.rdW (by omega)) (by omega) (by omega) (by omega)).mono ?_
  rintro e w' ⟨rfl, rfl⟩
  go_wp2
  go_ret
  exact ⟨rfl, K23.out⟩
set_option maxHeartbeats 800000 in
theorem lawLet (t : List Nd) (l : List Ev) (x : Ev) (v u : Value) (a0 a1 : Addr) (w : World) (hs : Sen w a0 a1) (ha : RdNd w w.heap.size v t) (hb : RdEv w w.heap.size u l) :
    Calls Tryd.prog 8 #[v, u, .agg #[.int .i64 x.node, .int .i64 x.err, .int .i64 x.cause, .int .i64 x.time]] w fun e w' => e = .returned (.bool true) ∧ Kept 0 0 w w' := by
  rcases Nat.lt_or_ge 1048576 (t.length + l.length) with hl | hl
  case inr => exact lawLet_small t l x v u a0 a1 w hs ha hb hl
  have Ha := Lib.hid ha
  have Hb := Lib.hid hb
  obtain ⟨W, hW⟩ : ∃ W, W = w.alloc (.cells #[.int .i64 x.node, .int .i64 x.err, .int .i64 x.cause, .int .i64 x.time] 51) := ⟨_, rfl⟩
  have KW : Hid (Kept 0 0 w W) := by show Kept _ _ _ _; rw [hW]; exact Kept.alloc0 _ _
  have HW := Lib.hid hW
  clear hW
  clear hs ha hb
  rcases Nat.lt_or_ge 1048576 t.length with ht | ht
  · have Ea : Hid (szF 1048576 t.length = -1) := szF_neg (by omega)
    go_enter Tryd.func8, Tryd.ntmps8
    go_wp2_with fail
    rw [← HW.out]
    with_reducible refine (szNd t _ _ _ _ (Ha.out.up KW.out) (by omega) (by omega)).mono ?_
    rintro e w' ⟨rfl, rfl⟩
    rw [Ea.out]
    go_wp2
    go_ret
    exact ⟨rfl, KW.out⟩
  · have Ea : Hid (szF (1048576) t.length = 1048576 - t.length) := szF_pos (by omega)
    have Eb : Hid (szF (1048576 - t.length) l.length = -1) := szF_neg (by omega)
    go_enter Tryd.func8, Tryd.ntmps8
    go_wp2_with fail
    rw [← HW.out]
    with_reducible refine (szNd t _ _ _ _ (Ha.out.up KW.out) (by omega) (by omega)).mono ?_
    rintro e w' ⟨rfl, rfl⟩
    rw [Ea.out]
    go_wp2_with fail
    with_reducible refine (szEv l _ _ _ _ (Hb.out.up KW.out) (by omega) (by omega)).mono ?_
    rintro e w' ⟨rfl, rfl⟩
    rw [Eb.out]
    go_wp2
    go_ret
    exact ⟨rfl, KW.out⟩
end Go.Proofs.YtgahjachkeoflaaDoor
