/- The exact laws of EventsOk, ErrOf and DoneBy return true for every tree and list that can be read; condition: the package's variables lie where the program laid them. -/
import Derived.Test.YtgahjachkeoflaaDoorXw
namespace Go.Proofs.YtgahjachkeoflaaDoor
open Go.RowKit Go.Sort

set_option maxHeartbeats 6400000 in
theorem lawEvents_small (t : List Nd) (l : List Ev) (v u : Value) (a0 a1 : Addr) (w : World) (hs : Sen w a0 a1) (ha : RdNd w w.heap.size v t) (hb : RdEv w w.heap.size u l) (hn : t.length + l.length ≤ 1048576) :
    Calls Tryd.prog 4 #[v, u] w fun e w' => e = .returned (.bool true) ∧ Kept 0 0 w w' := by
  have Ha := Lib.hid ha
  have Hb := Lib.hid hb
  have HS := Lib.hid hs
  have han : t.length ≤ 1048576 := by omega
  have hbn : l.length ≤ 1048576 := by omega
  clear ha hb hs
  have Ea : Hid (szF (1048576) t.length = 1048576 - t.length) := szF_pos (by omega)
  have Eb : Hid (szF (1048576 - t.length) l.length = 1048576 - t.length - l.length) := szF_pos (by omega)
  go_enter Tryd.func4, Tryd.ntmps4
  go_wp2_with fail
  with_reducible refine (szNd t _ _ _ _ (Ha.out.up (Kept.refl 0 0 w)) (by omega) (by omega)).mono ?_
  rintro e w' ⟨rfl, rfl⟩
  rw [Ea.out]
  go_wp2_with fail
  with_reducible refine (szEv l _ _ _ _ (Hb.out.up (Kept.refl 0 0 w)) (by omega) (by omega)).mono ?_
  rintro e w' ⟨rfl, rfl⟩
  rw [Eb.out]
  go_wp2_with fail
  with_reducible refine (toNd t v _ (Ha.out.up (Kept.refl 0 0 w)) han).mono ?_
  rintro e w1 ⟨us, rfl, ho, hk⟩
  have Os := Lib.hid ho
  have K1 := Lib.hid ((Kept.refl 0 0 w).trans hk)
  have z1 := hk.size
  clear hk ho
  go_wp2_with fail
  with_reducible refine (toEv l u _ (Hb.out.up K1.out) hbn).mono ?_
  rintro e w2 ⟨ur, rfl, ho, hk⟩
  have Ps := Lib.hid (Os.out.kept hk (.inl (Nat.le_refl _)))
  clear Os
  have Os := Ps
  clear Ps
  have Or := Lib.hid ho
  have K2 := Lib.hid (K1.out.trans hk)
  have z2 := hk.size
  clear hk ho K1
  go_wp2_with fail
  with_reducible refine (events6_any t l _ _ _ (Os.out.rdW (by omega)) (Or.out.rdW (by omega))).mono ?_
  rintro e w3 ⟨rfl, hk⟩
  have Ps := Lib.hid (Os.out.kept hk (.inl (Nat.le_refl _)))
  have Pr := Lib.hid (Or.out.kept hk (.inl (Nat.le_refl _)))
  clear Os
  have Os := Ps
  clear Ps
  clear Or
  have Or := Pr
  clear Pr
  have K3 := Lib.hid (K2.out.trans hk)
  have z3 := hk.size
  clear hk K2
  clear Os
  clear Or
  go_wp2_with fail
  with_reducible refine (toNd t v _ (Ha.out.up K3.out) han).mono ?_
  rintro e w4 ⟨ux, rfl, ho, hk⟩
  have Ox := Lib.hid ho
  have K4 := Lib.hid (K3.out.trans hk)
  have z4 := hk.size
  clear hk ho K3
  go_wp2_with fail
  with_reducible refine (toEv l u _ (Hb.out.up K4.out) hbn).mono ?_
  rintro e w5 ⟨uy, rfl, ho, hk⟩
  have Px := Lib.hid (Ox.out.kept hk (.inl (Nat.le_refl _)))
  clear Ox
  have Ox := Px
  clear Px
  have Oy := Lib.hid ho
  have K5 := Lib.hid (K4.out.trans hk)
  have z5 := hk.size
  clear hk ho K4
  go_wp2_with fail
  with_reducible refine (implEvents t l _ _ a0 a1 _ (HS.out.kept K5.out) (Ox.out.rdW (by omega)) (Oy.out.rdW (by omega))).mono ?_
  rintro e w6 ⟨rfl, hk⟩
  have Px := Lib.hid (Ox.out.kept hk (.inl (Nat.le_refl _)))
  have Py := Lib.hid (Oy.out.kept hk (.inl (Nat.le_refl _)))
  clear Ox
  have Ox := Px
  clear Px
  clear Oy
  have Oy := Py
  clear Py
  have K6 := Lib.hid (K5.out.trans hk)
  have z6 := hk.size
  clear hk K5
  obtain ⟨bb, hbb⟩ : ∃ bb, bb = eventsB t l := ⟨_, rfl⟩
  rw [← hbb]
  clear hbb
  have q1 : (bb != bb) = false := by simp
  have q2 : (bb == bb) = true := by simp
  go_wp2_with fail
  with_reducible refine (toNd t v _ (Ha.out.up K6.out) han).mono ?_
  rintro e w7 ⟨up, rfl, ho, hk⟩
  have Px := Lib.hid (Ox.out.kept hk (.inl (Nat.le_refl _)))
  have Py := Lib.hid (Oy.out.kept hk (.inl (Nat.le_refl _)))
  clear Ox
  have Ox := Px
  clear Px
  clear Oy
  have Oy := Py
  clear Py
  have Op := Lib.hid ho
  have K7 := Lib.hid (K6.out.trans hk)
  have z7 := hk.size
  clear hk ho K6
  go_wp2_with fail
  with_reducible refine (eqNd (t) _ _ _ (Ox.out.rdW (by omega)) (Op.out.rdW (by omega))).mono ?_
  rintro e w8 ⟨rfl, hk⟩
  have Px := Lib.hid (Ox.out.kept hk (.inl (Nat.le_refl _)))
  have Py := Lib.hid (Oy.out.kept hk (.inl (Nat.le_refl _)))
  have Pp := Lib.hid (Op.out.kept hk (.inl (Nat.le_refl _)))
  clear Ox
  have Ox := Px
  clear Px
  clear Oy
  have Oy := Py
  clear Py
  clear Op
  have Op := Pp
  clear Pp
  have K8 := Lib.hid (K7.out.trans hk)
  have z8 := hk.size
  clear hk K7
  clear Op
  go_wp2_with fail
  with_reducible refine (toEv l u _ (Hb.out.up K8.out) hbn).mono ?_
  rintro e w9 ⟨uq, rfl, ho, hk⟩
  have Px := Lib.hid (Ox.out.kept hk (.inl (Nat.le_refl _)))
  have Py := Lib.hid (Oy.out.kept hk (.inl (Nat.le_refl _)))
  clear Ox
  have Ox := Px
  clear Px
  clear Oy
  have Oy := Py
  clear Py
  have Oq := Lib.hid ho
  have K9 := Lib.hid (K8.out.trans hk)
  have z9 := hk.size
  clear hk ho K8
  go_wp2_with fail
  with_reducible refine (eqEv (l) _ _ _ (Oy.out.rdW (by omega)) (Oq.out.rdW (by omega))).mono ?_
  rintro e w10 ⟨rfl, hk⟩
  have Px := Lib.hid (Ox.out.kept hk (.inl (Nat.le_refl _)))
  have Py := Lib.hid (Oy.out.kept hk (.inl (Nat.le_refl _)))
  have Pq := Lib.hid (Oq.out.kept hk (.inl (Nat.le_refl _)))
  clear Ox
  have Ox := Px
  clear Px
  clear Oy
  have Oy := Py
  clear Py
  clear Oq
  have Oq := Pq
  clear Pq
  have K10 := Lib.hid (K9.out.trans hk)
  have z10 := hk.size
  clear hk K9
  clear Oq
  go_wp2
  go_ret
  exact ⟨rfl, K10.out⟩
set_option maxHeartbeats 800000 in
theorem lawEvents (t : List Nd) (l : List Ev) (v u : Value) (a0 a1 : Addr) (w : World) (hs : Sen w a0 a1) (ha : RdNd w w.heap.size v t) (hb : RdEv w w.heap.size u l) :
    Calls Tryd.prog 4 #[v, u] w fun e w' => e = .returned (.bool true) ∧ Kept 0 0 w w' := by
  rcases Nat.lt_or_ge 1048576 (t.length + l.length) with hl | hl
  case inr => exact lawEvents_small t l v u a0 a1 w hs ha hb hl
  have Ha := Lib.hid ha
  have Hb := Lib.hid hb
  clear hs ha hb
  rcases Nat.lt_or_ge 1048576 t.length with ht | ht
  · have Ea : Hid (szF 1048576 t.length = -1) := szF_neg (by omega)
    go_enter Tryd.func4, Tryd.ntmps4
    go_wp2_with fail
    with_reducible refine (szNd t _ _ _ _ Ha.out (by omega) (by omega)).mono ?_
    rintro e w' ⟨rfl, rfl⟩
    rw [Ea.out]
    go_wp2
    go_ret
    exact ⟨rfl, Kept.refl _ _ _⟩
  · have Ea : Hid (szF (1048576) t.length = 1048576 - t.length) := szF_pos (by omega)
    have Eb : Hid (szF (1048576 - t.length) l.length = -1) := szF_neg (by omega)
    go_enter Tryd.func4, Tryd.ntmps4
    go_wp2_with fail
    with_reducible refine (szNd t _ _ _ _ Ha.out (by omega) (by omega)).mono ?_
    rintro e w' ⟨rfl, rfl⟩
    rw [Ea.out]
    go_wp2_with fail
    with_reducible refine (szEv l _ _ _ _ Hb.out (by omega) (by omega)).mono ?_
    rintro e w' ⟨rfl, rfl⟩
    rw [Eb.out]
    go_wp2
    go_ret
    exact ⟨rfl, Kept.refl _ _ _⟩

set_option maxHeartbeats 6400000 in
theorem lawErr_small (t : List Nd) (l : List Ev) (n : Int) (v u : Value) (a0 a1 : Addr) (w : World) (hs : Sen w a0 a1) (ha : RdNd w w.heap.size v t) (hb : RdEv w w.heap.size u l) (hn : t.length + l.length ≤ 1048576) :
    Calls Tryd.prog 6 #[v, u, .int .i64 n] w fun e w' => e = .returned (.bool true) ∧ Kept 0 0 w w' := by
  have Ha := Lib.hid ha
  have Hb := Lib.hid hb
  have HS := Lib.hid hs
  have han : t.length ≤ 1048576 := by omega
  have hbn : l.length ≤ 1048576 := by omega
  clear ha hb hs
  have Ea : Hid (szF (1048576) t.length = 1048576 - t.length) := szF_pos (by omega)
  have Eb : Hid (szF (1048576 - t.length) l.length = 1048576 - t.length - l.length) := szF_pos (by omega)
  go_enter Tryd.func6, Tryd.ntmps6
  go_wp2_with fail
  with_reducible refine (szNd t _ _ _ _ (Ha.out.up (Kept.refl 0 0 w)) (by omega) (by omega)).mono ?_
  rintro e w' ⟨rfl, rfl⟩
  rw [Ea.out]
  go_wp2_with fail
  with_reducible refine (szEv l _ _ _ _ (Hb.out.up (Kept.refl 0 0 w)) (by omega) (by omega)).mono ?_
  rintro e w' ⟨rfl, rfl⟩
  rw [Eb.out]
  go_wp2_with fail
  with_reducible refine (toNd t v _ (Ha.out.up (Kept.refl 0 0 w)) han).mono ?_
  rintro e w1 ⟨us, rfl, ho, hk⟩
  have Os := Lib.hid ho
  have K1 := Lib.hid ((Kept.refl 0 0 w).trans hk)
  have z1 := hk.size
  clear hk ho
  go_wp2_with fail
  with_reducible refine (toEv l u _ (Hb.out.up K1.out) hbn).mono ?_
  rintro e w2 ⟨ur, rfl, ho, hk⟩
  have Ps := Lib.hid (Os.out.kept hk (.inl (Nat.le_refl _)))
  clear Os
  have Os := Ps
  clear Ps
  have Or := Lib.hid ho
  have K2 := Lib.hid (K1.out.trans hk)
  have z2 := hk.size
  clear hk ho K1
  go_wp2_with fail
  with_reducible refine (err6_any t l n _ _ _ (Os.out.rdW (by omega)) (Or.out.rdW (by omega))).mono ?_
  rintro e w3 ⟨rfl, hk⟩
  have Ps := Lib.hid (Os.out.kept hk (.inl (Nat.le_refl _)))
  have Pr := Lib.hid (Or.out.kept hk (.inl (Nat.le_refl _)))
  clear Os
  have Os := Ps
  clear Ps
  clear Or
  have Or := Pr
  clear Pr
  have K3 := Lib.hid (K2.out.trans hk)
  have z3 := hk.size
  clear hk K2
  clear Os
  clear Or
  go_wp2_with fail
  with_reducible refine (toNd t v _ (Ha.out.up K3.out) han).mono ?_
  rintro e w4 ⟨ux, rfl, ho, hk⟩
  have Ox := Lib.hid ho
  have K4 := Lib.hid (K3.out.trans hk)
  have z4 := hk.size
  clear hk ho K3
  go_wp2_with fail
  with_reducible refine (toEv l u _ (Hb.out.up K4.out) hbn).mono ?_
  rintro e w5 ⟨uy, rfl, ho, hk⟩
  have Px := Lib.hid (Ox.out.kept hk (.inl (Nat.le_refl _)))
  clear Ox
  have Ox := Px
  clear Px
  have Oy := Lib.hid ho
  have K5 := Lib.hid (K4.out.trans hk)
  have z5 := hk.size
  clear hk ho K4
  go_wp2_with fail
  with_reducible refine (implErr t l n _ _ a0 a1 _ (HS.out.kept K5.out) (Ox.out.rdW (by omega)) (Oy.out.rdW (by omega))).mono ?_
  rintro e w6 ⟨rfl, hk⟩
  have Px := Lib.hid (Ox.out.kept hk (.inl (Nat.le_refl _)))
  have Py := Lib.hid (Oy.out.kept hk (.inl (Nat.le_refl _)))
  clear Ox
  have Ox := Px
  clear Px
  clear Oy
  have Oy := Py
  clear Py
  have K6 := Lib.hid (K5.out.trans hk)
  have z6 := hk.size
  clear hk K5
  obtain ⟨bb, hbb⟩ : ∃ bb, bb = errI t l n := ⟨_, rfl⟩
  rw [← hbb]
  clear hbb
  have q1 : (bb != bb) = false := by simp
  have q2 : (bb == bb) = true := by simp
  go_wp2_with fail
  with_reducible refine (toNd t v _ (Ha.out.up K6.out) han).mono ?_
  rintro e w7 ⟨up, rfl, ho, hk⟩
  have Px := Lib.hid (Ox.out.kept hk (.inl (Nat.le_refl _)))
  have Py := Lib.hid (Oy.out.kept hk (.inl (Nat.le_refl _)))
  clear Ox
  have Ox := Px
  clear Px
  clear Oy
  have Oy := Py
  clear Py
  have Op := Lib.hid ho
  have K7 := Lib.hid (K6.out.trans hk)
  have z7 := hk.size
  clear hk ho K6
  go_wp2_with fail
  with_reducible refine (eqNd (t) _ _ _ (Ox.out.rdW (by omega)) (Op.out.rdW (by omega))).mono ?_
  rintro e w8 ⟨rfl, hk⟩
  have Px := Lib.hid (Ox.out.kept hk (.inl (Nat.le_refl _)))
  have Py := Lib.hid (Oy.out.kept hk (.inl (Nat.le_refl _)))
  have Pp := Lib.hid (Op.out.kept hk (.inl (Nat.le_refl _)))
  clear Ox
  have Ox := Px
  clear Px
  clear Oy
  have Oy := Py
  clear Py
  clear Op
  have Op := Pp
  clear Pp
  have K8 := Lib.hid (K7.out.trans hk)
  have z8 := hk.size
  clear hk K7
  clear Op
  go_wp2_with fail
  with_reducible refine (toEv l u _ (Hb.out.up K8.out) hbn).mono ?_
  rintro e w9 ⟨uq, rfl, ho, hk⟩
  have Px := Lib.hid (Ox.out.kept hk (.inl (Nat.le_refl _)))
  have Py := Lib.hid (Oy.out.kept hk (.inl (Nat.le_refl _)))
  clear Ox
  have Ox := Px
  clear Px
  clear Oy
  have Oy := Py
  clear Py
  have Oq := Lib.hid ho
  have K9 := Lib.hid (K8.out.trans hk)
  have z9 := hk.size
  clear hk ho K8
  go_wp2_with fail
  with_reducible refine (eqEv (l) _ _ _ (Oy.out.rdW (by omega)) (Oq.out.rdW (by omega))).mono ?_
  rintro e w10 ⟨rfl, hk⟩
  have Px := Lib.hid (Ox.out.kept hk (.inl (Nat.le_refl _)))
  have Py := Lib.hid (Oy.out.kept hk (.inl (Nat.le_refl _)))
  have Pq := Lib.hid (Oq.out.kept hk (.inl (Nat.le_refl _)))
  clear Ox
  have Ox := Px
  clear Px
  clear Oy
  have Oy := Py
  clear Py
  clear Oq
  have Oq := Pq
  clear Pq
  have K10 := Lib.hid (K9.out.trans hk)
  have z10 := hk.size
  clear hk K9
  clear Oq
  go_wp2
  go_ret
  exact ⟨rfl, K10.out⟩
set_option maxHeartbeats 800000 in
theorem lawErr (t : List Nd) (l : List Ev) (n : Int) (v u : Value) (a0 a1 : Addr) (w : World) (hs : Sen w a0 a1) (ha : RdNd w w.heap.size v t) (hb : RdEv w w.heap.size u l) :
    Calls Tryd.prog 6 #[v, u, .int .i64 n] w fun e w' => e = .returned (.bool true) ∧ Kept 0 0 w w' := by
  rcases Nat.lt_or_ge 1048576 (t.length + l.length) with hl | hl
  case inr => exact lawErr_small t l n v u a0 a1 w hs ha hb hl
  have Ha := Lib.hid ha
  have Hb := Lib.hid hb
  clear hs ha hb
  rcases Nat.lt_or_ge 1048576 t.length with ht | ht
  · have Ea : Hid (szF 1048576 t.length = -1) := szF_neg (by omega)
    go_enter Tryd.func6, Tryd.ntmps6
    go_wp2_with fail
    with_reducible refine (szNd t _ _ _ _ Ha.out (by omega) (by omega)).mono ?_
    rintro e w' ⟨rfl, rfl⟩
    rw [Ea.out]
    go_wp2
    go_ret
    exact ⟨rfl, Kept.refl _ _ _⟩
  · have Ea : Hid (szF (1048576) t.length = 1048576 - t.length) := szF_pos (by omega)
    have Eb : Hid (szF (1048576 - t.length) l.length = -1) := szF_neg (by omega)
    go_enter Tryd.func6, Tryd.ntmps6
    go_wp2_with fail
    with_reducible refine (szNd t _ _ _ _ Ha.out (by omega) (by omega)).mono ?_
    rintro e w' ⟨rfl, rfl⟩
    rw [Ea.out]
    go_wp2_with fail
    with_reducible refine (szEv l _ _ _ _ Hb.out (by omega) (by omega)).mono ?_
    rintro e w' ⟨rfl, rfl⟩
    rw [Eb.out]
    go_wp2
    go_ret
    exact ⟨rfl, Kept.refl _ _ _⟩

set_option maxHeartbeats 6400000 in
theorem lawDone_small (t : List Nd) (l : List Ev) (v u : Value) (a0 a1 : Addr) (w : World) (hs : Sen w a0 a1) (ha : RdNd w w.heap.size v t) (hb : RdEv w w.heap.size u l) (hn : t.length + l.length ≤ 1048576) :
    Calls Tryd.prog 9 #[v, u] w fun e w' => e = .returned (.bool true) ∧ Kept 0 0 w w' := by
  have Ha := Lib.hid ha
  have Hb := Lib.hid hb
  have HS := Lib.hid hs
  have han : t.length ≤ 1048576 := by omega
  have hbn : l.length ≤ 1048576 := by omega
  clear ha hb hs
  have Ea : Hid (szF (1048576) t.length = 1048576 - t.length) := szF_pos (by omega)
  have Eb : Hid (szF (1048576 - t.length) l.length = 1048576 - t.length - l.length) := szF_pos (by omega)
  go_enter Tryd.func9, Tryd.ntmps9
  go_wp2_with fail
  with_reducible refine (szNd t _ _ _ _ (Ha.out.up (Kept.refl 0 0 w)) (by omega) (by omega)).mono ?_
  rintro e w' ⟨rfl, rfl⟩
  rw [Ea.out]
  go_wp2_with fail
  with_reducible refine (szEv l _ _ _ _ (Hb.out.up (Kept.refl 0 0 w)) (by omega) (by omega)).mono ?_
  rintro e w' ⟨rfl, rfl⟩
  rw [Eb.out]
  go_wp2_with fail
  with_reducible refine (toNd t v _ (Ha.out.up (Kept.refl 0 0 w)) han).mono ?_
  rintro e w1 ⟨us, rfl, ho, hk⟩
  have Os := Lib.hid ho
  have K1 := Lib.hid ((Kept.refl 0 0 w).trans hk)
  have z1 := hk.size
  clear hk ho
  go_wp2_with fail
  with_reducible refine (toEv l u _ (Hb.out.up K1.out) hbn).mono ?_
  rintro e w2 ⟨ur, rfl, ho, hk⟩
  have Ps := Lib.hid (Os.out.kept hk (.inl (Nat.le_refl _)))
  clear Os
  have Os := Ps
  clear Ps
  have Or := Lib.hid ho
  have K2 := Lib.hid (K1.out.trans hk)
  have z2 := hk.size
  clear hk ho K1
  obtain ⟨zs, hzs⟩ : ∃ zs, zs = doneL t l := ⟨_, rfl⟩
  have gl : zs.length ≤ 60 := by rw [hzs]; exact doneL_len _ _
  have HZ := Lib.hid hzs.symm
  clear hzs
  go_wp2_with fail
  have CN := Lib.hid (done6_any t l _ _ w2 (Os.out.rdW (by omega)) (Or.out.rdW (by omega)))
  rw [HZ.out] at CN
  with_reducible refine CN.out.mono ?_
  rintro e w3 ⟨uW, rfl, ho, hk⟩
  have Ps := Lib.hid (Os.out.kept hk (.inl (Nat.le_refl _)))
  have Pr := Lib.hid (Or.out.kept hk (.inl (Nat.le_refl _)))
  clear Os
  have Os := Ps
  clear Ps
  clear Or
  have Or := Pr
  clear Pr
  have OW := Lib.hid ho
  have K3 := Lib.hid (K2.out.trans hk)
  have z3 := hk.size
  clear hk CN ho K2
  clear Os
  clear Or
  go_wp2_with fail
  with_reducible refine (toNd t v _ (Ha.out.up K3.out) han).mono ?_
  rintro e w4 ⟨ux, rfl, ho, hk⟩
  have PW := Lib.hid (OW.out.kept hk (.inl (Nat.le_refl _)))
  clear OW
  have OW := PW
  clear PW
  have Ox := Lib.hid ho
  have K4 := Lib.hid (K3.out.trans hk)
  have z4 := hk.size
  clear hk ho K3
  go_wp2_with fail
  with_reducible refine (toEv l u _ (Hb.out.up K4.out) hbn).mono ?_
  rintro e w5 ⟨uy, rfl, ho, hk⟩
  have PW := Lib.hid (OW.out.kept hk (.inl (Nat.le_refl _)))
  have Px := Lib.hid (Ox.out.kept hk (.inl (Nat.le_refl _)))
  clear OW
  have OW := PW
  clear PW
  clear Ox
  have Ox := Px
  clear Px
  have Oy := Lib.hid ho
  have K5 := Lib.hid (K4.out.trans hk)
  have z5 := hk.size
  clear hk ho K4
  go_wp2_with fail
  have CN := Lib.hid (implDone t l _ _ a0 a1 w5 (HS.out.kept K5.out) (Ox.out.rdW (by omega)) (Oy.out.rdW (by omega)))
  rw [HZ.out] at CN
  with_reducible refine CN.out.mono ?_
  rintro e w6 ⟨uG, rfl, ho, hk⟩
  have PW := Lib.hid (OW.out.kept hk (.inl (Nat.le_refl _)))
  have Px := Lib.hid (Ox.out.kept hk (.inl (Nat.le_refl _)))
  have Py := Lib.hid (Oy.out.kept hk (.inl (Nat.le_refl _)))
  clear OW
  have OW := PW
  clear PW
  clear Ox
  have Ox := Px
  clear Px
  clear Oy
  have Oy := Py
  clear Py
  have OG := Lib.hid ho
  have K6 := Lib.hid (K5.out.trans hk)
  have z6 := hk.size
  clear hk CN ho K5
  go_wp2_with fail
  with_reducible refine (eqI (zs) _ _ _ (OG.out.rdW (by omega)) (OW.out.rdW (by omega))).mono ?_
  rintro e w7 ⟨rfl, hk⟩
  have PW := Lib.hid (OW.out.kept hk (.inl (Nat.le_refl _)))
  have Px := Lib.hid (Ox.out.kept hk (.inl (Nat.le_refl _)))
  have Py := Lib.hid (Oy.out.kept hk (.inl (Nat.le_refl _)))
  have PG := Lib.hid (OG.out.kept hk (.inl (Nat.le_refl _)))
  clear OW
  have OW := PW
  clear PW
  clear Ox
  have Ox := Px
  clear Px
  clear Oy
  have Oy := Py
  clear Py
  clear OG
  have OG := PG
  clear PG
  have K7 := Lib.hid (K6.out.trans hk)
  have z7 := hk.size
  clear hk K6
  go_wp2_with fail
  with_reducible refine (toNd t v _ (Ha.out.up K7.out) han).mono ?_
  rintro e w8 ⟨up, rfl, ho, hk⟩
  have PW := Lib.hid (OW.out.kept hk (.inl (Nat.le_refl _)))
  have Px := Lib.hid (Ox.out.kept hk (.inl (Nat.le_refl _)))
  have Py := Lib.hid (Oy.out.kept hk (.inl (Nat.le_refl _)))
  have PG := Lib.hid (OG.out.kept hk (.inl (Nat.le_refl _)))
  clear OW
  have OW := PW
  clear PW
  clear Ox
  have Ox := Px
  clear Px
  clear Oy
  have Oy := Py
  clear Py
  clear OG
  have OG := PG
  clear PG
  have Op := Lib.hid ho
  have K8 := Lib.hid (K7.out.trans hk)
  have z8 := hk.size
  clear hk ho K7
  go_wp2_with fail
  with_reducible refine (eqNd (t) _ _ _ (Ox.out.rdW (by omega)) (Op.out.rdW (by omega))).mono ?_
  rintro e w9 ⟨rfl, hk⟩
  have PW := Lib.hid (OW.out.kept hk (.inl (Nat.le_refl _)))
  have Px := Lib.hid (Ox.out.kept hk (.inl (Nat.le_refl _)))
  have Py := Lib.hid (Oy.out.kept hk (.inl (Nat.le_refl _)))
  have PG := Lib.hid (OG.out.kept hk (.inl (Nat.le_refl _)))
  have Pp := Lib.hid (Op.out.kept hk (.inl (Nat.le_refl _)))
  clear OW
  have OW := PW
  clear PW
  clear Ox
  have Ox := Px
  clear Px
  clear Oy
  have Oy := Py
  clear Py
  clear OG
  have OG := PG
  clear PG
  clear Op
  have Op := Pp
  clear Pp
  have K9 := Lib.hid (K8.out.trans hk)
  have z9 := hk.size
  clear hk K8
  clear Op
  go_wp2_with fail
  with_reducible refine (toEv l u _ (Hb.out.up K9.out) hbn).mono ?_
  rintro e w10 ⟨uq, rfl, ho, hk⟩
  have PW := Lib.hid (OW.out.kept hk (.inl (Nat.le_refl _)))
  have Px := Lib.hid (Ox.out.kept hk (.inl (Nat.le_refl _)))
  have Py := Lib.hid (Oy.out.kept hk (.inl (Nat.le_refl _)))
  have PG := Lib.hid (OG.out.kept hk (.inl (Nat.le_refl _)))
  clear OW
  have OW := PW
  clear PW
  clear Ox
  have Ox := Px
  clear Px
  clear Oy
  have Oy := Py
  clear Py
  clear OG
  have OG := PG
  clear PG
  have Oq := Lib.hid ho
  have K10 := Lib.hid (K9.out.trans hk)
  have z10 := hk.size
  clear hk ho K9
  go_wp2_with fail
  with_reducible refine (eqEv (l) _ _ _ (Oy.out.rdW (by omega)) (Oq.out.rdW (by omega))).mono ?_
  rintro e w11 ⟨rfl, hk⟩
  have PW := Lib.hid (OW.out.kept hk (.inl (Nat.le_refl _)))
  have Px := Lib.hid (Ox.out.kept hk (.inl (Nat.le_refl _)))
  have Py := Lib.hid (Oy.out.kept hk (.inl (Nat.le_refl _)))
  have PG := Lib.hid (OG.out.kept hk (.inl (Nat.le_refl _)))
  have Pq := Lib.hid (Oq.out.kept hk (.inl (Nat.le_refl _)))
  clear OW
  have OW := PW
  clear PW
  clear Ox
  have Ox := Px
  clear Px
  clear Oy
  have Oy := Py
  clear Py
  clear OG
  have OG := PG
  clear PG
  clear Oq
  have Oq := Pq
  clear Pq
  have K11 := Lib.hid (K10.out.trans hk)
  have z11 := hk.size
  clear hk K10
  clear Oq
  go_wp2_with fail
  with_reducible refine (markNd (1) (t) _ w3.heap.size w4.heap.size _ Ox.out (by omega) (by omega) (by omega)).mono ?_
  rintro e w12 ⟨rfl, ho, hk⟩
  have PW := Lib.hid (OW.out.kept hk (by omega))
  have Py := Lib.hid (Oy.out.kept hk (by omega))
  have PG := Lib.hid (OG.out.kept hk (by omega))
  clear OW
  have OW := PW
  clear PW
  clear Oy
  have Oy := Py
  clear Py
  clear OG
  have OG := PG
  clear PG
  clear Ox
  have Ox := Lib.hid ho
  have K12 := Lib.hid (K11.out.trans2 hk (.inr (by omega)))
  have z12 := hk.size
  clear hk ho K11
  go_wp2_with fail
  with_reducible refine (markEv (1 + 5 * (t.length : Int)) (l) _ w4.heap.size w5.heap.size _ Oy.out (by omega) (by omega) (by omega)).mono ?_
  rintro e w13 ⟨rfl, ho, hk⟩
  have PW := Lib.hid (OW.out.kept hk (by omega))
  have Px := Lib.hid (Ox.out.kept hk (by omega))
  have PG := Lib.hid (OG.out.kept hk (by omega))
  clear OW
  have OW := PW
  clear PW
  clear Ox
  have Ox := Px
  clear Px
  clear OG
  have OG := PG
  clear PG
  clear Oy
  have Oy := Lib.hid ho
  have K13 := Lib.hid (K12.out.trans2 hk (.inr (by omega)))
  have z13 := hk.size
  clear hk ho K12
  have kp : 0 ≤ 1 + 5 * (t.length : Int) + 4 * (l.length : Int) := by omega
  go_wp2_with fail
  with_reducible refine (eqI (zs) _ _ _ (OG.out.rdW (by omega)) (OW.out.rdW (by omega))).mono ?_
  rintro e w14 ⟨rfl, hk⟩
  have PW := Lib.hid (OW.out.kept hk (.inl (Nat.le_refl _)))
  have Px := Lib.hid (Ox.out.kept hk (.inl (Nat.le_refl _)))
  have Py := Lib.hid (Oy.out.kept hk (.inl (Nat.le_refl _)))
  have PG := Lib.hid (OG.out.kept hk (.inl (Nat.le_refl _)))
  clear OW
  have OW := PW
  clear PW
  clear Ox
  have Ox := Px
  clear Px
  clear Oy
  have Oy := Py
  clear Py
  clear OG
  have OG := PG
  clear PG
  have K14 := Lib.hid (K13.out.trans hk)
  have z14 := hk.size
  clear hk K13
  go_wp2_with fail
  with_reducible refine (markI (1) (zs) _ w5.heap.size w6.heap.size _ OG.out (by omega) (by omega) (by omega)).mono ?_
  rintro e w15 ⟨rfl, ho, hk⟩
  have PW := Lib.hid (OW.out.kept hk (by omega))
  have Px := Lib.hid (Ox.out.kept hk (by omega))
  have Py := Lib.hid (Oy.out.kept hk (by omega))
  clear OW
  have OW := PW
  clear PW
  clear Ox
  have Ox := Px
  clear Px
  clear Oy
  have Oy := Py
  clear Py
  clear OG
  have OG := Lib.hid ho
  have K15 := Lib.hid (K14.out.trans2 hk (.inr (by omega)))
  have z15 := hk.size
  clear hk ho K14
  have kq : 0 ≤ 1 + (zs.length : Int) := by omega
  go_wp2_with fail
  with_reducible refine (heldI (1) (zs.length) _ _ _ (OG.out.rdW (by omega)) (by omega) (by omega) (by omega)).mono ?_
  rintro e w' ⟨rfl, rfl⟩
  clear Ox
  clear Oy
  go_wp2_with fail
  with_reducible refine (toNd t v _ (Ha.out.up K15.out) han).mono ?_
  rintro e w16 ⟨ut, rfl, ho, hk⟩
  have PW := Lib.hid (OW.out.kept hk (.inl (Nat.le_refl _)))
  have PG := Lib.hid (OG.out.kept hk (.inl (Nat.le_refl _)))
  clear OW
  have OW := PW
  clear PW
  clear OG
  have OG := PG
  clear PG
  have Ot := Lib.hid ho
  have K16 := Lib.hid (K15.out.trans hk)
  have z16 := hk.size
  clear hk ho K15
  go_wp2_with fail
  with_reducible refine (toEv l u _ (Hb.out.up K16.out) hbn).mono ?_
  rintro e w17 ⟨uz, rfl, ho, hk⟩
  have PW := Lib.hid (OW.out.kept hk (.inl (Nat.le_refl _)))
  have PG := Lib.hid (OG.out.kept hk (.inl (Nat.le_refl _)))
  have Pt := Lib.hid (Ot.out.kept hk (.inl (Nat.le_refl _)))
  clear OW
  have OW := PW
  clear PW
  clear OG
  have OG := PG
  clear PG
  clear Ot
  have Ot := Pt
  clear Pt
  have Oz := Lib.hid ho
  have K17 := Lib.hid (K16.out.trans hk)
  have z17 := hk.size
  clear hk ho K16
  go_wp2_with fail
  have CN := Lib.hid (implDone t l _ _ a0 a1 w17 (HS.out.kept K17.out) (Ot.out.rdW (by omega)) (Oz.out.rdW (by omega)))
  rw [HZ.out] at CN
  with_reducible refine CN.out.mono ?_
  rintro e w18 ⟨uQ, rfl, ho, hk⟩
  have PW := Lib.hid (OW.out.kept hk (.inl (Nat.le_refl _)))
  have PG := Lib.hid (OG.out.kept hk (.inl (Nat.le_refl _)))
  have Pt := Lib.hid (Ot.out.kept hk (.inl (Nat.le_refl _)))
  have Pz := Lib.hid (Oz.out.kept hk (.inl (Nat.le_refl _)))
  clear OW
  have OW := PW
  clear PW
  clear OG
  have OG := PG
  clear PG
  clear Ot
  have Ot := Pt
  clear Pt
  clear Oz
  have Oz := Pz
  clear Pz
  have OQ := Lib.hid ho
  have K18 := Lib.hid (K17.out.trans hk)
  have z18 := hk.size
  clear hk CN ho K17
  go_wp2_with fail
  with_reducible refine (eqI (zs) _ _ _ (OQ.out.rdW (by omega)) (OW.out.rdW (by omega))).mono ?_
  rintro e w19 ⟨rfl, hk⟩
  have PW := Lib.hid (OW.out.kept hk (.inl (Nat.le_refl _)))
  have PG := Lib.hid (OG.out.kept hk (.inl (Nat.le_refl _)))
  have Pt := Lib.hid (Ot.out.kept hk (.inl (Nat.le_refl _)))
  have Pz := Lib.hid (Oz.out.kept hk (.inl (Nat.le_refl _)))
  have PQ := Lib.hid (OQ.out.kept hk (.inl (Nat.le_refl _)))
  clear OW
  have OW := PW
  clear PW
  clear OG
  have OG := PG
  clear PG
  clear Ot
  have Ot := Pt
  clear Pt
  clear Oz
  have Oz := Pz
  clear Pz
  clear OQ
  have OQ := PQ
  clear PQ
  have K19 := Lib.hid (K18.out.trans hk)
  have z19 := hk.size
  clear hk K18
  go_wp2_with fail
  with_reducible refine (heldI (1) (zs.length) _ _ _ (OG.out.rdW (by omega)) (by omega) (by omega) (by omega)).mono ?_
  rintro e w' ⟨rfl, rfl⟩
  go_wp2
  go_ret
  exact ⟨rfl, K19.out⟩
set_option maxHeartbeats 800000 in
theorem lawDone (t : List Nd) (l : List Ev) (v u : Value) (a0 a1 : Addr) (w : World) (hs : Sen w a0 a1) (ha : RdNd w w.heap.size v t) (hb : RdEv w w.heap.size u l) :
    Calls Tryd.prog 9 #[v, u] w fun e w' => e = .returned (.bool true) ∧ Kept 0 0 w w' := by
  rcases Nat.lt_or_ge 1048576 (t.length + l.length) with hl | hl
  case inr => exact lawDone_small t l v u a0 a1 w hs ha hb hl
  have Ha := Lib.hid ha
  have Hb := Lib.hid hb
  clear hs ha hb
  rcases Nat.lt_or_ge 1048576 t.length with ht | ht
  · have Ea : Hid (szF 1048576 t.length = -1) := szF_neg (by omega)
    go_enter Tryd.func9, Tryd.ntmps9
    go_wp2_with fail
    with_reducible refine (szNd t _ _ _ _ Ha.out (by omega) (by omega)).mono ?_
    rintro e w' ⟨rfl, rfl⟩
    rw [Ea.out]
    go_wp2
    go_ret
    exact ⟨rfl, Kept.refl _ _ _⟩
  · have Ea : Hid (szF (1048576) t.length = 1048576 - t.length) := szF_pos (by omega)
    have Eb : Hid (szF (1048576 - t.length) l.length = -1) := szF_neg (by omega)
    go_enter Tryd.func9, Tryd.ntmps9
    go_wp2_with fail
    with_reducible refine (szNd t _ _ _ _ Ha.out (by omega) (by omega)).mono ?_
    rintro e w' ⟨rfl, rfl⟩
    rw [Ea.out]
    go_wp2_with fail
    with_reducible refine (szEv l _ _ _ _ Hb.out (by omega) (by omega)).mono ?_
    rintro e w' ⟨rfl, rfl⟩
    rw [Eb.out]
    go_wp2
    go_ret
    exact ⟨rfl, Kept.refl _ _ _⟩
end Go.Proofs.YtgahjachkeoflaaDoor
