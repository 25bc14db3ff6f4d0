/- The exact laws of TasksOk, ParkedOn, ReadyIn and Woken return true for every slice that can be read; condition: the program's function returns the plain function of the list, in new memory (Does..). -/
import Derived.Test.YtfpnpjpcjbndoaaId
namespace Go.Proofs.Ytfpnpjpcjbndoaa
open Go.RowKit Go.Sort

def DoesTasksOk : Prop := ∀ (t : List Tk) (v : Value) (w : World), RdTk w w.heap.size v t → Calls Try.prog 12 #[v] w fun e w' => e = .returned (.bool (tasksB t)) ∧ Kept 0 0 w w'
def DoesParkedOn : Prop := ∀ (t : List Tk) (y h : Int) (v : Value) (w : World), RdTk w w.heap.size v t → Calls Try.prog 13 #[v, .int .i64 y, .int .i64 h] w fun e w' => ∃ u, e = .returned u ∧ OwnI w' w.heap.size w'.heap.size u (parkedL t y h) ∧ Kept 0 0 w w'
def DoesReadyIn : Prop := ∀ (t : List Tk) (v : Value) (w : World), RdTk w w.heap.size v t → Calls Try.prog 16 #[v] w fun e w' => ∃ u, e = .returned u ∧ OwnI w' w.heap.size w'.heap.size u (readyL t) ∧ Kept 0 0 w w'
def DoesWoken : Prop := ∀ (t : List Tk) (y h r : Int) (v : Value) (w : World), RdTk w w.heap.size v t → Calls Try.prog 11 #[v, .int .i64 y, .int .i64 h, .int .i64 r] w fun e w' => ∃ u, e = .returned u ∧ OwnTk w' w.heap.size w'.heap.size u (wokenL t y h r) ∧ Kept 0 0 w w'
set_option maxHeartbeats 3200000 in
theorem lawTasksOk_small (hI : DoesTasksOk) (t : List Tk) (v : Value) (w : World) (ha : RdTk w w.heap.size v t) (hn : t.length ≤ 1048576) :
    Calls Try.prog 4 #[v] w fun e w' => e = .returned (.bool true) ∧ Kept 0 0 w w' := by
  have Ha := Lib.hid ha
  have han : t.length ≤ 1048576 := by omega
  unfold DoesTasksOk at hI
  have HI := Lib.hid hI
  clear hI ha
  have Ea : Hid (szF (1048576) t.length = 1048576 - t.length) := szF_pos (by omega)
  go_enter Try.func4, Try.ntmps4
  go_wp2_with fail
  with_reducible refine (szTk t _ _ _ _ Ha.out (by omega) (by omega)).mono ?_
  rintro e w' ⟨rfl, rfl⟩
  rw [Ea.out]
  go_wp2_with fail
  with_reducible refine (toTk t v _ (Ha.out.up (Kept.refl 0 0 w)) han).mono ?_
  rintro e w1 ⟨us, rfl, ho, hk⟩
  have Os := Lib.hid ho
  have K1 := Lib.hid ((Kept.refl 0 0 w).trans hk)
  have z1 := hk.size
  clear hk ho
  go_wp2_with fail
  with_reducible refine (tasks11_any t _ _ (Os.out.rdW (by omega))).mono ?_
  rintro e w2 ⟨rfl, hk⟩
  have Ps := Lib.hid (Os.out.kept hk (.inl (Nat.le_refl _)))
  clear Os
  have Os := Ps
  clear Ps
  have K2 := Lib.hid (K1.out.trans hk)
  have z2 := hk.size
  clear hk K1
  clear Os
  go_wp2_with fail
  with_reducible refine (toTk t v _ (Ha.out.up K2.out) han).mono ?_
  rintro e w3 ⟨ux, rfl, ho, hk⟩
  have Ox := Lib.hid ho
  have K3 := Lib.hid (K2.out.trans hk)
  have z3 := hk.size
  clear hk ho K2
  go_wp2_with fail
  with_reducible refine (HI.out t _ _ (Ox.out.rdW (by omega))).mono ?_
  rintro e w4 ⟨rfl, hk⟩
  have Px := Lib.hid (Ox.out.kept hk (.inl (Nat.le_refl _)))
  clear Ox
  have Ox := Px
  clear Px
  have K4 := Lib.hid (K3.out.trans hk)
  have z4 := hk.size
  clear hk K3
  obtain ⟨bb, hbb⟩ : ∃ bb, bb = tasksB t := ⟨_, rfl⟩
  rw [← hbb]
  clear hbb
  have q1 : (bb != bb) = false := by simp
  have q2 : (bb == bb) = true := by simp
  go_wp2_with fail
  with_reducible refine (toTk t v _ (Ha.out.up K4.out) han).mono ?_
  rintro e w5 ⟨uy, rfl, ho, hk⟩
  have Px := Lib.hid (Ox.out.kept hk (.inl (Nat.le_refl _)))
  clear Ox
  have Ox := Px
  clear Px
  have Oy := Lib.hid ho
  have K5 := Lib.hid (K4.out.trans hk)
  have z5 := hk.size
  clear hk ho K4
  go_wp2_with fail
  with_reducible refine (eqTk (t) _ _ _ (Ox.out.rdW (by omega)) (Oy.out.rdW (by omega))).mono ?_
  rintro e w6 ⟨rfl, hk⟩
  have Px := Lib.hid (Ox.out.kept hk (.inl (Nat.le_refl _)))
  have Py := Lib.hid (Oy.out.kept hk (.inl (Nat.le_refl _)))
  clear Ox
  have Ox := Px
  clear Px
  clear Oy
  have Oy := Py
  clear Py
  have K6 := Lib.hid (K5.out.trans hk)
  have z6 := hk.size
  clear hk K5
  clear Oy
  go_wp2
  go_ret
  exact ⟨rfl, K6.out⟩
set_option maxHeartbeats 400000 in
theorem lawTasksOk (hI : DoesTasksOk) (t : List Tk) (v : Value) (w : World) (ha : RdTk w w.heap.size v t) :
    Calls Try.prog 4 #[v] w fun e w' => e = .returned (.bool true) ∧ Kept 0 0 w w' := by
  rcases Nat.lt_or_ge 1048576 t.length with hl | hl
  · have Ha := Lib.hid ha
    clear hI ha
    have Ea : Hid (szF 1048576 t.length = -1) := szF_neg (by omega)
    go_enter Try.func4, Try.ntmps4
    go_wp2_with fail
    with_reducible refine (szTk t _ _ _ _ Ha.out (by omega) (by omega)).mono ?_
    rintro e w' ⟨rfl, rfl⟩
    rw [Ea.out]
    go_wp2
    go_ret
    exact ⟨rfl, Kept.refl _ _ _⟩
  · exact lawTasksOk_small hI t v w ha hl

set_option maxHeartbeats 3200000 in
theorem lawParkedOn_small (hI : DoesParkedOn) (t : List Tk) (y h : Int) (v : Value) (w : World) (ha : RdTk w w.heap.size v t) (hn : t.length ≤ 1048576) :
    Calls Try.prog 5 #[v, .int .i64 y, .int .i64 h] w fun e w' => e = .returned (.bool true) ∧ Kept 0 0 w w' := by
  have Ha := Lib.hid ha
  have han : t.length ≤ 1048576 := by omega
  unfold DoesParkedOn at hI
  have HI := Lib.hid hI
  clear hI ha
  have Ea : Hid (szF (1048576) t.length = 1048576 - t.length) := szF_pos (by omega)
  go_enter Try.func5, Try.ntmps5
  go_wp2_with fail
  with_reducible refine (szTk t _ _ _ _ Ha.out (by omega) (by omega)).mono ?_
  rintro e w' ⟨rfl, rfl⟩
  rw [Ea.out]
  go_wp2_with fail
  with_reducible refine (toTk t v _ (Ha.out.up (Kept.refl 0 0 w)) han).mono ?_
  rintro e w1 ⟨us, rfl, ho, hk⟩
  have Os := Lib.hid ho
  have K1 := Lib.hid ((Kept.refl 0 0 w).trans hk)
  have z1 := hk.size
  clear hk ho
  go_wp2_with fail
  with_reducible refine (parked11_any t y h _ _ (Os.out.rdW (by omega))).mono ?_
  rintro e w2 ⟨uW, rfl, ho, hk⟩
  have Ps := Lib.hid (Os.out.kept hk (.inl (Nat.le_refl _)))
  clear Os
  have Os := Ps
  clear Ps
  have OW := Lib.hid ho
  have K2 := Lib.hid (K1.out.trans hk)
  have z2 := hk.size
  clear hk ho K1
  clear Os
  go_wp2_with fail
  with_reducible refine (toTk t v _ (Ha.out.up K2.out) han).mono ?_
  rintro e w3 ⟨ux, rfl, ho, hk⟩
  have PW := Lib.hid (OW.out.kept hk (.inl (Nat.le_refl _)))
  clear OW
  have OW := PW
  clear PW
  have Ox := Lib.hid ho
  have K3 := Lib.hid (K2.out.trans hk)
  have z3 := hk.size
  clear hk ho K2
  go_wp2_with fail
  with_reducible refine (HI.out t y h _ _ (Ox.out.rdW (by omega))).mono ?_
  rintro e w4 ⟨uG, rfl, ho, hk⟩
  have PW := Lib.hid (OW.out.kept hk (.inl (Nat.le_refl _)))
  have Px := Lib.hid (Ox.out.kept hk (.inl (Nat.le_refl _)))
  clear OW
  have OW := PW
  clear PW
  clear Ox
  have Ox := Px
  clear Px
  have OG := Lib.hid ho
  have K4 := Lib.hid (K3.out.trans hk)
  have z4 := hk.size
  clear hk ho K3
  have gl : (parkedL t y h).length ≤ 60 := parkedL_len _ _ _
  obtain ⟨zs, hzs⟩ : ∃ zs, zs = parkedL t y h := ⟨_, rfl⟩
  rw [← hzs] at OW OG gl
  go_wp2_with fail
  with_reducible refine (eqI (zs) _ _ _ (OG.out.rdW (by omega)) (OW.out.rdW (by omega))).mono ?_
  rintro e w5 ⟨rfl, hk⟩
  have PW := Lib.hid (OW.out.kept hk (.inl (Nat.le_refl _)))
  have Px := Lib.hid (Ox.out.kept hk (.inl (Nat.le_refl _)))
  have PG := Lib.hid (OG.out.kept hk (.inl (Nat.le_refl _)))
  clear OW
  have OW := PW
  clear PW
  clear Ox
  have Ox := Px
  clear Px
  clear OG
  have OG := PG
  clear PG
  have K5 := Lib.hid (K4.out.trans hk)
  have z5 := hk.size
  clear hk K4
  go_wp2_with fail
  with_reducible refine (toTk t v _ (Ha.out.up K5.out) han).mono ?_
  rintro e w6 ⟨uy, rfl, ho, hk⟩
  have PW := Lib.hid (OW.out.kept hk (.inl (Nat.le_refl _)))
  have Px := Lib.hid (Ox.out.kept hk (.inl (Nat.le_refl _)))
  have PG := Lib.hid (OG.out.kept hk (.inl (Nat.le_refl _)))
  clear OW
  have OW := PW
  clear PW
  clear Ox
  have Ox := Px
  clear Px
  clear OG
  have OG := PG
  clear PG
  have Oy := Lib.hid ho
  have K6 := Lib.hid (K5.out.trans hk)
  have z6 := hk.size
  clear hk ho K5
  go_wp2_with fail
  with_reducible refine (eqTk (t) _ _ _ (Ox.out.rdW (by omega)) (Oy.out.rdW (by omega))).mono ?_
  rintro e w7 ⟨rfl, hk⟩
  have PW := Lib.hid (OW.out.kept hk (.inl (Nat.le_refl _)))
  have Px := Lib.hid (Ox.out.kept hk (.inl (Nat.le_refl _)))
  have PG := Lib.hid (OG.out.kept hk (.inl (Nat.le_refl _)))
  have Py := Lib.hid (Oy.out.kept hk (.inl (Nat.le_refl _)))
  clear OW
  have OW := PW
  clear PW
  clear Ox
  have Ox := Px
  clear Px
  clear OG
  have OG := PG
  clear PG
  clear Oy
  have Oy := Py
  clear Py
  have K7 := Lib.hid (K6.out.trans hk)
  have z7 := hk.size
  clear hk K6
  clear Oy
  go_wp2_with fail
  with_reducible refine (markTk (1) (t) _ w2.heap.size w3.heap.size _ Ox.out (by omega) (by omega) (by omega)).mono ?_
  rintro e w8 ⟨rfl, ho, hk⟩
  have PW := Lib.hid (OW.out.kept hk (by omega))
  have PG := Lib.hid (OG.out.kept hk (by omega))
  clear OW
  have OW := PW
  clear PW
  clear OG
  have OG := PG
  clear PG
  clear Ox
  have Ox := Lib.hid ho
  have K8 := Lib.hid (K7.out.trans2 hk (.inr (by omega)))
  have z8 := hk.size
  clear hk ho K7
  have kp : 0 ≤ 1 + 9 * (t.length : Int) := by omega
  go_wp2_with fail
  with_reducible refine (eqI (zs) _ _ _ (OG.out.rdW (by omega)) (OW.out.rdW (by omega))).mono ?_
  rintro e w9 ⟨rfl, hk⟩
  have PW := Lib.hid (OW.out.kept hk (.inl (Nat.le_refl _)))
  have Px := Lib.hid (Ox.out.kept hk (.inl (Nat.le_refl _)))
  have PG := Lib.hid (OG.out.kept hk (.inl (Nat.le_refl _)))
  clear OW
  have OW := PW
  clear PW
  clear Ox
  have Ox := Px
  clear Px
  clear OG
  have OG := PG
  clear PG
  have K9 := Lib.hid (K8.out.trans hk)
  have z9 := hk.size
  clear hk K8
  go_wp2_with fail
  with_reducible refine (markI (1) (zs) _ w3.heap.size w4.heap.size _ OG.out (by omega) (by omega) (by omega)).mono ?_
  rintro e w10 ⟨rfl, ho, hk⟩
  have PW := Lib.hid (OW.out.kept hk (by omega))
  have Px := Lib.hid (Ox.out.kept hk (by omega))
  clear OW
  have OW := PW
  clear PW
  clear Ox
  have Ox := Px
  clear Px
  clear OG
  have OG := Lib.hid ho
  have K10 := Lib.hid (K9.out.trans2 hk (.inr (by omega)))
  have z10 := hk.size
  clear hk ho K9
  have kq : 0 ≤ 1 + (zs.length : Int) := by omega
  go_wp2_with fail
  with_reducible refine (heldI (1) (zs.length) _ _ _ (OG.out.rdW (by omega)) (by omega) (by omega) (by omega)).mono ?_
  rintro e w' ⟨rfl, rfl⟩
  clear Ox
  go_wp2_with fail
  with_reducible refine (toTk t v _ (Ha.out.up K10.out) han).mono ?_
  rintro e w11 ⟨ut, rfl, ho, hk⟩
  have PW := Lib.hid (OW.out.kept hk (.inl (Nat.le_refl _)))
  have PG := Lib.hid (OG.out.kept hk (.inl (Nat.le_refl _)))
  clear OW
  have OW := PW
  clear PW
  clear OG
  have OG := PG
  clear PG
  have Ot := Lib.hid ho
  have K11 := Lib.hid (K10.out.trans hk)
  have z11 := hk.size
  clear hk ho K10
  go_wp2_with fail
  with_reducible refine (HI.out t y h _ _ (Ot.out.rdW (by omega))).mono ?_
  rintro e w12 ⟨uQ, rfl, ho, hk⟩
  have PW := Lib.hid (OW.out.kept hk (.inl (Nat.le_refl _)))
  have PG := Lib.hid (OG.out.kept hk (.inl (Nat.le_refl _)))
  have Pt := Lib.hid (Ot.out.kept hk (.inl (Nat.le_refl _)))
  clear OW
  have OW := PW
  clear PW
  clear OG
  have OG := PG
  clear PG
  clear Ot
  have Ot := Pt
  clear Pt
  have OQ := Lib.hid ho
  have K12 := Lib.hid (K11.out.trans hk)
  have z12 := hk.size
  clear hk ho K11
  rw [← hzs] at OQ
  go_wp2_with fail
  with_reducible refine (eqI (zs) _ _ _ (OQ.out.rdW (by omega)) (OW.out.rdW (by omega))).mono ?_
  rintro e w13 ⟨rfl, hk⟩
  have PW := Lib.hid (OW.out.kept hk (.inl (Nat.le_refl _)))
  have PG := Lib.hid (OG.out.kept hk (.inl (Nat.le_refl _)))
  have Pt := Lib.hid (Ot.out.kept hk (.inl (Nat.le_refl _)))
  have PQ := Lib.hid (OQ.out.kept hk (.inl (Nat.le_refl _)))
  clear OW
  have OW := PW
  clear PW
  clear OG
  have OG := PG
  clear PG
  clear Ot
  have Ot := Pt
  clear Pt
  clear OQ
  have OQ := PQ
  clear PQ
  have K13 := Lib.hid (K12.out.trans hk)
  have z13 := hk.size
  clear hk K12
  go_wp2_with fail
  with_reducible refine (heldI (1) (zs.length) _ _ _ (OG.out.rdW (by omega)) (by omega) (by omega) (by omega)).mono ?_
  rintro e w' ⟨rfl, rfl⟩
  go_wp2
  go_ret
  exact ⟨rfl, K13.out⟩
set_option maxHeartbeats 400000 in
theorem lawParkedOn (hI : DoesParkedOn) (t : List Tk) (y h : Int) (v : Value) (w : World) (ha : RdTk w w.heap.size v t) :
    Calls Try.prog 5 #[v, .int .i64 y, .int .i64 h] w fun e w' => e = .returned (.bool true) ∧ Kept 0 0 w w' := by
  rcases Nat.lt_or_ge 1048576 t.length with hl | hl
  · have Ha := Lib.hid ha
    clear hI ha
    have Ea : Hid (szF 1048576 t.length = -1) := szF_neg (by omega)
    go_enter Try.func5, Try.ntmps5
    go_wp2_with fail
    with_reducible refine (szTk t _ _ _ _ Ha.out (by omega) (by omega)).mono ?_
    rintro e w' ⟨rfl, rfl⟩
    rw [Ea.out]
    go_wp2
    go_ret
    exact ⟨rfl, Kept.refl _ _ _⟩
  · exact lawParkedOn_small hI t y h v w ha hl

set_option maxHeartbeats 3200000 in
theorem lawReadyIn_small (hI : DoesReadyIn) (t : List Tk) (v : Value) (w : World) (ha : RdTk w w.heap.size v t) (hn : t.length ≤ 1048576) :
    Calls Try.prog 7 #[v] w fun e w' => e = .returned (.bool true) ∧ Kept 0 0 w w' := by
  have Ha := Lib.hid ha
  have han : t.length ≤ 1048576 := by omega
  unfold DoesReadyIn at hI
  have HI := Lib.hid hI
  clear hI ha
  have Ea : Hid (szF (1048576) t.length = 1048576 - t.length) := szF_pos (by omega)
  go_enter Try.func7, Try.ntmps7
  go_wp2_with fail
  with_reducible refine (szTk t _ _ _ _ Ha.out (by omega) (by omega)).mono ?_
  rintro e w' ⟨rfl, rfl⟩
  rw [Ea.out]
  go_wp2_with fail
  with_reducible refine (toTk t v _ (Ha.out.up (Kept.refl 0 0 w)) han).mono ?_
  rintro e w1 ⟨us, rfl, ho, hk⟩
  have Os := Lib.hid ho
  have K1 := Lib.hid ((Kept.refl 0 0 w).trans hk)
  have z1 := hk.size
  clear hk ho
  go_wp2_with fail
  with_reducible refine (ready11_any t _ _ (Os.out.rdW (by omega))).mono ?_
  rintro e w2 ⟨uW, rfl, ho, hk⟩
  have Ps := Lib.hid (Os.out.kept hk (.inl (Nat.le_refl _)))
  clear Os
  have Os := Ps
  clear Ps
  have OW := Lib.hid ho
  have K2 := Lib.hid (K1.out.trans hk)
  have z2 := hk.size
  clear hk ho K1
  clear Os
  go_wp2_with fail
  with_reducible refine (toTk t v _ (Ha.out.up K2.out) han).mono ?_
  rintro e w3 ⟨ux, rfl, ho, hk⟩
  have PW := Lib.hid (OW.out.kept hk (.inl (Nat.le_refl _)))
  clear OW
  have OW := PW
  clear PW
  have Ox := Lib.hid ho
  have K3 := Lib.hid (K2.out.trans hk)
  have z3 := hk.size
  clear hk ho K2
  go_wp2_with fail
  with_reducible refine (HI.out t _ _ (Ox.out.rdW (by omega))).mono ?_
  rintro e w4 ⟨uG, rfl, ho, hk⟩
  have PW := Lib.hid (OW.out.kept hk (.inl (Nat.le_refl _)))
  have Px := Lib.hid (Ox.out.kept hk (.inl (Nat.le_refl _)))
  clear OW
  have OW := PW
  clear PW
  clear Ox
  have Ox := Px
  clear Px
  have OG := Lib.hid ho
  have K4 := Lib.hid (K3.out.trans hk)
  have z4 := hk.size
  clear hk ho K3
  have gl : (readyL t).length ≤ 60 := readyL_len _
  obtain ⟨zs, hzs⟩ : ∃ zs, zs = readyL t := ⟨_, rfl⟩
  rw [← hzs] at OW OG gl
  go_wp2_with fail
  with_reducible refine (eqI (zs) _ _ _ (OG.out.rdW (by omega)) (OW.out.rdW (by omega))).mono ?_
  rintro e w5 ⟨rfl, hk⟩
  have PW := Lib.hid (OW.out.kept hk (.inl (Nat.le_refl _)))
  have Px := Lib.hid (Ox.out.kept hk (.inl (Nat.le_refl _)))
  have PG := Lib.hid (OG.out.kept hk (.inl (Nat.le_refl _)))
  clear OW
  have OW := PW
  clear PW
  clear Ox
  have Ox := Px
  clear Px
  clear OG
  have OG := PG
  clear PG
  have K5 := Lib.hid (K4.out.trans hk)
  have z5 := hk.size
  clear hk K4
  go_wp2_with fail
  with_reducible refine (toTk t v _ (Ha.out.up K5.out) han).mono ?_
  rintro e w6 ⟨uy, rfl, ho, hk⟩
  have PW := Lib.hid (OW.out.kept hk (.inl (Nat.le_refl _)))
  have Px := Lib.hid (Ox.out.kept hk (.inl (Nat.le_refl _)))
  have PG := Lib.hid (OG.out.kept hk (.inl (Nat.le_refl _)))
  clear OW
  have OW := PW
  clear PW
  clear Ox
  have Ox := Px
  clear Px
  clear OG
  have OG := PG
  clear PG
  have Oy := Lib.hid ho
  have K6 := Lib.hid (K5.out.trans hk)
  have z6 := hk.size
  clear hk ho K5
  go_wp2_with fail
  with_reducible refine (eqTk (t) _ _ _ (Ox.out.rdW (by omega)) (Oy.out.rdW (by omega))).mono ?_
  rintro e w7 ⟨rfl, hk⟩
  have PW := Lib.hid (OW.out.kept hk (.inl (Nat.le_refl _)))
  have Px := Lib.hid (Ox.out.kept hk (.inl (Nat.le_refl _)))
  have PG := Lib.hid (OG.out.kept hk (.inl (Nat.le_refl _)))
  have Py := Lib.hid (Oy.out.kept hk (.inl (Nat.le_refl _)))
  clear OW
  have OW := PW
  clear PW
  clear Ox
  have Ox := Px
  clear Px
  clear OG
  have OG := PG
  clear PG
  clear Oy
  have Oy := Py
  clear Py
  have K7 := Lib.hid (K6.out.trans hk)
  have z7 := hk.size
  clear hk K6
  clear Oy
  go_wp2_with fail
  with_reducible refine (markTk (1) (t) _ w2.heap.size w3.heap.size _ Ox.out (by omega) (by omega) (by omega)).mono ?_
  rintro e w8 ⟨rfl, ho, hk⟩
  have PW := Lib.hid (OW.out.kept hk (by omega))
  have PG := Lib.hid (OG.out.kept hk (by omega))
  clear OW
  have OW := PW
  clear PW
  clear OG
  have OG := PG
  clear PG
  clear Ox
  have Ox := Lib.hid ho
  have K8 := Lib.hid (K7.out.trans2 hk (.inr (by omega)))
  have z8 := hk.size
  clear hk ho K7
  have kp : 0 ≤ 1 + 9 * (t.length : Int) := by omega
  go_wp2_with fail
  with_reducible refine (eqI (zs) _ _ _ (OG.out.rdW (by omega)) (OW.out.rdW (by omega))).mono ?_
  rintro e w9 ⟨rfl, hk⟩
  have PW := Lib.hid (OW.out.kept hk (.inl (Nat.le_refl _)))
  have Px := Lib.hid (Ox.out.kept hk (.inl (Nat.le_refl _)))
  have PG := Lib.hid (OG.out.kept hk (.inl (Nat.le_refl _)))
  clear OW
  have OW := PW
  clear PW
  clear Ox
  have Ox := Px
  clear Px
  clear OG
  have OG := PG
  clear PG
  have K9 := Lib.hid (K8.out.trans hk)
  have z9 := hk.size
  clear hk K8
  go_wp2_with fail
  with_reducible refine (markI (1) (zs) _ w3.heap.size w4.heap.size _ OG.out (by omega) (by omega) (by omega)).mono ?_
  rintro e w10 ⟨rfl, ho, hk⟩
  have PW := Lib.hid (OW.out.kept hk (by omega))
  have Px := Lib.hid (Ox.out.kept hk (by omega))
  clear OW
  have OW := PW
  clear PW
  clear Ox
  have Ox := Px
  clear Px
  clear OG
  have OG := Lib.hid ho
  have K10 := Lib.hid (K9.out.trans2 hk (.inr (by omega)))
  have z10 := hk.size
  clear hk ho K9
  have kq : 0 ≤ 1 + (zs.length : Int) := by omega
  go_wp2_with fail
  with_reducible refine (heldI (1) (zs.length) _ _ _ (OG.out.rdW (by omega)) (by omega) (by omega) (by omega)).mono ?_
  rintro e w' ⟨rfl, rfl⟩
  clear Ox
  go_wp2_with fail
  with_reducible refine (toTk t v _ (Ha.out.up K10.out) han).mono ?_
  rintro e w11 ⟨ut, rfl, ho, hk⟩
  have PW := Lib.hid (OW.out.kept hk (.inl (Nat.le_refl _)))
  have PG := Lib.hid (OG.out.kept hk (.inl (Nat.le_refl _)))
  clear OW
  have OW := PW
  clear PW
  clear OG
  have OG := PG
  clear PG
  have Ot := Lib.hid ho
  have K11 := Lib.hid (K10.out.trans hk)
  have z11 := hk.size
  clear hk ho K10
  go_wp2_with fail
  with_reducible refine (HI.out t _ _ (Ot.out.rdW (by omega))).mono ?_
  rintro e w12 ⟨uQ, rfl, ho, hk⟩
  have PW := Lib.hid (OW.out.kept hk (.inl (Nat.le_refl _)))
  have PG := Lib.hid (OG.out.kept hk (.inl (Nat.le_refl _)))
  have Pt := Lib.hid (Ot.out.kept hk (.inl (Nat.le_refl _)))
  clear OW
  have OW := PW
  clear PW
  clear OG
  have OG := PG
  clear PG
  clear Ot
  have Ot := Pt
  clear Pt
  have OQ := Lib.hid ho
  have K12 := Lib.hid (K11.out.trans hk)
  have z12 := hk.size
  clear hk ho K11
  rw [← hzs] at OQ
  go_wp2_with fail
  with_reducible refine (eqI (zs) _ _ _ (OQ.out.rdW (by omega)) (OW.out.rdW (by omega))).mono ?_
  rintro e w13 ⟨rfl, hk⟩
  have PW := Lib.hid (OW.out.kept hk (.inl (Nat.le_refl _)))
  have PG := Lib.hid (OG.out.kept hk (.inl (Nat.le_refl _)))
  have Pt := Lib.hid (Ot.out.kept hk (.inl (Nat.le_refl _)))
  have PQ := Lib.hid (OQ.out.kept hk (.inl (Nat.le_refl _)))
  clear OW
  have OW := PW
  clear PW
  clear OG
  have OG := PG
  clear PG
  clear Ot
  have Ot := Pt
  clear Pt
  clear OQ
  have OQ := PQ
  clear PQ
  have K13 := Lib.hid (K12.out.trans hk)
  have z13 := hk.size
  clear hk K12
  go_wp2_with fail
  with_reducible refine (heldI (1) (zs.length) _ _ _ (OG.out.rdW (by omega)) (by omega) (by omega) (by omega)).mono ?_
  rintro e w' ⟨rfl, rfl⟩
  go_wp2
  go_ret
  exact ⟨rfl, K13.out⟩
set_option maxHeartbeats 400000 in
theorem lawReadyIn (hI : DoesReadyIn) (t : List Tk) (v : Value) (w : World) (ha : RdTk w w.heap.size v t) :
    Calls Try.prog 7 #[v] w fun e w' => e = .returned (.bool true) ∧ Kept 0 0 w w' := by
  rcases Nat.lt_or_ge 1048576 t.length with hl | hl
  · have Ha := Lib.hid ha
    clear hI ha
    have Ea : Hid (szF 1048576 t.length = -1) := szF_neg (by omega)
    go_enter Try.func7, Try.ntmps7
    go_wp2_with fail
    with_reducible refine (szTk t _ _ _ _ Ha.out (by omega) (by omega)).mono ?_
    rintro e w' ⟨rfl, rfl⟩
    rw [Ea.out]
    go_wp2
    go_ret
    exact ⟨rfl, Kept.refl _ _ _⟩
  · exact lawReadyIn_small hI t v w ha hl

set_option maxHeartbeats 3200000 in
theorem lawWoken_small (hI : DoesWoken) (t : List Tk) (y h r : Int) (v : Value) (w : World) (ha : RdTk w w.heap.size v t) (hn : t.length ≤ 1048576) :
    Calls Try.prog 6 #[v, .int .i64 y, .int .i64 h, .int .i64 r] w fun e w' => e = .returned (.bool true) ∧ Kept 0 0 w w' := by
  have Ha := Lib.hid ha
  have han : t.length ≤ 1048576 := by omega
  unfold DoesWoken at hI
  have HI := Lib.hid hI
  clear hI ha
  have Ea : Hid (szF (1048576) t.length = 1048576 - t.length) := szF_pos (by omega)
  go_enter Try.func6, Try.ntmps6
  go_wp2_with fail
  with_reducible refine (szTk t _ _ _ _ Ha.out (by omega) (by omega)).mono ?_
  rintro e w' ⟨rfl, rfl⟩
  rw [Ea.out]
  go_wp2_with fail
  with_reducible refine (toTk t v _ (Ha.out.up (Kept.refl 0 0 w)) han).mono ?_
  rintro e w1 ⟨us, rfl, ho, hk⟩
  have Os := Lib.hid ho
  have K1 := Lib.hid ((Kept.refl 0 0 w).trans hk)
  have z1 := hk.size
  clear hk ho
  go_wp2_with fail
  with_reducible refine (woken11_any t y h r _ _ (Os.out.rdW (by omega))).mono ?_
  rintro e w2 ⟨uW, rfl, ho, hk⟩
  have Ps := Lib.hid (Os.out.kept hk (.inl (Nat.le_refl _)))
  clear Os
  have Os := Ps
  clear Ps
  have OW := Lib.hid ho
  have K2 := Lib.hid (K1.out.trans hk)
  have z2 := hk.size
  clear hk ho K1
  clear Os
  go_wp2_with fail
  with_reducible refine (toTk t v _ (Ha.out.up K2.out) han).mono ?_
  rintro e w3 ⟨ux, rfl, ho, hk⟩
  have PW := Lib.hid (OW.out.kept hk (.inl (Nat.le_refl _)))
  clear OW
  have OW := PW
  clear PW
  have Ox := Lib.hid ho
  have K3 := Lib.hid (K2.out.trans hk)
  have z3 := hk.size
  clear hk ho K2
  go_wp2_with fail
  with_reducible refine (HI.out t y h r _ _ (Ox.out.rdW (by omega))).mono ?_
  rintro e w4 ⟨uG, rfl, ho, hk⟩
  have PW := Lib.hid (OW.out.kept hk (.inl (Nat.le_refl _)))
  have Px := Lib.hid (Ox.out.kept hk (.inl (Nat.le_refl _)))
  clear OW
  have OW := PW
  clear PW
  clear Ox
  have Ox := Px
  clear Px
  have OG := Lib.hid ho
  have K4 := Lib.hid (K3.out.trans hk)
  have z4 := hk.size
  clear hk ho K3
  have gl : (wokenL t y h r).length ≤ 60 := wokenL_len _ _ _ _
  obtain ⟨zs, hzs⟩ : ∃ zs, zs = wokenL t y h r := ⟨_, rfl⟩
  rw [← hzs] at OW OG gl
  go_wp2_with fail
  with_reducible refine (eqTk (zs) _ _ _ (OG.out.rdW (by omega)) (OW.out.rdW (by omega))).mono ?_
  rintro e w5 ⟨rfl, hk⟩
  have PW := Lib.hid (OW.out.kept hk (.inl (Nat.le_refl _)))
  have Px := Lib.hid (Ox.out.kept hk (.inl (Nat.le_refl _)))
  have PG := Lib.hid (OG.out.kept hk (.inl (Nat.le_refl _)))
  clear OW
  have OW := PW
  clear PW
  clear Ox
  have Ox := Px
  clear Px
  clear OG
  have OG := PG
  clear PG
  have K5 := Lib.hid (K4.out.trans hk)
  have z5 := hk.size
  clear hk K4
  go_wp2_with fail
  with_reducible refine (toTk t v _ (Ha.out.up K5.out) han).mono ?_
  rintro e w6 ⟨uy, rfl, ho, hk⟩
  have PW := Lib.hid (OW.out.kept hk (.inl (Nat.le_refl _)))
  have Px := Lib.hid (Ox.out.kept hk (.inl (Nat.le_refl _)))
  have PG := Lib.hid (OG.out.kept hk (.inl (Nat.le_refl _)))
  clear OW
  have OW := PW
  clear PW
  clear Ox
  have Ox := Px
  clear Px
  clear OG
  have OG := PG
  clear PG
  have Oy := Lib.hid ho
  have K6 := Lib.hid (K5.out.trans hk)
  have z6 := hk.size
  clear hk ho K5
  go_wp2_with fail
  with_reducible refine (eqTk (t) _ _ _ (Ox.out.rdW (by omega)) (Oy.out.rdW (by omega))).mono ?_
  rintro e w7 ⟨rfl, hk⟩
  have PW := Lib.hid (OW.out.kept hk (.inl (Nat.le_refl _)))
  have Px := Lib.hid (Ox.out.kept hk (.inl (Nat.le_refl _)))
  have PG := Lib.hid (OG.out.kept hk (.inl (Nat.le_refl _)))
  have Py := Lib.hid (Oy.out.kept hk (.inl (Nat.le_refl _)))
  clear OW
  have OW := PW
  clear PW
  clear Ox
  have Ox := Px
  clear Px
  clear OG
  have OG := PG
  clear PG
  clear Oy
  have Oy := Py
  clear Py
  have K7 := Lib.hid (K6.out.trans hk)
  have z7 := hk.size
  clear hk K6
  clear Oy
  go_wp2_with fail
  with_reducible refine (markTk (1) (t) _ w2.heap.size w3.heap.size _ Ox.out (by omega) (by omega) (by omega)).mono ?_
  rintro e w8 ⟨rfl, ho, hk⟩
  have PW := Lib.hid (OW.out.kept hk (by omega))
  have PG := Lib.hid (OG.out.kept hk (by omega))
  clear OW
  have OW := PW
  clear PW
  clear OG
  have OG := PG
  clear PG
  clear Ox
  have Ox := Lib.hid ho
  have K8 := Lib.hid (K7.out.trans2 hk (.inr (by omega)))
  have z8 := hk.size
  clear hk ho K7
  have kp : 0 ≤ 1 + 9 * (t.length : Int) := by omega
  go_wp2_with fail
  with_reducible refine (eqTk (zs) _ _ _ (OG.out.rdW (by omega)) (OW.out.rdW (by omega))).mono ?_
  rintro e w9 ⟨rfl, hk⟩
  have PW := Lib.hid (OW.out.kept hk (.inl (Nat.le_refl _)))
  have Px := Lib.hid (Ox.out.kept hk (.inl (Nat.le_refl _)))
  have PG := Lib.hid (OG.out.kept hk (.inl (Nat.le_refl _)))
  clear OW
  have OW := PW
  clear PW
  clear Ox
  have Ox := Px
  clear Px
  clear OG
  have OG := PG
  clear PG
  have K9 := Lib.hid (K8.out.trans hk)
  have z9 := hk.size
  clear hk K8
  go_wp2_with fail
  with_reducible refine (markTk (1) (zs) _ w3.heap.size w4.heap.size _ OG.out (by omega) (by omega) (by omega)).mono ?_
  rintro e w10 ⟨rfl, ho, hk⟩
  have PW := Lib.hid (OW.out.kept hk (by omega))
  have Px := Lib.hid (Ox.out.kept hk (by omega))
  clear OW
  have OW := PW
  clear PW
  clear Ox
  have Ox := Px
  clear Px
  clear OG
  have OG := Lib.hid ho
  have K10 := Lib.hid (K9.out.trans2 hk (.inr (by omega)))
  have z10 := hk.size
  clear hk ho K9
  have kq : 0 ≤ 1 + 9 * (zs.length : Int) := by omega
  go_wp2_with fail
  with_reducible refine (heldTk (1) (zs.length) _ _ _ (OG.out.rdW (by omega)) (by omega) (by omega) (by omega)).mono ?_
  rintro e w' ⟨rfl, rfl⟩
  clear Ox
  go_wp2_with fail
  with_reducible refine (toTk t v _ (Ha.out.up K10.out) han).mono ?_
  rintro e w11 ⟨ut, rfl, ho, hk⟩
  have PW := Lib.hid (OW.out.kept hk (.inl (Nat.le_refl _)))
  have PG := Lib.hid (OG.out.kept hk (.inl (Nat.le_refl _)))
  clear OW
  have OW := PW
  clear PW
  clear OG
  have OG := PG
  clear PG
  have Ot := Lib.hid ho
  have K11 := Lib.hid (K10.out.trans hk)
  have z11 := hk.size
  clear hk ho K10
  go_wp2_with fail
  with_reducible refine (HI.out t y h r _ _ (Ot.out.rdW (by omega))).mono ?_
  rintro e w12 ⟨uQ, rfl, ho, hk⟩
  have PW := Lib.hid (OW.out.kept hk (.inl (Nat.le_refl _)))
  have PG := Lib.hid (OG.out.kept hk (.inl (Nat.le_refl _)))
  have Pt := Lib.hid (Ot.out.kept hk (.inl (Nat.le_refl _)))
  clear OW
  have OW := PW
  clear PW
  clear OG
  have OG := PG
  clear PG
  clear Ot
  have Ot := Pt
  clear Pt
  have OQ := Lib.hid ho
  have K12 := Lib.hid (K11.out.trans hk)
  have z12 := hk.size
  clear hk ho K11
  rw [← hzs] at OQ
  go_wp2_with fail
  with_reducible refine (eqTk (zs) _ _ _ (OQ.out.rdW (by omega)) (OW.out.rdW (by omega))).mono ?_
  rintro e w13 ⟨rfl, hk⟩
  have PW := Lib.hid (OW.out.kept hk (.inl (Nat.le_refl _)))
  have PG := Lib.hid (OG.out.kept hk (.inl (Nat.le_refl _)))
  have Pt := Lib.hid (Ot.out.kept hk (.inl (Nat.le_refl _)))
  have PQ := Lib.hid (OQ.out.kept hk (.inl (Nat.le_refl _)))
  clear OW
  have OW := PW
  clear PW
  clear OG
  have OG := PG
  clear PG
  clear Ot
  have Ot := Pt
  clear Pt
  clear OQ
  have OQ := PQ
  clear PQ
  have K13 := Lib.hid (K12.out.trans hk)
  have z13 := hk.size
  clear hk K12
  go_wp2_with fail
  with_reducible refine (heldTk (1) (zs.length) _ _ _ (OG.out.rdW (by omega)) (by omega) (by omega) (by omega)).mono ?_
  rintro e w' ⟨rfl, rfl⟩
  go_wp2
  go_ret
  exact ⟨rfl, K13.out⟩
set_option maxHeartbeats 400000 in
theorem lawWoken (hI : DoesWoken) (t : List Tk) (y h r : Int) (v : Value) (w : World) (ha : RdTk w w.heap.size v t) :
    Calls Try.prog 6 #[v, .int .i64 y, .int .i64 h, .int .i64 r] w fun e w' => e = .returned (.bool true) ∧ Kept 0 0 w w' := by
  rcases Nat.lt_or_ge 1048576 t.length with hl | hl
  · have Ha := Lib.hid ha
    clear hI ha
    have Ea : Hid (szF 1048576 t.length = -1) := szF_neg (by omega)
    go_enter Try.func6, Try.ntmps6
    go_wp2_with fail
    with_reducible refine (szTk t _ _ _ _ Ha.out (by omega) (by omega)).mono ?_
    rintro e w' ⟨rfl, rfl⟩
    rw [Ea.out]
    go_wp2
    go_ret
    exact ⟨rfl, Kept.refl _ _ _⟩
  · exact lawWoken_small hI t y h r v w ha hl
end Go.Proofs.Ytfpnpjpcjbndoaa
