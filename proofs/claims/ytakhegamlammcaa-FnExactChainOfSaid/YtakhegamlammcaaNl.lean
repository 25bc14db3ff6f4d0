/- The exact laws of TreeOk, ChildrenOf, ChainOf, ValueIn and DueOf return true for every slice that can be read; condition: the program's function returns the plain function of the list, in new memory. -/
import Derived.Test.YtakhegamlammcaaNv
namespace Go.Proofs.Ytakhegamlammcaa
open Go.RowKit Go.Sort

def DoesNB (f : FuncId) (g : List Nd → Bool) : Prop := ∀ (t : List Nd) (v : Value) (w : World), RdNd w w.heap.size v t → Calls Try.prog f #[v] w fun e w' => e = .returned (.bool (g t)) ∧ Kept 0 0 w w'
theorem DoesNB.at_ {f : FuncId} {g : List Nd → Bool} (h : DoesNB f g) (t : List Nd) (v : Value) (w : World) (hr : RdNd w w.heap.size v t) : Calls Try.prog f #[v] w fun e w' => e = .returned (.bool (g t)) ∧ Kept 0 0 w w' := h t v w hr
def DoesC (f : FuncId) (g : List Nd → Int → List Int) : Prop := ∀ (t : List Nd) (n : Int) (v : Value) (w : World), RdNd w w.heap.size v t → Calls Try.prog f #[v, .int .i64 n] w fun e w' => ∃ u, e = .returned u ∧ OwnI w' w.heap.size w'.heap.size u (g t n) ∧ Kept 0 0 w w'
theorem DoesC.at_ {f : FuncId} {g : List Nd → Int → List Int} (h : DoesC f g) (t : List Nd) (n : Int) (v : Value) (w : World) (hr : RdNd w w.heap.size v t) : Calls Try.prog f #[v, .int .i64 n] w fun e w' => ∃ u, e = .returned u ∧ OwnI w' w.heap.size w'.heap.size u (g t n) ∧ Kept 0 0 w w' := h t n v w hr
def DoesNI (f : FuncId) (g : List Nd → Int → Int) : Prop := ∀ (t : List Nd) (n : Int) (v : Value) (w : World), RdNd w w.heap.size v t → Calls Try.prog f #[v, .int .i64 n] w fun e w' => e = .returned (.int .i64 (g t n)) ∧ Kept 0 0 w w'
theorem DoesNI.at_ {f : FuncId} {g : List Nd → Int → Int} (h : DoesNI f g) (t : List Nd) (n : Int) (v : Value) (w : World) (hr : RdNd w w.heap.size v t) : Calls Try.prog f #[v, .int .i64 n] w fun e w' => e = .returned (.int .i64 (g t n)) ∧ Kept 0 0 w w' := h t n v w hr
def DoesV (f : FuncId) (g : List Nd → Int → Int → Int) (b : List Nd → Int → Int → Bool) : Prop := ∀ (t : List Nd) (n key : Int) (v : Value) (w : World), RdNd w w.heap.size v t → Calls Try.prog f #[v, .int .i64 n, .int .i64 key] w fun e w' => e = .returned (.tuple #[.int .i64 (g t n key), .bool (b t n key)]) ∧ Kept 0 0 w w'
theorem DoesV.at_ {f : FuncId} {g : List Nd → Int → Int → Int} {b : List Nd → Int → Int → Bool} (h : DoesV f g b) (t : List Nd) (n key : Int) (v : Value) (w : World) (hr : RdNd w w.heap.size v t) : Calls Try.prog f #[v, .int .i64 n, .int .i64 key] w fun e w' => e = .returned (.tuple #[.int .i64 (g t n key), .bool (b t n key)]) ∧ Kept 0 0 w w' := h t n key v w hr
theorem specTreeOk : DoesNB 14 treeB := tree5_any
theorem specKids : DoesC 30 kidsL := kids5_any
theorem specChain : DoesC 34 chainL := chain5_any
theorem specDue : DoesNI 35 dueI := due5_any
theorem specVal : DoesV 20 valI valB := val5_any
set_option maxHeartbeats 3200000 in
theorem lawTreeOk_small (hI : DoesNB 22 treeB) (t : List Nd) (v : Value) (w : World) (ha : RdNd w w.heap.size v t) (hn : t.length ≤ 1048576) :
    Calls Try.prog 5 #[v] w fun e w' => e = .returned (.bool true) ∧ Kept 0 0 w w' := by
  have Ha := Lib.hid ha
  have han : t.length ≤ 1048576 := by omega
  have HI := Lib.hid hI
  clear hI ha
  have Ea : Hid (szF (1048576) t.length = 1048576 - t.length) := szF_pos (by omega)
  go_enter Try.func5, Try.ntmps5
  go_wp2_with fail
  with_reducible refine (szNd t _ _ _ _ Ha.out (by omega) (by omega)).mono ?_
  rintro e w' ⟨rfl, rfl⟩
  rw [Ea.out]
  go_wp2_with fail
  with_reducible refine (toNd t v _ (Ha.out.up (Kept.refl 0 0 w)) han).mono ?_
  rintro e w1 ⟨us, rfl, ho, hk⟩
  have Os := Lib.hid ho
  have K1 := Lib.hid ((Kept.refl 0 0 w).trans hk)
  have z1 := hk.size
  clear hk ho
  go_wp2_with fail
  with_reducible refine (specTreeOk.at_ t _ _ (Os.out.rdW (by omega))).mono ?_
  rintro e w2 ⟨rfl, hk⟩
  have Ps := Lib.hid (Os.out.kept hk (.inl (Nat.le_refl _)))
  clear Os
  have Os := Ps
  clear Ps
  have K2 := Lib.hid (K1.out.trans hk)
  have z2 := hk.size
  clear hk K1
  clear Os
  go_wp2_with fail
  with_reducible refine (toNd t v _ (Ha.out.up K2.out) han).mono ?_
  rintro e w3 ⟨ux, rfl, ho, hk⟩
  have Ox := Lib.hid ho
  have K3 := Lib.hid (K2.out.trans hk)
  have z3 := hk.size
  clear hk ho K2
  go_wp2_with fail
  with_reducible refine (HI.out.at_ t _ _ (Ox.out.rdW (by omega))).mono ?_
  rintro e w4 ⟨rfl, hk⟩
  have Px := Lib.hid (Ox.out.kept hk (.inl (Nat.le_refl _)))
  clear Ox
  have Ox := Px
  clear Px
  have K4 := Lib.hid (K3.out.trans hk)
  have z4 := hk.size
  clear hk K3
  obtain ⟨bb, hbb⟩ : ∃ bb, bb = treeB t := ⟨_, rfl⟩
  rw [← hbb]
  clear hbb
  have q1 : (bb != bb) = false := by simp
  have q2 : (bb == bb) = true := by simp
  go_wp2_with fail
  with_reducible refine (toNd t v _ (Ha.out.up K4.out) han).mono ?_
  rintro e w5 ⟨uy, rfl, ho, hk⟩
  have Px := Lib.hid (Ox.out.kept hk (.inl (Nat.le_refl _)))
  clear Ox
  have Ox := Px
  clear Px
  have Oy := Lib.hid ho
  have K5 := Lib.hid (K4.out.trans hk)
  have z5 := hk.size
  clear hk ho K4
  go_wp2_with fail
  with_reducible refine (eqNd (t) _ _ _ (Ox.out.rdW (by omega)) (Oy.out.rdW (by omega))).mono ?_
  rintro e w6 ⟨rfl, hk⟩
  have Px := Lib.hid (Ox.out.kept hk (.inl (Nat.le_refl _)))
  have Py := Lib.hid (Oy.out.kept hk (.inl (Nat.le_refl _)))
  clear Ox
  have Ox := Px
  clear Px
  clear Oy
  have Oy := Py
  clear Py
  have K6 := Lib.hid (K5.out.trans hk)
  have z6 := hk.size
  clear hk K5
  clear Oy
  go_wp2
  go_ret
  exact ⟨rfl, K6.out⟩
set_option maxHeartbeats 400000 in
theorem lawTreeOk (hI : DoesNB 22 treeB) (t : List Nd) (v : Value) (w : World) (ha : RdNd w w.heap.size v t) :
    Calls Try.prog 5 #[v] w fun e w' => e = .returned (.bool true) ∧ Kept 0 0 w w' := by
  rcases Nat.lt_or_ge 1048576 t.length with hl | hl
  · have Ha := Lib.hid ha
    clear hI ha
    have Ea : Hid (szF 1048576 t.length = -1) := szF_neg (by omega)
    go_enter Try.func5, Try.ntmps5
    go_wp2_with fail
    with_reducible refine (szNd t _ _ _ _ Ha.out (by omega) (by omega)).mono ?_
    rintro e w' ⟨rfl, rfl⟩
    rw [Ea.out]
    go_wp2
    go_ret
    exact ⟨rfl, Kept.refl _ _ _⟩
  · exact lawTreeOk_small hI t v w ha hl

set_option maxHeartbeats 3200000 in
theorem lawKids_small (hI : DoesC 17 kidsL) (t : List Nd) (n : Int) (v : Value) (w : World) (ha : RdNd w w.heap.size v t) (hn : t.length ≤ 1048576) :
    Calls Try.prog 7 #[v, .int .i64 n] w fun e w' => e = .returned (.bool true) ∧ Kept 0 0 w w' := by
  have Ha := Lib.hid ha
  have han : t.length ≤ 1048576 := by omega
  have HI := Lib.hid hI
  clear hI ha
  have Ea : Hid (szF (1048576) t.length = 1048576 - t.length) := szF_pos (by omega)
  go_enter Try.func7, Try.ntmps7
  go_wp2_with fail
  with_reducible refine (szNd t _ _ _ _ Ha.out (by omega) (by omega)).mono ?_
  rintro e w' ⟨rfl, rfl⟩
  rw [Ea.out]
  go_wp2_with fail
  with_reducible refine (toNd t v _ (Ha.out.up (Kept.refl 0 0 w)) han).mono ?_
  rintro e w1 ⟨us, rfl, ho, hk⟩
  have Os := Lib.hid ho
  have K1 := Lib.hid ((Kept.refl 0 0 w).trans hk)
  have z1 := hk.size
  clear hk ho
  go_wp2_with fail
  with_reducible refine (specKids.at_ t n _ _ (Os.out.rdW (by omega))).mono ?_
  rintro e w2 ⟨uW, rfl, ho, hk⟩
  have Ps := Lib.hid (Os.out.kept hk (.inl (Nat.le_refl _)))
  clear Os
  have Os := Ps
  clear Ps
  have OW := Lib.hid ho
  have K2 := Lib.hid (K1.out.trans hk)
  have z2 := hk.size
  clear hk ho K1
  clear Os
  go_wp2_with fail
  with_reducible refine (toNd t v _ (Ha.out.up K2.out) han).mono ?_
  rintro e w3 ⟨ux, rfl, ho, hk⟩
  have PW := Lib.hid (OW.out.kept hk (.inl (Nat.le_refl _)))
  clear OW
  have OW := PW
  clear PW
  have Ox := Lib.hid ho
  have K3 := Lib.hid (K2.out.trans hk)
  have z3 := hk.size
  clear hk ho K2
  go_wp2_with fail
  with_reducible refine (HI.out.at_ t n _ _ (Ox.out.rdW (by omega))).mono ?_
  rintro e w4 ⟨uG, rfl, ho, hk⟩
  have PW := Lib.hid (OW.out.kept hk (.inl (Nat.le_refl _)))
  have Px := Lib.hid (Ox.out.kept hk (.inl (Nat.le_refl _)))
  clear OW
  have OW := PW
  clear PW
  clear Ox
  have Ox := Px
  clear Px
  have OG := Lib.hid ho
  have K4 := Lib.hid (K3.out.trans hk)
  have z4 := hk.size
  clear hk ho K3
  have gl : (kidsL t n).length ≤ 60 := kidsL_len _ _
  obtain ⟨zs, hzs⟩ : ∃ zs, zs = kidsL t n := ⟨_, rfl⟩
  rw [← hzs] at OW OG gl
  go_wp2_with fail
  with_reducible refine (eqI (zs) _ _ _ (OG.out.rdW (by omega)) (OW.out.rdW (by omega))).mono ?_
  rintro e w5 ⟨rfl, hk⟩
  have PW := Lib.hid (OW.out.kept hk (.inl (Nat.le_refl _)))
  have Px := Lib.hid (Ox.out.kept hk (.inl (Nat.le_refl _)))
  have PG := Lib.hid (OG.out.kept hk (.inl (Nat.le_refl _)))
  clear OW
  have OW := PW
  clear PW
  clear Ox
  have Ox := Px
  clear Px
  clear OG
  have OG := PG
  clear PG
  have K5 := Lib.hid (K4.out.trans hk)
  have z5 := hk.size
  clear hk K4
  go_wp2_with fail
  with_reducible refine (toNd t v _ (Ha.out.up K5.out) han).mono ?_
  rintro e w6 ⟨uy, rfl, ho, hk⟩
  have PW := Lib.hid (OW.out.kept hk (.inl (Nat.le_refl _)))
  have Px := Lib.hid (Ox.out.kept hk (.inl (Nat.le_refl _)))
  have PG := Lib.hid (OG.out.kept hk (.inl (Nat.le_refl _)))
  clear OW
  have OW := PW
  clear PW
  clear Ox
  have Ox := Px
  clear Px
  clear OG
  have OG := PG
  clear PG
  have Oy := Lib.hid ho
  have K6 := Lib.hid (K5.out.trans hk)
  have z6 := hk.size
  clear hk ho K5
  go_wp2_with fail
  with_reducible refine (eqNd (t) _ _ _ (Ox.out.rdW (by omega)) (Oy.out.rdW (by omega))).mono ?_
  rintro e w7 ⟨rfl, hk⟩
  have PW := Lib.hid (OW.out.kept hk (.inl (Nat.le_refl _)))
  have Px := Lib.hid (Ox.out.kept hk (.inl (Nat.le_refl _)))
  have PG := Lib.hid (OG.out.kept hk (.inl (Nat.le_refl _)))
  have Py := Lib.hid (Oy.out.kept hk (.inl (Nat.le_refl _)))
  clear OW
  have OW := PW
  clear PW
  clear Ox
  have Ox := Px
  clear Px
  clear OG
  have OG := PG
  clear PG
  clear Oy
  have Oy := Py
  clear Py
  have K7 := Lib.hid (K6.out.trans hk)
  have z7 := hk.size
  clear hk K6
  clear Oy
  go_wp2_with fail
  with_reducible refine (markNd (1) (t) _ w2.heap.size w3.heap.size _ Ox.out (by omega) (by omega) (by omega)).mono ?_
  rintro e w8 ⟨rfl, ho, hk⟩
  have PW := Lib.hid (OW.out.kept hk (by omega))
  have PG := Lib.hid (OG.out.kept hk (by omega))
  clear OW
  have OW := PW
  clear PW
  clear OG
  have OG := PG
  clear PG
  clear Ox
  have Ox := Lib.hid ho
  have K8 := Lib.hid (K7.out.trans2 hk (.inr (by omega)))
  have z8 := hk.size
  clear hk ho K7
  have kp : 0 ≤ 1 + 5 * (t.length : Int) := by omega
  go_wp2_with fail
  with_reducible refine (eqI (zs) _ _ _ (OG.out.rdW (by omega)) (OW.out.rdW (by omega))).mono ?_
  rintro e w9 ⟨rfl, hk⟩
  have PW := Lib.hid (OW.out.kept hk (.inl (Nat.le_refl _)))
  have Px := Lib.hid (Ox.out.kept hk (.inl (Nat.le_refl _)))
  have PG := Lib.hid (OG.out.kept hk (.inl (Nat.le_refl _)))
  clear OW
  have OW := PW
  clear PW
  clear Ox
  have Ox := Px
  clear Px
  clear OG
  have OG := PG
  clear PG
  have K9 := Lib.hid (K8.out.trans hk)
  have z9 := hk.size
  clear hk K8
  go_wp2_with fail
  with_reducible refine (markI (1) (zs) _ w3.heap.size w4.heap.size _ OG.out (by omega) (by omega) (by omega)).mono ?_
  rintro e w10 ⟨rfl, ho, hk⟩
  have PW := Lib.hid (OW.out.kept hk (by omega))
  have Px := Lib.hid (Ox.out.kept hk (by omega))
  clear OW
  have OW := PW
  clear PW
  clear Ox
  have Ox := Px
  clear Px
  clear OG
  have OG := Lib.hid ho
  have K10 := Lib.hid (K9.out.trans2 hk (.inr (by omega)))
  have z10 := hk.size
  clear hk ho K9
  have kq : 0 ≤ 1 + (zs.length : Int) := by omega
  go_wp2_with fail
  with_reducible refine (heldI (1) (zs.length) _ _ _ (OG.out.rdW (by omega)) (by omega) (by omega) (by omega)).mono ?_
  rintro e w' ⟨rfl, rfl⟩
  clear Ox
  go_wp2_with fail
  with_reducible refine (toNd t v _ (Ha.out.up K10.out) han).mono ?_
  rintro e w11 ⟨ut, rfl, ho, hk⟩
  have PW := Lib.hid (OW.out.kept hk (.inl (Nat.le_refl _)))
  have PG := Lib.hid (OG.out.kept hk (.inl (Nat.le_refl _)))
  clear OW
  have OW := PW
  clear PW
  clear OG
  have OG := PG
  clear PG
  have Ot := Lib.hid ho
  have K11 := Lib.hid (K10.out.trans hk)
  have z11 := hk.size
  clear hk ho K10
  go_wp2_with fail
  with_reducible refine (HI.out.at_ t n _ _ (Ot.out.rdW (by omega))).mono ?_
  rintro e w12 ⟨uQ, rfl, ho, hk⟩
  have PW := Lib.hid (OW.out.kept hk (.inl (Nat.le_refl _)))
  have PG := Lib.hid (OG.out.kept hk (.inl (Nat.le_refl _)))
  have Pt := Lib.hid (Ot.out.kept hk (.inl (Nat.le_refl _)))
  clear OW
  have OW := PW
  clear PW
  clear OG
  have OG := PG
  clear PG
  clear Ot
  have Ot := Pt
  clear Pt
  have OQ := Lib.hid ho
  have K12 := Lib.hid (K11.out.trans hk)
  have z12 := hk.size
  clear hk ho K11
  rw [← hzs] at OQ
  go_wp2_with fail
  with_reducible refine (eqI (zs) _ _ _ (OQ.out.rdW (by omega)) (OW.out.rdW (by omega))).mono ?_
  rintro e w13 ⟨rfl, hk⟩
  have PW := Lib.hid (OW.out.kept hk (.inl (Nat.le_refl _)))
  have PG := Lib.hid (OG.out.kept hk (.inl (Nat.le_refl _)))
  have Pt := Lib.hid (Ot.out.kept hk (.inl (Nat.le_refl _)))
  have PQ := Lib.hid (OQ.out.kept hk (.inl (Nat.le_refl _)))
  clear OW
  have OW := PW
  clear PW
  clear OG
  have OG := PG
  clear PG
  clear Ot
  have Ot := Pt
  clear Pt
  clear OQ
  have OQ := PQ
  clear PQ
  have K13 := Lib.hid (K12.out.trans hk)
  have z13 := hk.size
  clear hk K12
  go_wp2_with fail
  with_reducible refine (heldI (1) (zs.length) _ _ _ (OG.out.rdW (by omega)) (by omega) (by omega) (by omega)).mono ?_
  rintro e w' ⟨rfl, rfl⟩
  go_wp2
  go_ret
  exact ⟨rfl, K13.out⟩
set_option maxHeartbeats 400000 in
theorem lawKids (hI : DoesC 17 kidsL) (t : List Nd) (n : Int) (v : Value) (w : World) (ha : RdNd w w.heap.size v t) :
    Calls Try.prog 7 #[v, .int .i64 n] w fun e w' => e = .returned (.bool true) ∧ Kept 0 0 w w' := by
  rcases Nat.lt_or_ge 1048576 t.length with hl | hl
  · have Ha := Lib.hid ha
    clear hI ha
    have Ea : Hid (szF 1048576 t.length = -1) := szF_neg (by omega)
    go_enter Try.func7, Try.ntmps7
    go_wp2_with fail
    with_reducible refine (szNd t _ _ _ _ Ha.out (by omega) (by omega)).mono ?_
    rintro e w' ⟨rfl, rfl⟩
    rw [Ea.out]
    go_wp2
    go_ret
    exact ⟨rfl, Kept.refl _ _ _⟩
  · exact lawKids_small hI t n v w ha hl

set_option maxHeartbeats 3200000 in
theorem lawChain_small (hI : DoesC 13 chainL) (t : List Nd) (n : Int) (v : Value) (w : World) (ha : RdNd w w.heap.size v t) (hn : t.length ≤ 1048576) :
    Calls Try.prog 8 #[v, .int .i64 n] w fun e w' => e = .returned (.bool true) ∧ Kept 0 0 w w' := by
  have Ha := Lib.hid ha
  have han : t.length ≤ 1048576 := by omega
  have HI := Lib.hid hI
  clear hI ha
  have Ea : Hid (szF (1048576) t.length = 1048576 - t.length) := szF_pos (by omega)
  go_enter Try.func8, Try.ntmps8
  go_wp2_with fail
  with_reducible refine (szNd t _ _ _ _ Ha.out (by omega) (by omega)).mono ?_
  rintro e w' ⟨rfl, rfl⟩
  rw [Ea.out]
  go_wp2_with fail
  with_reducible refine (toNd t v _ (Ha.out.up (Kept.refl 0 0 w)) han).mono ?_
  rintro e w1 ⟨us, rfl, ho, hk⟩
  have Os := Lib.hid ho
  have K1 := Lib.hid ((Kept.refl 0 0 w).trans hk)
  have z1 := hk.size
  clear hk ho
  go_wp2_with fail
  with_reducible refine (specChain.at_ t n _ _ (Os.out.rdW (by omega))).mono ?_
  rintro e w2 ⟨uW, rfl, ho, hk⟩
  have Ps := Lib.hid (Os.out.kept hk (.inl (Nat.le_refl _)))
  clear Os
  have Os := Ps
  clear Ps
  have OW := Lib.hid ho
  have K2 := Lib.hid (K1.out.trans hk)
  have z2 := hk.size
  clear hk ho K1
  clear Os
  go_wp2_with fail
  with_reducible refine (toNd t v _ (Ha.out.up K2.out) han).mono ?_
  rintro e w3 ⟨ux, rfl, ho, hk⟩
  have PW := Lib.hid (OW.out.kept hk (.inl (Nat.le_refl _)))
  clear OW
  have OW := PW
  clear PW
  have Ox := Lib.hid ho
  have K3 := Lib.hid (K2.out.trans hk)
  have z3 := hk.size
  clear hk ho K2
  go_wp2_with fail
  with_reducible refine (HI.out.at_ t n _ _ (Ox.out.rdW (by omega))).mono ?_
  rintro e w4 ⟨uG, rfl, ho, hk⟩
  have PW := Lib.hid (OW.out.kept hk (.inl (Nat.le_refl _)))
  have Px := Lib.hid (Ox.out.kept hk (.inl (Nat.le_refl _)))
  clear OW
  have OW := PW
  clear PW
  clear Ox
  have Ox := Px
  clear Px
  have OG := Lib.hid ho
  have K4 := Lib.hid (K3.out.trans hk)
  have z4 := hk.size
  clear hk ho K3
  have gl : (chainL t n).length ≤ 60 := chainL_len _ _
  obtain ⟨zs, hzs⟩ : ∃ zs, zs = chainL t n := ⟨_, rfl⟩
  rw [← hzs] at OW OG gl
  go_wp2_with fail
  with_reducible refine (eqI (zs) _ _ _ (OG.out.rdW (by omega)) (OW.out.rdW (by omega))).mono ?_
  rintro e w5 ⟨rfl, hk⟩
  have PW := Lib.hid (OW.out.kept hk (.inl (Nat.le_refl _)))
  have Px := Lib.hid (Ox.out.kept hk (.inl (Nat.le_refl _)))
  have PG := Lib.hid (OG.out.kept hk (.inl (Nat.le_refl _)))
  clear OW
  have OW := PW
  clear PW
  clear Ox
  have Ox := Px
  clear Px
  clear OG
  have OG := PG
  clear PG
  have K5 := Lib.hid (K4.out.trans hk)
  have z5 := hk.size
  clear hk K4
  go_wp2_with fail
  with_reducible refine (toNd t v _ (Ha.out.up K5.out) han).mono ?_
  rintro e w6 ⟨uy, rfl, ho, hk⟩
  have PW := Lib.hid (OW.out.kept hk (.inl (Nat.le_refl _)))
  have Px := Lib.hid (Ox.out.kept hk (.inl (Nat.le_refl _)))
  have PG := Lib.hid (OG.out.kept hk (.inl (Nat.le_refl _)))
  clear OW
  have OW := PW
  clear PW
  clear Ox
  have Ox := Px
  clear Px
  clear OG
  have OG := PG
  clear PG
  have Oy := Lib.hid ho
  have K6 := Lib.hid (K5.out.trans hk)
  have z6 := hk.size
  clear hk ho K5
  go_wp2_with fail
  with_reducible refine (eqNd (t) _ _ _ (Ox.out.rdW (by omega)) (Oy.out.rdW (by omega))).mono ?_
  rintro e w7 ⟨rfl, hk⟩
  have PW := Lib.hid (OW.out.kept hk (.inl (Nat.le_refl _)))
  have Px := Lib.hid (Ox.out.kept hk (.inl (Nat.le_refl _)))
  have PG := Lib.hid (OG.out.kept hk (.inl (Nat.le_refl _)))
  have Py := Lib.hid (Oy.out.kept hk (.inl (Nat.le_refl _)))
  clear OW
  have OW := PW
  clear PW
  clear Ox
  have Ox := Px
  clear Px
  clear OG
  have OG := PG
  clear PG
  clear Oy
  have Oy := Py
  clear Py
  have K7 := Lib.hid (K6.out.trans hk)
  have z7 := hk.size
  clear hk K6
  clear Oy
  go_wp2_with fail
  with_reducible refine (markNd (1) (t) _ w2.heap.size w3.heap.size _ Ox.out (by omega) (by omega) (by omega)).mono ?_
  rintro e w8 ⟨rfl, ho, hk⟩
  have PW := Lib.hid (OW.out.kept hk (by omega))
  have PG := Lib.hid (OG.out.kept hk (by omega))
  clear OW
  have OW := PW
  clear PW
  clear OG
  have OG := PG
  clear PG
  clear Ox
  have Ox := Lib.hid ho
  have K8 := Lib.hid (K7.out.trans2 hk (.inr (by omega)))
  have z8 := hk.size
  clear hk ho K7
  have kp : 0 ≤ 1 + 5 * (t.length : Int) := by omega
  go_wp2_with fail
  with_reducible refine (eqI (zs) _ _ _ (OG.out.rdW (by omega)) (OW.out.rdW (by omega))).mono ?_
  rintro e w9 ⟨rfl, hk⟩
  have PW := Lib.hid (OW.out.kept hk (.inl (Nat.le_refl _)))
  have Px := Lib.hid (Ox.out.kept hk (.inl (Nat.le_refl _)))
  have PG := Lib.hid (OG.out.kept hk (.inl (Nat.le_refl _)))
  clear OW
  have OW := PW
  clear PW
  clear Ox
  have Ox := Px
  clear Px
  clear OG
  have OG := PG
  clear PG
  have K9 := Lib.hid (K8.out.trans hk)
  have z9 := hk.size
  clear hk K8
  go_wp2_with fail
  with_reducible refine (markI (1) (zs) _ w3.heap.size w4.heap.size _ OG.out (by omega) (by omega) (by omega)).mono ?_
  rintro e w10 ⟨rfl, ho, hk⟩
  have PW := Lib.hid (OW.out.kept hk (by omega))
  have Px := Lib.hid (Ox.out.kept hk (by omega))
  clear OW
  have OW := PW
  clear PW
  clear Ox
  have Ox := Px
  clear Px
  clear OG
  have OG := Lib.hid ho
  have K10 := Lib.hid (K9.out.trans2 hk (.inr (by omega)))
  have z10 := hk.size
  clear hk ho K9
  have kq : 0 ≤ 1 + (zs.length : Int) := by omega
  go_wp2_with fail
  with_reducible refine (heldI (1) (zs.length) _ _ _ (OG.out.rdW (by omega)) (by omega) (by omega) (by omega)).mono ?_
  rintro e w' ⟨rfl, rfl⟩
  clear Ox
  go_wp2_with fail
  with_reducible refine (toNd t v _ (Ha.out.up K10.out) han).mono ?_
  rintro e w11 ⟨ut, rfl, ho, hk⟩
  have PW := Lib.hid (OW.out.kept hk (.inl (Nat.le_refl _)))
  have PG := Lib.hid (OG.out.kept hk (.inl (Nat.le_refl _)))
  clear OW
  have OW := PW
  clear PW
  clear OG
  have OG := PG
  clear PG
  have Ot := Lib.hid ho
  have K11 := Lib.hid (K10.out.trans hk)
  have z11 := hk.size
  clear hk ho K10
  go_wp2_with fail
  with_reducible refine (HI.out.at_ t n _ _ (Ot.out.rdW (by omega))).mono ?_
  rintro e w12 ⟨uQ, rfl, ho, hk⟩
  have PW := Lib.hid (OW.out.kept hk (.inl (Nat.le_refl _)))
  have PG := Lib.hid (OG.out.kept hk (.inl (Nat.le_refl _)))
  have Pt := Lib.hid (Ot.out.kept hk (.inl (Nat.le_refl _)))
  clear OW
  have OW := PW
  clear PW
  clear OG
  have OG := PG
  clear PG
  clear Ot
  have Ot := Pt
  clear Pt
  have OQ := Lib.hid ho
  have K12 := Lib.hid (K11.out.trans hk)
  have z12 := hk.size
  clear hk ho K11
  rw [← hzs] at OQ
  go_wp2_with fail
  with_reducible refine (eqI (zs) _ _ _ (OQ.out.rdW (by omega)) (OW.out.rdW (by omega))).mono ?_
  rintro e w13 ⟨rfl, hk⟩
  have PW := Lib.hid (OW.out.kept hk (.inl (Nat.le_refl _)))
  have PG := Lib.hid (OG.out.kept hk (.inl (Nat.le_refl _)))
  have Pt := Lib.hid (Ot.out.kept hk (.inl (Nat.le_refl _)))
  have PQ := Lib.hid (OQ.out.kept hk (.inl (Nat.le_refl _)))
  clear OW
  have OW := PW
  clear PW
  clear OG
  have OG := PG
  clear PG
  clear Ot
  have Ot := Pt
  clear Pt
  clear OQ
  have OQ := PQ
  clear PQ
  have K13 := Lib.hid (K12.out.trans hk)
  have z13 := hk.size
  clear hk K12
  go_wp2_with fail
  with_reducible refine (heldI (1) (zs.length) _ _ _ (OG.out.rdW (by omega)) (by omega) (by omega) (by omega)).mono ?_
  rintro e w' ⟨rfl, rfl⟩
  go_wp2
  go_ret
  exact ⟨rfl, K13.out⟩
set_option maxHeartbeats 400000 in
theorem lawChain (hI : DoesC 13 chainL) (t : List Nd) (n : Int) (v : Value) (w : World) (ha : RdNd w w.heap.size v t) :
    Calls Try.prog 8 #[v, .int .i64 n] w fun e w' => e = .returned (.bool true) ∧ Kept 0 0 w w' := by
  rcases Nat.lt_or_ge 1048576 t.length with hl | hl
  · have Ha := Lib.hid ha
    clear hI ha
    have Ea : Hid (szF 1048576 t.length = -1) := szF_neg (by omega)
    go_enter Try.func8, Try.ntmps8
    go_wp2_with fail
    with_reducible refine (szNd t _ _ _ _ Ha.out (by omega) (by omega)).mono ?_
    rintro e w' ⟨rfl, rfl⟩
    rw [Ea.out]
    go_wp2
    go_ret
    exact ⟨rfl, Kept.refl _ _ _⟩
  · exact lawChain_small hI t n v w ha hl

set_option maxHeartbeats 3200000 in
theorem lawDue_small (hI : DoesNI 15 dueI) (t : List Nd) (n : Int) (v : Value) (w : World) (ha : RdNd w w.heap.size v t) (hn : t.length ≤ 1048576) :
    Calls Try.prog 10 #[v, .int .i64 n] w fun e w' => e = .returned (.bool true) ∧ Kept 0 0 w w' := by
  have Ha := Lib.hid ha
  have han : t.length ≤ 1048576 := by omega
  have HI := Lib.hid hI
  clear hI ha
  have Ea : Hid (szF (1048576) t.length = 1048576 - t.length) := szF_pos (by omega)
  go_enter Try.func10, Try.ntmps10
  go_wp2_with fail
  with_reducible refine (szNd t _ _ _ _ Ha.out (by omega) (by omega)).mono ?_
  rintro e w' ⟨rfl, rfl⟩
  rw [Ea.out]
  go_wp2_with fail
  with_reducible refine (toNd t v _ (Ha.out.up (Kept.refl 0 0 w)) han).mono ?_
  rintro e w1 ⟨us, rfl, ho, hk⟩
  have Os := Lib.hid ho
  have K1 := Lib.hid ((Kept.refl 0 0 w).trans hk)
  have z1 := hk.size
  clear hk ho
  go_wp2_with fail
  with_reducible refine (specDue.at_ t n _ _ (Os.out.rdW (by omega))).mono ?_
  rintro e w2 ⟨rfl, hk⟩
  have Ps := Lib.hid (Os.out.kept hk (.inl (Nat.le_refl _)))
  clear Os
  have Os := Ps
  clear Ps
  have K2 := Lib.hid (K1.out.trans hk)
  have z2 := hk.size
  clear hk K1
  clear Os
  go_wp2_with fail
  with_reducible refine (toNd t v _ (Ha.out.up K2.out) han).mono ?_
  rintro e w3 ⟨ux, rfl, ho, hk⟩
  have Ox := Lib.hid ho
  have K3 := Lib.hid (K2.out.trans hk)
  have z3 := hk.size
  clear hk ho K2
  go_wp2_with fail
  with_reducible refine (HI.out.at_ t n _ _ (Ox.out.rdW (by omega))).mono ?_
  rintro e w4 ⟨rfl, hk⟩
  have Px := Lib.hid (Ox.out.kept hk (.inl (Nat.le_refl _)))
  clear Ox
  have Ox := Px
  clear Px
  have K4 := Lib.hid (K3.out.trans hk)
  have z4 := hk.size
  clear hk K3
  obtain ⟨bb, hbb⟩ : ∃ bb, bb = dueI t n := ⟨_, rfl⟩
  rw [← hbb]
  clear hbb
  have q1 : (bb != bb) = false := by simp
  go_wp2_with fail
  with_reducible refine (toNd t v _ (Ha.out.up K4.out) han).mono ?_
  rintro e w5 ⟨uy, rfl, ho, hk⟩
  have Px := Lib.hid (Ox.out.kept hk (.inl (Nat.le_refl _)))
  clear Ox
  have Ox := Px
  clear Px
  have Oy := Lib.hid ho
  have K5 := Lib.hid (K4.out.trans hk)
  have z5 := hk.size
  clear hk ho K4
  go_wp2_with fail
  with_reducible refine (eqNd (t) _ _ _ (Ox.out.rdW (by omega)) (Oy.out.rdW (by omega))).mono ?_
  rintro e w6 ⟨rfl, hk⟩
  have Px := Lib.hid (Ox.out.kept hk (.inl (Nat.le_refl _)))
  have Py := Lib.hid (Oy.out.kept hk (.inl (Nat.le_refl _)))
  clear Ox
  have Ox := Px
  clear Px
  clear Oy
  have Oy := Py
  clear Py
  have K6 := Lib.hid (K5.out.trans hk)
  have z6 := hk.size
  clear hk K5
  clear Oy
  go_wp2
  go_ret
  exact ⟨rfl, K6.out⟩
set_option maxHeartbeats 400000 in
theorem lawDue (hI : DoesNI 15 dueI) (t : List Nd) (n : Int) (v : Value) (w : World) (ha : RdNd w w.heap.size v t) :
    Calls Try.prog 10 #[v, .int .i64 n] w fun e w' => e = .returned (.bool true) ∧ Kept 0 0 w w' := by
  rcases Nat.lt_or_ge 1048576 t.length with hl | hl
  · have Ha := Lib.hid ha
    clear hI ha
    have Ea : Hid (szF 1048576 t.length = -1) := szF_neg (by omega)
    go_enter Try.func10, Try.ntmps10
    go_wp2_with fail
    with_reducible refine (szNd t _ _ _ _ Ha.out (by omega) (by omega)).mono ?_
    rintro e w' ⟨rfl, rfl⟩
    rw [Ea.out]
    go_wp2
    go_ret
    exact ⟨rfl, Kept.refl _ _ _⟩
  · exact lawDue_small hI t n v w ha hl

set_option maxHeartbeats 3200000 in
theorem lawVal_small (hI : DoesV 19 valI valB) (t : List Nd) (n key : Int) (v : Value) (w : World) (ha : RdNd w w.heap.size v t) (hn : t.length ≤ 1048576) :
    Calls Try.prog 9 #[v, .int .i64 n, .int .i64 key] w fun e w' => e = .returned (.bool true) ∧ Kept 0 0 w w' := by
  have Ha := Lib.hid ha
  have han : t.length ≤ 1048576 := by omega
  have HI := Lib.hid hI
  clear hI ha
  have Ea : Hid (szF (1048576) t.length = 1048576 - t.length) := szF_pos (by omega)
  go_enter Try.func9, Try.ntmps9
  go_wp2_with fail
  with_reducible refine (szNd t _ _ _ _ Ha.out (by omega) (by omega)).mono ?_
  rintro e w' ⟨rfl, rfl⟩
  rw [Ea.out]
  go_wp2_with fail
  with_reducible refine (toNd t v _ (Ha.out.up (Kept.refl 0 0 w)) han).mono ?_
  rintro e w1 ⟨us, rfl, ho, hk⟩
  have Os := Lib.hid ho
  have K1 := Lib.hid ((Kept.refl 0 0 w).trans hk)
  have z1 := hk.size
  clear hk ho
  go_wp2_with fail
  with_reducible refine (specVal.at_ t n key _ _ (Os.out.rdW (by omega))).mono ?_
  rintro e w2 ⟨rfl, hk⟩
  have Ps := Lib.hid (Os.out.kept hk (.inl (Nat.le_refl _)))
  clear Os
  have Os := Ps
  clear Ps
  have K2 := Lib.hid (K1.out.trans hk)
  have z2 := hk.size
  clear hk K1
  clear Os
  go_wp2_with fail
  with_reducible refine (toNd t v _ (Ha.out.up K2.out) han).mono ?_
  rintro e w3 ⟨ux, rfl, ho, hk⟩
  have Ox := Lib.hid ho
  have K3 := Lib.hid (K2.out.trans hk)
  have z3 := hk.size
  clear hk ho K2
  go_wp2_with fail
  with_reducible refine (HI.out.at_ t n key _ _ (Ox.out.rdW (by omega))).mono ?_
  rintro e w4 ⟨rfl, hk⟩
  have Px := Lib.hid (Ox.out.kept hk (.inl (Nat.le_refl _)))
  clear Ox
  have Ox := Px
  clear Px
  have K4 := Lib.hid (K3.out.trans hk)
  have z4 := hk.size
  clear hk K3
  obtain ⟨bb, hbb⟩ : ∃ bb, bb = valI t n key := ⟨_, rfl⟩
  obtain ⟨cc, hcc⟩ : ∃ cc, cc = valB t n key := ⟨_, rfl⟩
  rw [← hbb, ← hcc]
  clear hbb hcc
  have q1 : (bb != bb) = false := by simp
  have q2 : (cc != cc) = false := by simp
  have q3 : (cc == cc) = true := by simp
  go_wp2_with fail
  with_reducible refine (toNd t v _ (Ha.out.up K4.out) han).mono ?_
  rintro e w5 ⟨uy, rfl, ho, hk⟩
  have Px := Lib.hid (Ox.out.kept hk (.inl (Nat.le_refl _)))
  clear Ox
  have Ox := Px
  clear Px
  have Oy := Lib.hid ho
  have K5 := Lib.hid (K4.out.trans hk)
  have z5 := hk.size
  clear hk ho K4
  go_wp2_with fail
  with_reducible refine (eqNd (t) _ _ _ (Ox.out.rdW (by omega)) (Oy.out.rdW (by omega))).mono ?_
  rintro e w6 ⟨rfl, hk⟩
  have Px := Lib.hid (Ox.out.kept hk (.inl (Nat.le_refl _)))
  have Py := Lib.hid (Oy.out.kept hk (.inl (Nat.le_refl _)))
  clear Ox
  have Ox := Px
  clear Px
  clear Oy
  have Oy := Py
  clear Py
  have K6 := Lib.hid (K5.out.trans hk)
  have z6 := hk.size
  clear hk K5
  clear Oy
  go_wp2
  go_ret
  exact ⟨rfl, K6.out⟩
set_option maxHeartbeats 400000 in
theorem lawVal (hI : DoesV 19 valI valB) (t : List Nd) (n key : Int) (v : Value) (w : World) (ha : RdNd w w.heap.size v t) :
    Calls Try.prog 9 #[v, .int .i64 n, .int .i64 key] w fun e w' => e = .returned (.bool true) ∧ Kept 0 0 w w' := by
  rcases Nat.lt_or_ge 1048576 t.length with hl | hl
  · have Ha := Lib.hid ha
    clear hI ha
    have Ea : Hid (szF 1048576 t.length = -1) := szF_neg (by omega)
    go_enter Try.func9, Try.ntmps9
    go_wp2_with fail
    with_reducible refine (szNd t _ _ _ _ Ha.out (by omega) (by omega)).mono ?_
    rintro e w' ⟨rfl, rfl⟩
    rw [Ea.out]
    go_wp2
    go_ret
    exact ⟨rfl, Kept.refl _ _ _⟩
  · exact lawVal_small hI t n key v w ha hl
end Go.Proofs.Ytakhegamlammcaa
