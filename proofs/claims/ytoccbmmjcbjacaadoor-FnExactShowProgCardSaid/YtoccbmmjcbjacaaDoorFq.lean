/- The exact law of ShowProg, for every argument that can be read, where the library's table of powers of ten is laid. -/
import Derived.Test.YtoccbmmjcbjacaaDoorZx
namespace Go.Proofs.YtoccbmmjcbjacaaDoor
open Go.RowKit Go.Sort

theorem specShow (xs : List Ins) (v : Value) (w : World) (h : RdNs w w.heap.size v xs) : Calls Tryd.prog 15 #[v] w fun e w' => e = .returned (.string (bs (showP xs))) ∧ Kept 0 0 w w' := by
  obtain ⟨A, c, rfl, h⟩ := h
  exact showP_any xs A c _ w (Nat.le_refl _) h.rd
theorem implShow (xs : List Ins) (v : Value) (w : World) (h : RdNs w w.heap.size v xs) (hp : Pow w) : Calls Tryd.prog 8 #[v] w fun e w' => e = .returned (.string (bs (showP xs))) ∧ Kept 0 0 w w' := by
  obtain ⟨A, c, rfl, h⟩ := h
  exact implShowP xs A c _ w (Nat.le_refl _) h.rd hp

set_option maxHeartbeats 1600000 in
theorem lawShowProg_small (xs : List Ins) (v : Value) (w : World) (ha : RdNs w w.heap.size v xs) (hp : Pow w) (hn : xs.length ≤ 1048576) :
    Calls Tryd.prog 4 #[v] w fun e w' => e = .returned (.bool true) ∧ Kept 0 0 w w' := by
  have Ha := Lib.hid ha
  have han : xs.length ≤ 1048576 := by omega
  clear ha
  have HP := Lib.hid hp
  clear hp
  have Ea : Hid (szF (1048576) xs.length = 1048576 - xs.length) := szF_pos (by omega)
  go_enter Tryd.func4, Tryd.ntmps4
  go_wp2_with fail
  with_reducible refine (szNs xs _ _ _ _ Ha.out (by omega) (by omega)).mono ?_
  rintro e w' ⟨rfl, rfl⟩
  rw [Ea.out]
  go_wp2_with fail
  with_reducible refine (toNs xs v _ (Ha.out.up (Kept.refl 0 0 w)) han).mono ?_
  rintro e w1 ⟨us, rfl, ho, hk⟩
  have Os := Lib.hid ho
  have K1 := Lib.hid ((Kept.refl 0 0 w).trans hk)
  have z1 := hk.size
  clear hk ho
  go_wp2_with fail
  with_reducible refine (specShow xs _ _ (Os.out.rdW (by omega))).mono ?_
  rintro e w2 ⟨rfl, hk⟩
  have Ps := Lib.hid (Os.out.kept hk (.inl (Nat.le_refl _)))
  clear Os
  have Os := Ps
  clear Ps
  have K2 := Lib.hid (K1.out.trans hk)
  have z2 := hk.size
  clear hk K1
  clear Os
  go_wp2_with fail
  with_reducible refine (toNs xs v _ (Ha.out.up K2.out) han).mono ?_
  rintro e w3 ⟨ux, rfl, ho, hk⟩
  have Ox := Lib.hid ho
  have K3 := Lib.hid (K2.out.trans hk)
  have z3 := hk.size
  clear hk ho K2
  go_wp2_with fail
  with_reducible refine (implShow xs _ _ (Ox.out.rdW (by omega)) (HP.out.kept K3.out)).mono ?_
  rintro e w4 ⟨rfl, hk⟩
  have Px := Lib.hid (Ox.out.kept hk (.inl (Nat.le_refl _)))
  clear Ox
  have Ox := Px
  clear Px
  have K4 := Lib.hid (K3.out.trans hk)
  have z4 := hk.size
  clear hk K3
  obtain ⟨bb, hbb⟩ : ∃ bb, bb = bs (showP xs) := ⟨_, rfl⟩
  rw [← hbb]
  clear hbb
  have q1 : (bb.toList == bb.toList) = true := by simp
  have q2 : (bb.toList != bb.toList) = false := by simp
  go_wp2_with fail
  with_reducible refine (toNs xs v _ (Ha.out.up K4.out) han).mono ?_
  rintro e w5 ⟨uy, rfl, ho, hk⟩
  have Px := Lib.hid (Ox.out.kept hk (.inl (Nat.le_refl _)))
  clear Ox
  have Ox := Px
  clear Px
  have Oy := Lib.hid ho
  have K5 := Lib.hid (K4.out.trans hk)
  have z5 := hk.size
  clear hk ho K4
  go_wp2_with fail
  with_reducible refine (eqNs (xs) _ _ _ (Ox.out.rdW (by omega)) (Oy.out.rdW (by omega))).mono ?_
  rintro e w6 ⟨rfl, hk⟩
  have Px := Lib.hid (Ox.out.kept hk (.inl (Nat.le_refl _)))
  have Py := Lib.hid (Oy.out.kept hk (.inl (Nat.le_refl _)))
  clear Ox
  have Ox := Px
  clear Px
  clear Oy
  have Oy := Py
  clear Py
  have K6 := Lib.hid (K5.out.trans hk)
  have z6 := hk.size
  clear hk K5
  clear Oy
  go_wp2
  go_ret
  exact ⟨rfl, K6.out⟩
set_option maxHeartbeats 400000 in
theorem lawShowProg (xs : List Ins) (v : Value) (w : World) (ha : RdNs w w.heap.size v xs) (hp : Pow w) :
    Calls Tryd.prog 4 #[v] w fun e w' => e = .returned (.bool true) ∧ Kept 0 0 w w' := by
  rcases Nat.lt_or_ge 1048576 xs.length with hl | hl
  · have Ha := Lib.hid ha
    clear ha
    have Ea : Hid (szF 1048576 xs.length = -1) := szF_neg (by omega)
    go_enter Tryd.func4, Tryd.ntmps4
    go_wp2_with fail
    with_reducible refine (szNs xs _ _ _ _ Ha.out (by omega) (by omega)).mono ?_
    rintro e w' ⟨rfl, rfl⟩
    rw [Ea.out]
    go_wp2
    go_ret
    exact ⟨rfl, Kept.refl _ _ _⟩
  · exact lawShowProg_small xs v w ha hp hl
end Go.Proofs.YtoccbmmjcbjacaaDoor
