/- The exact laws of InsOk and ProgOk, for every argument that can be read. -/
import Derived.Test.YtoccbmmjcbjacaaFn
namespace Go.Proofs.Ytoccbmmjcbjacaa
open Go.RowKit Go.Sort

theorem specProg (xs : List Ins) (v : Value) (w : World) (h : RdNs w w.heap.size v xs) : Calls Try.prog 23 #[v] w fun e w' => e = .returned (.bool (progB xs)) ∧ Kept 0 0 w w' := by
  obtain ⟨A, c, rfl, h⟩ := h
  exact progOk_any xs A c _ w (Nat.le_refl _) h.rd
theorem implProg (xs : List Ins) (v : Value) (w : World) (h : RdNs w w.heap.size v xs) : Calls Try.prog 25 #[v] w fun e w' => e = .returned (.bool (progB xs)) ∧ Kept 0 0 w w' := by
  obtain ⟨A, c, rfl, h⟩ := h
  exact implProgOk xs A c _ w (Nat.le_refl _) h.rd

set_option maxHeartbeats 1600000 in
theorem lawInsOk (i : Ins) (w : World) :
    Calls Try.prog 4 #[.agg #[.int .i64 i.op, .int .i64 i.a, .int .i64 i.b]] w fun e w' => e = .returned (.bool true) ∧ Kept 0 0 w w' := by
  obtain ⟨W, hW⟩ : ∃ W, W = w.alloc (.cells #[.int .i64 i.op, .int .i64 i.a, .int .i64 i.b] 32) := ⟨_, rfl⟩
  have KW : Hid (Kept 0 0 w W) := by show Kept _ _ _ _; rw [hW]; exact Kept.alloc0 _ _
  have B : Hid (Blk W w.heap.size 32 #[.int .i64 i.op, .int .i64 i.a, .int .i64 i.b]) := by show Blk _ _ _ _; rw [hW]; exact Blk.new _ _ _
  have HW := Lib.hid hW
  clear hW
  have c0 := ins0 B.out
  have c1 := ins1 B.out
  have c2 := ins2 B.out
  go_enter Try.func4, Try.ntmps4
  go_upto_region 1 with fail
  rw [← HW.out]
  go_wp2_with fail
  with_reducible refine (toNs1_any i _).mono ?_
  rintro e w1 ⟨rfl, k1⟩
  go_wp2_with fail
  with_reducible refine (insOk_any i _).mono ?_
  rintro e w2 ⟨rfl, k2⟩
  have K2 := Lib.hid (k1.trans k2)
  have B2 := Lib.hid (B.out.kept K2.out (.inl (Nat.le_refl _)))
  clear k1 k2 c0 c1 c2 B
  have c0 := ins0 B2.out
  have c1 := ins1 B2.out
  have c2 := ins2 B2.out
  obtain ⟨bb, hbb⟩ : ∃ bb, bb = insB i := ⟨_, rfl⟩
  rw [← hbb]
  have HB := Lib.hid hbb
  clear hbb
  go_wp2_with fail
  with_reducible refine (toNs1_any i _).mono ?_
  rintro e w3 ⟨rfl, k3⟩
  go_wp2_with fail
  with_reducible refine (implInsOk i _).mono ?_
  rintro e w4 ⟨rfl, k4⟩
  have K4 := Lib.hid ((KW.out.trans K2.out).trans (k3.trans k4))
  clear k3 k4 c0 c1 c2 B2
  rw [← HB.out]
  have q1 : (bb != bb) = false := by simp
  go_wp2_with fail
  go_ret
  exact ⟨rfl, K4.out⟩
set_option maxHeartbeats 1600000 in
theorem lawProgOk_small (xs : List Ins) (v : Value) (w : World) (ha : RdNs w w.heap.size v xs) (hn : xs.length ≤ 1048576) :
    Calls Try.prog 5 #[v] w fun e w' => e = .returned (.bool true) ∧ Kept 0 0 w w' := by
  have Ha := Lib.hid ha
  have han : xs.length ≤ 1048576 := by omega
  clear ha
  have Ea : Hid (szF (1048576) xs.length = 1048576 - xs.length) := szF_pos (by omega)
  go_enter Try.func5, Try.ntmps5
  go_wp2_with fail
  with_reducible refine (szNs xs _ _ _ _ Ha.out (by omega) (by omega)).mono ?_
  rintro e w' ⟨rfl, rfl⟩
  rw [Ea.out]
  go_wp2_with fail
  with_reducible refine (toNs xs v _ (Ha.out.up (Kept.refl 0 0 w)) han).mono ?_
  rintro e w1 ⟨us, rfl, ho, hk⟩
  have Os := Lib.hid ho
  have K1 := Lib.hid ((Kept.refl 0 0 w).trans hk)
  have z1 := hk.size
  clear hk ho
  go_wp2_with fail
  with_reducible refine (specProg xs _ _ (Os.out.rdW (by omega))).mono ?_
  rintro e w2 ⟨rfl, hk⟩
  have Ps := Lib.hid (Os.out.kept hk (.inl (Nat.le_refl _)))
  clear Os
  have Os := Ps
  clear Ps
  have K2 := Lib.hid (K1.out.trans hk)
  have z2 := hk.size
  clear hk K1
  clear Os
  go_wp2_with fail
  with_reducible refine (toNs xs v _ (Ha.out.up K2.out) han).mono ?_
  rintro e w3 ⟨ux, rfl, ho, hk⟩
  have Ox := Lib.hid ho
  have K3 := Lib.hid (K2.out.trans hk)
  have z3 := hk.size
  clear hk ho K2
  go_wp2_with fail
  with_reducible refine (implProg xs _ _ (Ox.out.rdW (by omega))).mono ?_
  rintro e w4 ⟨rfl, hk⟩
  have Px := Lib.hid (Ox.out.kept hk (.inl (Nat.le_refl _)))
  clear Ox
  have Ox := Px
  clear Px
  have K4 := Lib.hid (K3.out.trans hk)
  have z4 := hk.size
  clear hk K3
  obtain ⟨bb, hbb⟩ : ∃ bb, bb = progB xs := ⟨_, rfl⟩
  rw [← hbb]
  clear hbb
  have q1 : (bb != bb) = false := by simp
  go_wp2_with fail
  with_reducible refine (toNs xs v _ (Ha.out.up K4.out) han).mono ?_
  rintro e w5 ⟨uy, rfl, ho, hk⟩
  have Px := Lib.hid (Ox.out.kept hk (.inl (Nat.le_refl _)))
  clear Ox
  have Ox := Px
  clear Px
  have Oy := Lib.hid ho
  have K5 := Lib.hid (K4.out.trans hk)
  have z5 := hk.size
  clear hk ho K4
  go_wp2_with fail
  with_reducible refine (eqNs (xs) _ _ _ (Ox.out.rdW (by omega)) (Oy.out.rdW (by omega))).mono ?_
  rintro e w6 ⟨rfl, hk⟩
  have Px := Lib.hid (Ox.out.kept hk (.inl (Nat.le_refl _)))
  have Py := Lib.hid (Oy.out.kept hk (.inl (Nat.le_refl _)))
  clear Ox
  have Ox := Px
  clear Px
  clear Oy
  have Oy := Py
  clear Py
  have K6 := Lib.hid (K5.out.trans hk)
  have z6 := hk.size
  clear hk K5
  clear Oy
  go_wp2
  go_ret
  exact ⟨rfl, K6.out⟩
set_option maxHeartbeats 400000 in
theorem lawProgOk (xs : List Ins) (v : Value) (w : World) (ha : RdNs w w.heap.size v xs) :
    Calls Try.prog 5 #[v] w fun e w' => e = .returned (.bool true) ∧ Kept 0 0 w w' := by
  rcases Nat.lt_or_ge 1048576 xs.length with hl | hl
  · have Ha := Lib.hid ha
    clear ha
    have Ea : Hid (szF 1048576 xs.length = -1) := szF_neg (by omega)
    go_enter Try.func5, Try.ntmps5
    go_wp2_with fail
    with_reducible refine (szNs xs _ _ _ _ Ha.out (by omega) (by omega)).mono ?_
    rintro e w' ⟨rfl, rfl⟩
    rw [Ea.out]
    go_wp2
    go_ret
    exact ⟨rfl, Kept.refl _ _ _⟩
  · exact lawProgOk_small xs v w ha hl
end Go.Proofs.Ytoccbmmjcbjacaa
