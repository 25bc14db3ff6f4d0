/- The exact law of ReadProg, for every text, where the library's variables hold what its text lays. -/
import Derived.Test.YtoccbmmjcbjacaaDoorGd
import Derived.Test.YtoccbmmjcbjacaaDoorZy
namespace Go.Proofs.YtoccbmmjcbjacaaDoor
open Go.RowKit Go.Sort

theorem resP_len (s : List UInt8) : (resP s).length ≤ 12 := by
  unfold resP
  cases h : readP s with
  | none => simp
  | some l => exact (progB_iff.1 (readP_back h).1).2
theorem specRd (s : List UInt8) (hs : s.length ≤ 4294967280) (w : World) : Calls Tryd.prog 18 #[.string (bs s)] w fun e w' => ∃ u, e = .returned (.tuple #[u, .bool (readP s).isSome]) ∧ OwnNs w' w.heap.size w'.heap.size u (resP s) ∧ Kept 0 0 w w' :=
  (specReadP s hs w).mono fun e w' ⟨D, d, he, ho, hk⟩ => ⟨_, he, ⟨D, d, rfl, ho⟩, hk⟩
theorem implRd (s : List UInt8) (hs : s.length ≤ 4294967280) (w : World) (he : Env w) : Calls Tryd.prog 11 #[.string (bs s)] w fun e w' => ∃ u, e = .returned (.tuple #[u, .bool (readP s).isSome]) ∧ OwnNs w' w.heap.size w'.heap.size u (resP s) ∧ Kept 0 0 w w' :=
  (implReadP s hs w he).mono fun e w' ⟨D, d, he, ho, hk⟩ => ⟨_, he, ⟨D, d, rfl, ho⟩, hk⟩

set_option maxHeartbeats 1600000 in
theorem lawReadProg (b : ByteArray) (w : World) (hm : b.size ≤ maxLen) (he : Env w) :
    Calls Tryd.prog 5 #[.string b] w fun e w' => e = .returned (.bool true) ∧ Kept 0 0 w w' := by
  unfold maxLen at hm
  by_cases hl : b.size ≤ 1048576
  case neg =>
    have i1 : (1048576 : Int) < (b.size : Int) := by omega
    clear he hl
    go_enter Tryd.func5, Tryd.ntmps5
    go_wp2_with fail
    go_ret
    exact ⟨rfl, Kept.refl _ _ _⟩
  have i1 : ¬ (1048576 : Int) < (b.size : Int) := by omega
  have HE := Lib.hid he
  have CS := Lib.hid (specRd b.data.toList (by rw [← Lib.size_eq]; omega))
  have CI := Lib.hid (fun w' (h : Kept 0 0 w w') => implRd b.data.toList (by rw [← Lib.size_eq]; omega) w' (HE.out.kept h))
  have zl := resP_len b.data.toList
  obtain ⟨zs, hzs⟩ : ∃ zs, zs = resP b.data.toList := ⟨_, rfl⟩
  obtain ⟨bb, hbb⟩ : ∃ bb, bb = (readP b.data.toList).isSome := ⟨_, rfl⟩
  rw [← hzs, ← hbb, bs_of] at CS CI
  rw [← hzs] at zl
  have q1 : (bb != bb) = false := by simp
  have q2 : (bb == bb) = true := by simp
  clear hzs hbb he hl
  go_enter Tryd.func5, Tryd.ntmps5
  go_wp2_with fail
  with_reducible refine (CS.out _).mono ?_
  rintro e w1 ⟨uW, rfl, ho, hk⟩
  have OW := Lib.hid ho
  have K1 := Lib.hid ((Kept.refl 0 0 w).trans hk)
  have z1 := hk.size
  clear hk ho
  go_wp2_with fail
  with_reducible refine (CI.out _ K1.out).mono ?_
  rintro e w2 ⟨uG, rfl, ho, hk⟩
  have PW := Lib.hid (OW.out.kept hk (.inl (Nat.le_refl _)))
  clear OW
  have OW := PW
  clear PW
  have OG := Lib.hid ho
  have K2 := Lib.hid (K1.out.trans hk)
  have z2 := hk.size
  clear hk ho K1
  go_wp2_with fail
  with_reducible refine (eqNs (zs) _ _ _ (OG.out.rdW (by omega)) (OW.out.rdW (by omega))).mono ?_
  rintro e w3 ⟨rfl, hk⟩
  have PW := Lib.hid (OW.out.kept hk (.inl (Nat.le_refl _)))
  have PG := Lib.hid (OG.out.kept hk (.inl (Nat.le_refl _)))
  clear OW
  have OW := PW
  clear PW
  clear OG
  have OG := PG
  clear PG
  have K3 := Lib.hid (K2.out.trans hk)
  have z3 := hk.size
  clear hk K2
  go_wp2_with fail
  with_reducible refine (markNs (1) (zs) _ w1.heap.size w2.heap.size _ OG.out (by omega) (by omega) (by omega)).mono ?_
  rintro e w4 ⟨rfl, ho, hk⟩
  have PW := Lib.hid (OW.out.kept hk (by omega))
  clear OW
  have OW := PW
  clear PW
  clear OG
  have OG := Lib.hid ho
  have K4 := Lib.hid (K3.out.trans2 hk (.inr (by omega)))
  have z4 := hk.size
  clear hk ho K3
  have kq : 0 ≤ 1 + 3 * (zs.length : Int) := by omega
  go_wp2_with fail
  with_reducible refine (heldNs (1) (zs.length) _ _ _ (OG.out.rdW (by omega)) (by omega) (by omega) (by omega)).mono ?_
  rintro e w' ⟨rfl, rfl⟩
  go_wp2_with fail
  with_reducible refine (CI.out _ K4.out).mono ?_
  rintro e w5 ⟨uQ, rfl, ho, hk⟩
  have PW := Lib.hid (OW.out.kept hk (.inl (Nat.le_refl _)))
  have PG := Lib.hid (OG.out.kept hk (.inl (Nat.le_refl _)))
  clear OW
  have OW := PW
  clear PW
  clear OG
  have OG := PG
  clear PG
  have OQ := Lib.hid ho
  have K5 := Lib.hid (K4.out.trans hk)
  have z5 := hk.size
  clear hk ho K4
  go_wp2_with fail
  with_reducible refine (eqNs (zs) _ _ _ (OQ.out.rdW (by omega)) (OW.out.rdW (by omega))).mono ?_
  rintro e w6 ⟨rfl, hk⟩
  have PW := Lib.hid (OW.out.kept hk (.inl (Nat.le_refl _)))
  have PG := Lib.hid (OG.out.kept hk (.inl (Nat.le_refl _)))
  have PQ := Lib.hid (OQ.out.kept hk (.inl (Nat.le_refl _)))
  clear OW
  have OW := PW
  clear PW
  clear OG
  have OG := PG
  clear PG
  clear OQ
  have OQ := PQ
  clear PQ
  have K6 := Lib.hid (K5.out.trans hk)
  have z6 := hk.size
  clear hk K5
  go_wp2_with fail
  with_reducible refine (heldNs (1) (zs.length) _ _ _ (OG.out.rdW (by omega)) (by omega) (by omega) (by omega)).mono ?_
  rintro e w' ⟨rfl, rfl⟩
  go_wp2
  go_ret
  exact ⟨rfl, K6.out⟩
end Go.Proofs.YtoccbmmjcbjacaaDoor
