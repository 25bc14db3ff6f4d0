/- The law of ShowProg and ReadProg, for every code, where the library's variables hold what its text lays. -/
import Derived.Test.YtoccbmmjcbjacaaDoorGk
import Derived.Test.YtoccbmmjcbjacaaDoorZy
namespace Go.Proofs.YtoccbmmjcbjacaaDoor
open Go.RowKit Go.Sort

theorem readShown (zs : List Ins) (hp : progB zs = true) (w : World) (he : Env w) : Calls Tryd.prog 11 #[.string (bs (showP zs))] w fun e w' => ∃ D d, e = .returned (.tuple #[.slice D zs.length d, .bool true]) ∧ OwnZ w' w.heap.size w'.heap.size 43 3 D zs.length d (nsR.flat zs) ∧ Kept 0 0 w w' := by
  have h1 := implReadP (showP zs) (by have := showP_len zs; omega) w he
  have h2 := readP_show hp
  have h3 : resL (showP zs) = zs := by unfold resL; rw [h2]; rfl
  rw [h3, h2] at h1
  exact h1
set_option maxHeartbeats 3200000 in
theorem lawProgBack (xs : List Int) (A : Option Addr) (c : Nat) (w : World) (h : Rd (Value.int .u8) w w.heap.size A xs) (hx : ∀ x ∈ xs, 0 ≤ x ∧ x ≤ 255) (he : Env w) :
    Calls Tryd.prog 3 #[.slice A xs.length c] w fun e w' => e = .returned (.bool true) ∧ Kept 0 0 w w' := by
  have hm := h.1
  rcases Nat.lt_or_ge 4096 xs.length with hl | hl
  · have hbig : decide (4096 < xs.length) = true := by simpa using hl
    clear h hx he
    go_enter Tryd.func3, Tryd.ntmps3
    go_wp2_with fail
    with_reducible refine (big_any _ _ _ _ hm).mono ?_
    rintro e w' ⟨rfl, rfl⟩
    rw [hbig]
    clear hbig hl hm
    go_wp2_with fail
    go_ret
    exact ⟨rfl, Kept.refl _ _ _⟩
  have hbig : decide (4096 < xs.length) = false := by simpa using hl
  have H := Lib.hid h
  have HX := Lib.hid hx
  have HE := Lib.hid he
  clear h hx he
  go_enter Tryd.func3, Tryd.ntmps3
  go_wp2_with fail
  with_reducible refine (big_any _ _ _ _ hm).mono ?_
  rintro e w' ⟨rfl, rfl⟩
  rw [hbig]
  clear hbig hm
  go_wp2_with fail
  with_reducible refine (drawShow_any _ _ _ _ H.out HX.out hl).mono ?_
  rintro e w1 ⟨zs, D, d, rfl, zl, o1, hk⟩
  have R1 := Lib.hid (OwnZ.rd (R := nsR) o1).2
  have K1 := Lib.hid hk
  clear o1 hk
  go_wp2_with fail
  with_reducible refine (implShowP zs D d _ _ (Nat.le_refl _) R1.out (HE.out.kept K1.out).pow).mono ?_
  rintro e w2 ⟨rfl, hk⟩
  have z2 : w1.heap.size ≤ w2.heap.size := hk.size
  have R2 := Lib.hid (R1.out.kept (Nat.le_refl _) hk (.inl (Nat.le_refl _)))
  have K2 := Lib.hid (K1.out.trans hk)
  clear hk R1 K1
  have sl := showP_len zs
  obtain ⟨s, hs⟩ : ∃ s, s = showP zs := ⟨_, rfl⟩
  rw [← hs] at sl
  rw [← hs]
  have HSS := Lib.hid hs
  clear hs
  go_wp2_with fail
  with_reducible refine (progOk_any zs D d _ _ z2 R2.out).mono ?_
  rintro e w3 ⟨rfl, hk⟩
  have z3 : w1.heap.size ≤ w3.heap.size := Nat.le_trans z2 hk.size
  have R3 := Lib.hid (R2.out.kept z2 hk (.inl (Nat.le_refl _)))
  have K3 := Lib.hid (K2.out.trans hk)
  clear hk R2 K2 z2
  cases hp : progB zs
  · have es : s = [] := by rw [HSS.out]; unfold showP; rw [hp]; rfl
    subst es
    have q0 : (bs []).toList.isEmpty = true := by rw [bs_empty, decide_eq_true rfl]
    have HP := Lib.hid hp
    clear hp
    go_wp2_with fail
    with_reducible refine (implProgOk zs D d _ _ z3 R3.out).mono ?_
    rintro e w4 ⟨rfl, hk⟩
    have K4 := Lib.hid (K3.out.trans hk)
    clear hk
    rw [HP.out]
    go_wp2_with fail
    go_ret
    exact ⟨rfl, K4.out⟩
  have CR := Lib.hid (readShown zs hp w3 (HE.out.kept K3.out))
  have NI := Lib.hid (showP_nil hp)
  rw [← HSS.out] at CR NI
  clear HSS hp
  go_wp2_with fail
  with_reducible refine CR.out.mono ?_
  rintro e w4 ⟨D4, d4, rfl, o4, hk⟩
  have z4 : w1.heap.size ≤ w4.heap.size := Nat.le_trans z3 hk.size
  have R4 := Lib.hid (R3.out.kept z3 hk (.inl (Nat.le_refl _)))
  have S4 := Lib.hid (OwnZ.rd (R := nsR) o4).2
  have K4 := Lib.hid (K3.out.trans hk)
  clear hk R3 K3 CR o4 z3
  go_wp2_with fail
  with_reducible refine (likeIns_same zs _ _ _ _ _ _ _ (Nat.le_refl _) z4 S4.out R4.out).mono ?_
  rintro e w5 ⟨rfl, hk⟩
  have K5 := Lib.hid (K4.out.trans hk)
  clear hk S4 R4 K4
  have CT := Lib.hid (drawRead_any xs A c w5 ((H.out.kept (Nat.le_refl _) K5.out (.inl (Nat.le_refl _))).wide K5.out.size) HX.out hl)
  obtain ⟨q1, q2⟩ : ∃ b : Bool, (bs s).toList.isEmpty = b ∧ ((zs.length : Int) == 0) = b := by
    refine ⟨_, rfl, ?_⟩
    rw [bs_empty]
    by_cases hz : zs = []
    · rw [decide_eq_true (NI.out.2 hz), hz]; rfl
    · rw [decide_eq_false (fun e => hz (NI.out.1 e))]
      have : zs.length ≠ 0 := fun e => hz (List.eq_nil_of_length_eq_zero e)
      simp; omega
  have q3 : (q1 != q1) = false := by cases q1 <;> rfl
  obtain ⟨q2, q4⟩ := q2
  go_wp2_with fail
  with_reducible refine CT.out.mono ?_
  rintro e w6 ⟨t, rfl, tl, hk⟩
  have K6 := Lib.hid (K5.out.trans hk)
  clear hk CT K5 q2 q3 q4
  have CI := Lib.hid (implReadP t (by omega) w6 (HE.out.kept K6.out))
  have BK := Lib.hid (fun l => @readP_back t l)
  go_wp2_with fail
  cases hr : readP t with
  | none =>
    have e1 : resL t = [] := by unfold resL; rw [hr]; rfl
    rw [hr, e1] at CI
    with_reducible refine CI.out.mono ?_
    rintro e w7 ⟨D7, d7, rfl, o7, hk⟩
    have K7 := Lib.hid (K6.out.trans hk)
    clear hk
    go_wp2_with fail
    go_ret
    exact ⟨rfl, K7.out⟩
  | some ys =>
    have e1 : resL t = ys := by unfold resL; rw [hr]; rfl
    rw [hr, e1] at CI
    have hb := BK.out _ hr
    have HP := Lib.hid hb.1
    have HT := Lib.hid hb.2
    with_reducible refine CI.out.mono ?_
    rintro e w7 ⟨D7, d7, rfl, o7, hk⟩
    have R7 := Lib.hid (OwnZ.rd (R := nsR) o7).2
    have K7 := Lib.hid (K6.out.trans hk)
    have yl := (progB_iff.1 HP.out).2
    clear hk o7 CI hr e1 hb BK K6
    go_wp2_with fail
    with_reducible refine (implShowP ys D7 d7 _ _ (Nat.le_refl _) R7.out (HE.out.kept K7.out).pow).mono ?_
    rintro e w8 ⟨rfl, hk⟩
    have R8 := Lib.hid (R7.out.kept (Nat.le_refl _) hk (.inl (Nat.le_refl _)))
    have K8 := Lib.hid (K7.out.trans hk)
    have z8 : w7.heap.size ≤ w8.heap.size := hk.size
    clear hk R7 K7
    rw [HT.out]
    obtain ⟨b1, hb1⟩ : ∃ b1, b1 = bs t := ⟨_, rfl⟩
    rw [← hb1]
    have qq : (b1.toList == b1.toList) = true := by simp
    go_wp2_with fail
    with_reducible refine (implProgOk ys D7 d7 _ _ z8 R8.out).mono ?_
    rintro e w9 ⟨rfl, hk⟩
    have K9 := Lib.hid (K8.out.trans hk)
    clear hk
    rw [HP.out]
    go_wp2_with fail
    go_ret
    exact ⟨rfl, K9.out⟩
end Go.Proofs.YtoccbmmjcbjacaaDoor
