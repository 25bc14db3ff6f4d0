/- The laws of sums and of differences return true for every code; condition: the code can be read. -/
import Derived.Test.YtlcnkcmgbambaaaD
namespace Go.Proofs.Ytlcnkcmgbambaaa
open Go.RowKit

theorem sat_comm (t e : Int) : sat (e + t) = sat (t + e) := by rw [Int.add_comm]
theorem sat_assoc {t e u : Int} (ht : 0 ≤ t) (he : 0 ≤ e) (hu : 0 ≤ u) : sat (sat (t + e) + u) = sat (t + sat (e + u)) := by unfold sat; omega
theorem sat_up {t e : Int} (ht : Fits t) (he : 0 ≤ e) : t ≤ sat (t + e) := by unfold Fits at ht; unfold sat; omega
theorem sat_down {t e : Int} (ht : Fits t) (he : e < 0) : sat (t + e) ≤ t := by unfold Fits at ht; unfold sat; omega
theorem sat_mono {t u e : Int} (h : t ≤ u) : sat (t + e) ≤ sat (u + e) := by unfold sat; omega

set_option maxHeartbeats 1600000 in
theorem lawLater_small (xs : List Int) (A : Option Addr) (c : Nat) (w : World) (h : Rd (Value.int .u8) w w.heap.size A xs) (hx : ∀ x ∈ xs, 0 ≤ x ∧ x ≤ 255) (hl : xs.length ≤ 4096) :
    Calls Try.prog 3 #[.slice A xs.length c] w fun e w' => e = .returned (.bool true) ∧ Kept 0 0 w w' := by
  have hm := h.1
  have hbig : decide (4096 < xs.length) = false := by simpa using hl
  have H := Lib.hid h
  have HX := Lib.hid hx
  have HB := Lib.hid hbig
  clear h hx hbig
  go_enter Try.func3, Try.ntmps3
  go_wp2_with fail
  with_reducible refine (big_any _ _ _ _ hm).mono ?_
  rintro e w' ⟨rfl, rfl⟩
  rw [HB.out]
  go_wp2_with fail
  with_reducible refine (drawLater_any _ _ _ _ H.out HX.out hl).mono ?_
  rintro x w1 ⟨t, e, rfl, ht, he, hk⟩
  have HT := Lib.hid ht
  have HE := Lib.hid he
  have HK := Lib.hid hk
  have H1 := Lib.hid ((H.out.kept (Nat.le_refl _) hk (.inl (Nat.le_refl _))).wide hk.size)
  clear ht he hk H
  go_wp2_with fail
  with_reducible refine (drawBetween_any _ _ _ _ H1.out HX.out hl).mono ?_
  rintro x w2 ⟨u, u2, rfl, hu, hu2, hk⟩
  have HU := Lib.hid hu
  have HK2 := Lib.hid (HK.out.trans hk)
  clear hu hu2 hk H1 HK HX hm HB
  go_wp2_with fail
  with_reducible refine (later_impl _ _ HT.out HE.out _).mono ?_
  rintro x w' ⟨rfl, rfl⟩
  go_wp2_with fail
  with_reducible refine (later_spec _ _ HT.out HE.out _).mono ?_
  rintro x w' ⟨rfl, rfl⟩
  have g0 : (sat (t + e) != sat (e + t)) = false := by rw [sat_comm]; simp
  have gu := sat_mono (t := t) (u := u) (e := e)
  have GU := Lib.hid gu
  have ga := @sat_assoc t e u
  have GA := Lib.hid ga
  clear gu ga
  by_cases hut : u < t
  · have g7 : decide (u < t) = true := by simpa using hut
    by_cases he : 0 ≤ e
    · have g1 : decide (0 ≤ e) = true := by simpa using he
      have g2 : decide (sat (t + e) < t) = false := by simpa using sat_up HT.out he
      have g3 : decide (e < 0) = false := by simpa using he
      by_cases hu : 0 ≤ u
      · have g4 : decide (0 ≤ u) = true := by simpa using hu
        by_cases ht : 0 ≤ t
        · have g5 : decide (0 ≤ t) = true := by simpa using ht
          have g6 : (sat (sat (t + e) + u) != sat (t + sat (e + u))) = false := by rw [GA.out ht he hu]; simp
          go_wp2_with ((with_reducible refine (later_impl _ _ (by first | exact HT.out | exact HE.out | exact HU.out | exact sat_fits _) (by first | exact HT.out | exact HE.out | exact HU.out | exact sat_fits _) _).mono ?_); rintro x w' ⟨rfl, rfl⟩)
          go_ret
          exact ⟨rfl, HK2.out⟩
        · have g5 : decide (0 ≤ t) = false := by simpa using ht
          by_cases hn : sat (sat (t + e) + u) = sat (t + sat (e + u))
          · have g6 : (sat (sat (t + e) + u) != sat (t + sat (e + u))) = false := by rw [hn]; simp
            clear hn
            go_wp2_with ((with_reducible refine (later_impl _ _ (by first | exact HT.out | exact HE.out | exact HU.out | exact sat_fits _) (by first | exact HT.out | exact HE.out | exact HU.out | exact sat_fits _) _).mono ?_); rintro x w' ⟨rfl, rfl⟩)
            go_ret
            exact ⟨rfl, HK2.out⟩
          · have g6 : (sat (sat (t + e) + u) != sat (t + sat (e + u))) = true := by simpa using hn
            clear hn
            go_wp2_with ((with_reducible refine (later_impl _ _ (by first | exact HT.out | exact HE.out | exact HU.out | exact sat_fits _) (by first | exact HT.out | exact HE.out | exact HU.out | exact sat_fits _) _).mono ?_); rintro x w' ⟨rfl, rfl⟩)
            go_ret
            exact ⟨rfl, HK2.out⟩
      · have g4 : decide (0 ≤ u) = false := by simpa using hu
        go_wp2_with ((with_reducible refine (later_impl _ _ (by first | exact HT.out | exact HE.out | exact HU.out | exact sat_fits _) (by first | exact HT.out | exact HE.out | exact HU.out | exact sat_fits _) _).mono ?_); rintro x w' ⟨rfl, rfl⟩)
        go_ret
        exact ⟨rfl, HK2.out⟩
    · have g1 : decide (0 ≤ e) = false := by simpa using he
      have g2 : decide (t < sat (t + e)) = false := by simpa using sat_down HT.out (by omega)
      have g3 : decide (e < 0) = true := by simpa using he
      by_cases hu : 0 ≤ u
      · have g4 : decide (0 ≤ u) = true := by simpa using hu
        go_wp2_with ((with_reducible refine (later_impl _ _ (by first | exact HT.out | exact HE.out | exact HU.out | exact sat_fits _) (by first | exact HT.out | exact HE.out | exact HU.out | exact sat_fits _) _).mono ?_); rintro x w' ⟨rfl, rfl⟩)
        go_ret
        exact ⟨rfl, HK2.out⟩
      · have g4 : decide (0 ≤ u) = false := by simpa using hu
        go_wp2_with ((with_reducible refine (later_impl _ _ (by first | exact HT.out | exact HE.out | exact HU.out | exact sat_fits _) (by first | exact HT.out | exact HE.out | exact HU.out | exact sat_fits _) _).mono ?_); rintro x w' ⟨rfl, rfl⟩)
        go_ret
        exact ⟨rfl, HK2.out⟩
  · have g7 : decide (u < t) = false := by simpa using hut
    have g8 : decide (sat (t + e) ≤ sat (u + e)) = true := by simpa using GU.out (by omega)
    by_cases he : 0 ≤ e
    · have g1 : decide (0 ≤ e) = true := by simpa using he
      have g2 : decide (sat (t + e) < t) = false := by simpa using sat_up HT.out he
      have g3 : decide (e < 0) = false := by simpa using he
      by_cases hu : 0 ≤ u
      · have g4 : decide (0 ≤ u) = true := by simpa using hu
        by_cases ht : 0 ≤ t
        · have g5 : decide (0 ≤ t) = true := by simpa using ht
          have g6 : (sat (sat (t + e) + u) != sat (t + sat (e + u))) = false := by rw [GA.out ht he hu]; simp
          go_wp2_with ((with_reducible refine (later_impl _ _ (by first | exact HT.out | exact HE.out | exact HU.out | exact sat_fits _) (by first | exact HT.out | exact HE.out | exact HU.out | exact sat_fits _) _).mono ?_); rintro x w' ⟨rfl, rfl⟩)
          go_ret
          exact ⟨rfl, HK2.out⟩
        · have g5 : decide (0 ≤ t) = false := by simpa using ht
          by_cases hn : sat (sat (t + e) + u) = sat (t + sat (e + u))
          · have g6 : (sat (sat (t + e) + u) != sat (t + sat (e + u))) = false := by rw [hn]; simp
            clear hn
            go_wp2_with ((with_reducible refine (later_impl _ _ (by first | exact HT.out | exact HE.out | exact HU.out | exact sat_fits _) (by first | exact HT.out | exact HE.out | exact HU.out | exact sat_fits _) _).mono ?_); rintro x w' ⟨rfl, rfl⟩)
            go_ret
            exact ⟨rfl, HK2.out⟩
          · have g6 : (sat (sat (t + e) + u) != sat (t + sat (e + u))) = true := by simpa using hn
            clear hn
            go_wp2_with ((with_reducible refine (later_impl _ _ (by first | exact HT.out | exact HE.out | exact HU.out | exact sat_fits _) (by first | exact HT.out | exact HE.out | exact HU.out | exact sat_fits _) _).mono ?_); rintro x w' ⟨rfl, rfl⟩)
            go_ret
            exact ⟨rfl, HK2.out⟩
      · have g4 : decide (0 ≤ u) = false := by simpa using hu
        go_wp2_with ((with_reducible refine (later_impl _ _ (by first | exact HT.out | exact HE.out | exact HU.out | exact sat_fits _) (by first | exact HT.out | exact HE.out | exact HU.out | exact sat_fits _) _).mono ?_); rintro x w' ⟨rfl, rfl⟩)
        go_ret
        exact ⟨rfl, HK2.out⟩
    · have g1 : decide (0 ≤ e) = false := by simpa using he
      have g2 : decide (t < sat (t + e)) = false := by simpa using sat_down HT.out (by omega)
      have g3 : decide (e < 0) = true := by simpa using he
      by_cases hu : 0 ≤ u
      · have g4 : decide (0 ≤ u) = true := by simpa using hu
        go_wp2_with ((with_reducible refine (later_impl _ _ (by first | exact HT.out | exact HE.out | exact HU.out | exact sat_fits _) (by first | exact HT.out | exact HE.out | exact HU.out | exact sat_fits _) _).mono ?_); rintro x w' ⟨rfl, rfl⟩)
        go_ret
        exact ⟨rfl, HK2.out⟩
      · have g4 : decide (0 ≤ u) = false := by simpa using hu
        go_wp2_with ((with_reducible refine (later_impl _ _ (by first | exact HT.out | exact HE.out | exact HU.out | exact sat_fits _) (by first | exact HT.out | exact HE.out | exact HU.out | exact sat_fits _) _).mono ?_); rintro x w' ⟨rfl, rfl⟩)
        go_ret
        exact ⟨rfl, HK2.out⟩
theorem sat_back {t u : Int} (ht : 0 ≤ t) (hu : 0 ≤ u) (ht1 : Fits t) (hu1 : Fits u) : sat (t + sat (u - t)) = u := by unfold Fits at ht1 hu1; unfold sat; omega

set_option maxHeartbeats 1600000 in
theorem lawBetween_small (xs : List Int) (A : Option Addr) (c : Nat) (w : World) (h : Rd (Value.int .u8) w w.heap.size A xs) (hx : ∀ x ∈ xs, 0 ≤ x ∧ x ≤ 255) (hl : xs.length ≤ 4096) :
    Calls Try.prog 4 #[.slice A xs.length c] w fun e w' => e = .returned (.bool true) ∧ Kept 0 0 w w' := by
  have hm := h.1
  have hbig : decide (4096 < xs.length) = false := by simpa using hl
  have H := Lib.hid h
  have HX := Lib.hid hx
  have HB := Lib.hid hbig
  clear h hx hbig
  go_enter Try.func4, Try.ntmps4
  go_wp2_with fail
  with_reducible refine (big_any _ _ _ _ hm).mono ?_
  rintro e w' ⟨rfl, rfl⟩
  rw [HB.out]
  go_wp2_with fail
  with_reducible refine (drawBetween_any _ _ _ _ H.out HX.out hl).mono ?_
  rintro x w1 ⟨t, u, rfl, ht, hu, hk⟩
  have HT := Lib.hid ht
  have HU := Lib.hid hu
  have HK := Lib.hid hk
  clear ht hu hk H HX hm HB
  by_cases ht : t < 0
  · have g1 : decide (t < 0) = true := by simpa using ht
    go_wp2_with (first | ((with_reducible refine (later_impl _ _ (by first | exact HT.out | exact HU.out | exact sat_fits _) (by first | exact HT.out | exact HU.out | exact sat_fits _) _).mono ?_); rintro x w' ⟨rfl, rfl⟩) | ((with_reducible refine (between_impl _ _ (by first | exact HT.out | exact HU.out | exact sat_fits _) (by first | exact HT.out | exact HU.out | exact sat_fits _) _).mono ?_); rintro x w' ⟨rfl, rfl⟩) | ((with_reducible refine (between_spec _ _ (by first | exact HT.out | exact HU.out | exact sat_fits _) (by first | exact HT.out | exact HU.out | exact sat_fits _) _).mono ?_); rintro x w' ⟨rfl, rfl⟩) | ((with_reducible refine (sooner_impl _ _ _).mono ?_); rintro x w' ⟨rfl, rfl⟩) | ((with_reducible refine (sooner_spec _ _ _).mono ?_); rintro x w' ⟨rfl, rfl⟩) | ((with_reducible refine (due_impl _ _ _).mono ?_); rintro x w' ⟨rfl, rfl⟩))
    go_ret
    exact ⟨rfl, HK.out⟩
  · have g1 : decide (t < 0) = false := by simpa using ht
    by_cases hu : u < 0
    · have g2 : decide (u < 0) = true := by simpa using hu
      go_wp2_with (first | ((with_reducible refine (later_impl _ _ (by first | exact HT.out | exact HU.out | exact sat_fits _) (by first | exact HT.out | exact HU.out | exact sat_fits _) _).mono ?_); rintro x w' ⟨rfl, rfl⟩) | ((with_reducible refine (between_impl _ _ (by first | exact HT.out | exact HU.out | exact sat_fits _) (by first | exact HT.out | exact HU.out | exact sat_fits _) _).mono ?_); rintro x w' ⟨rfl, rfl⟩) | ((with_reducible refine (between_spec _ _ (by first | exact HT.out | exact HU.out | exact sat_fits _) (by first | exact HT.out | exact HU.out | exact sat_fits _) _).mono ?_); rintro x w' ⟨rfl, rfl⟩) | ((with_reducible refine (sooner_impl _ _ _).mono ?_); rintro x w' ⟨rfl, rfl⟩) | ((with_reducible refine (sooner_spec _ _ _).mono ?_); rintro x w' ⟨rfl, rfl⟩) | ((with_reducible refine (due_impl _ _ _).mono ?_); rintro x w' ⟨rfl, rfl⟩))
      go_ret
      exact ⟨rfl, HK.out⟩
    · have g2 : decide (u < 0) = false := by simpa using hu
      have g3 : (sat (t + sat (u - t)) == u) = true := by rw [sat_back (by omega) (by omega) HT.out HU.out]; simp
      by_cases hn : t ≤ u
      · have g4 : (lesser t u == t) = true := by unfold lesser; rw [if_pos hn]; simp
        have g5 : dueB u t = (t != 9223372036854775807) := by unfold dueB; rw [decide_eq_true hn]; rfl
        by_cases h9 : t = 9223372036854775807
        · have g6 : (t != 9223372036854775807) = false := by simpa using h9
          have g7 : dueB u t = false := g5.trans g6
          clear g5 h9
          go_wp2_with (first | ((with_reducible refine (later_impl _ _ (by first | exact HT.out | exact HU.out | exact sat_fits _) (by first | exact HT.out | exact HU.out | exact sat_fits _) _).mono ?_); rintro x w' ⟨rfl, rfl⟩) | ((with_reducible refine (between_impl _ _ (by first | exact HT.out | exact HU.out | exact sat_fits _) (by first | exact HT.out | exact HU.out | exact sat_fits _) _).mono ?_); rintro x w' ⟨rfl, rfl⟩) | ((with_reducible refine (between_spec _ _ (by first | exact HT.out | exact HU.out | exact sat_fits _) (by first | exact HT.out | exact HU.out | exact sat_fits _) _).mono ?_); rintro x w' ⟨rfl, rfl⟩) | ((with_reducible refine (sooner_impl _ _ _).mono ?_); rintro x w' ⟨rfl, rfl⟩) | ((with_reducible refine (sooner_spec _ _ _).mono ?_); rintro x w' ⟨rfl, rfl⟩) | ((with_reducible refine (due_impl _ _ _).mono ?_); rintro x w' ⟨rfl, rfl⟩))
          go_ret
          exact ⟨rfl, HK.out⟩
        · have g6 : (t != 9223372036854775807) = true := by simpa using h9
          have g7 : dueB u t = true := g5.trans g6
          clear g5 h9
          go_wp2_with (first | ((with_reducible refine (later_impl _ _ (by first | exact HT.out | exact HU.out | exact sat_fits _) (by first | exact HT.out | exact HU.out | exact sat_fits _) _).mono ?_); rintro x w' ⟨rfl, rfl⟩) | ((with_reducible refine (between_impl _ _ (by first | exact HT.out | exact HU.out | exact sat_fits _) (by first | exact HT.out | exact HU.out | exact sat_fits _) _).mono ?_); rintro x w' ⟨rfl, rfl⟩) | ((with_reducible refine (between_spec _ _ (by first | exact HT.out | exact HU.out | exact sat_fits _) (by first | exact HT.out | exact HU.out | exact sat_fits _) _).mono ?_); rintro x w' ⟨rfl, rfl⟩) | ((with_reducible refine (sooner_impl _ _ _).mono ?_); rintro x w' ⟨rfl, rfl⟩) | ((with_reducible refine (sooner_spec _ _ _).mono ?_); rintro x w' ⟨rfl, rfl⟩) | ((with_reducible refine (due_impl _ _ _).mono ?_); rintro x w' ⟨rfl, rfl⟩))
          go_ret
          exact ⟨rfl, HK.out⟩
      · have g4 : (lesser t u == t) = false := by unfold lesser; rw [if_neg hn]; simp; omega
        have g5 : dueB u t = false := by unfold dueB; rw [decide_eq_false hn]; rfl
        go_wp2_with (first | ((with_reducible refine (later_impl _ _ (by first | exact HT.out | exact HU.out | exact sat_fits _) (by first | exact HT.out | exact HU.out | exact sat_fits _) _).mono ?_); rintro x w' ⟨rfl, rfl⟩) | ((with_reducible refine (between_impl _ _ (by first | exact HT.out | exact HU.out | exact sat_fits _) (by first | exact HT.out | exact HU.out | exact sat_fits _) _).mono ?_); rintro x w' ⟨rfl, rfl⟩) | ((with_reducible refine (between_spec _ _ (by first | exact HT.out | exact HU.out | exact sat_fits _) (by first | exact HT.out | exact HU.out | exact sat_fits _) _).mono ?_); rintro x w' ⟨rfl, rfl⟩) | ((with_reducible refine (sooner_impl _ _ _).mono ?_); rintro x w' ⟨rfl, rfl⟩) | ((with_reducible refine (sooner_spec _ _ _).mono ?_); rintro x w' ⟨rfl, rfl⟩) | ((with_reducible refine (due_impl _ _ _).mono ?_); rintro x w' ⟨rfl, rfl⟩))
        go_ret
        exact ⟨rfl, HK.out⟩
end Go.Proofs.Ytlcnkcmgbambaaa
