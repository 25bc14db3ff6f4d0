/- What several references share: the test whether a number lies in a range, and an empty row; no condition. -/
import Derived.Test.YtfpnpjpcjbndoaaRc
namespace Go.Proofs.Ytfpnpjpcjbndoaa
open Go.RowKit Go.Sort

/-- A number of a range. -/
def inT (x lo hi : Int) : Bool := decide (lo ≤ x) && decide (x ≤ hi)
theorem l1In_any (x lo hi : Int) (w : World) :
    Calls Try.prog 45 #[.int .i64 x, .int .i64 lo, .int .i64 hi] w fun e w' => e = .returned (.bool (decide (lo ≤ x) && decide (x ≤ hi))) ∧ w = w' := by
  by_cases h1 : lo ≤ x
  · have g1 : decide (lo ≤ x) = true := by simpa using h1
    go_enter Try.func45, Try.ntmps45
    go_wp2
    go_ret
    exact ⟨by simp [h1], rfl⟩
  · have g1 : decide (lo ≤ x) = false := by simpa using h1
    go_enter Try.func45, Try.ntmps45
    go_wp2
    go_ret
    exact ⟨ret_bool (by first | rfl | (rw [g1]; rfl)), rfl⟩
theorem own_emptyZ {w : World} {g base e size : Nat} (h : Blk w g e #[]) (hb : base ≤ g) : w.ownsRow base e size (.slice (some ⟨g, 0, none⟩) 0 0) 0 [] :=
  ⟨by simp, .inr ⟨g, 0, #[], rfl, hb, h, Nat.le_refl _, by unfold maxLen; omega, by simp, by simp⟩⟩
/-- A row stays while a row of another type is written. -/
theorem OwnZ.other {w w' : World} {lo hi e size n c lo' hi' e' size' n' c' : Nat} {A A' : Option Addr} {xs xs' : List Value} (h : OwnZ w lo hi e size A n c xs) (h' : OwnZ w lo' hi' e' size' A' n' c' xs') (hne : e ≠ e') (hk : Kept (aLo A) (aHi A) w w') : OwnZ w' lo' hi' e' size' A' n' c' xs' := by
  refine ⟨⟨h'.1.1, ?_⟩, h'.2⟩
  rcases h'.1.2 with hn | ⟨g, cap, cur, hv, hb, hg, rest⟩
  · exact .inl hn
  · refine .inr ⟨g, cap, cur, hv, hb, ?_, rest⟩
    rw [hk.block g (Array.getElem?_eq_some_iff.1 hg).1 ?_]
    · exact hg
    rcases h.1.2 with ⟨hv1, _⟩ | ⟨g1, cap1, cur1, hv1, _, hg1, _⟩
    · injection hv1 with h1
      subst h1
      exact .inr (Nat.zero_le _)
    · injection hv1 with h1
      subst h1
      have : g ≠ g1 := by
        rintro rfl
        rw [hg] at hg1
        injection hg1 with hg1
        injection hg1 with _ ht
        exact hne ht.symm
      show g < g1 ∨ g1 + 1 ≤ g
      omega
end Go.Proofs.Ytfpnpjpcjbndoaa
