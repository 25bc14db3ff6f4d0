/- The timers as one value: two slices and a number; the helper functions of the laws over them (size, copy, compare, mark, check marks); no condition beyond what each theorem states. -/
import Derived.Test.YtnphjohmkjoefaaTm
namespace Go.Proofs.Ytnphjohmkjoefaa
open Go.RowKit Go.Sort

structure Tms where
  heap : List Tw
  list : List Tm
  next : Int
deriving DecidableEq
/-- Timers that can be read. -/
def RdM (w : World) (B : Nat) (v : Value) (t : Tms) : Prop := ∃ hv lv, v = .agg #[hv, lv, .int .i64 t.next] ∧ RdT w B hv t.heap ∧ RdTm w B lv t.list
/-- Timers of the call's own. -/
def OwnM (w : World) (lo hi : Nat) (v : Value) (t : Tms) : Prop := ∃ hv lv, v = .agg #[hv, lv, .int .i64 t.next] ∧ OwnT w lo hi hv t.heap ∧ OwnTm w lo hi lv t.list
section
variable {w w' : World} {B B' lo hi lo' hi' : Nat} {v : Value} {t : Tms}
theorem RdM.kept (h : RdM w B v t) (hB : B ≤ w.heap.size) (hk : Kept lo hi w w') (hr : hi ≤ lo ∨ B ≤ lo) : RdM w' B v t := by
  obtain ⟨a, b, e, h1, h2⟩ := h; exact ⟨a, b, e, h1.kept hB hk hr, h2.kept hB hk hr⟩
theorem RdM.wide (h : RdM w B v t) (hB : B ≤ B') : RdM w B' v t := by
  obtain ⟨a, b, e, h1, h2⟩ := h; exact ⟨a, b, e, h1.wide hB, h2.wide hB⟩
theorem RdM.up (h : RdM w w.heap.size v t) (hk : Kept 0 0 w w') : RdM w' w'.heap.size v t := (h.kept (Nat.le_refl _) hk (.inl (Nat.le_refl _))).wide hk.size
theorem OwnM.kept (h : OwnM w lo hi v t) (hk : Kept lo' hi' w w') (hr : hi' ≤ lo' ∨ hi ≤ lo' ∨ hi' ≤ lo) : OwnM w' lo hi v t := by
  obtain ⟨a, b, e, h1, h2⟩ := h; exact ⟨a, b, e, h1.kept hk hr, h2.kept hk hr⟩
theorem OwnM.wide (h : OwnM w lo hi v t) (hl : lo' ≤ lo) (hh : hi ≤ hi') : OwnM w lo' hi' v t := by
  obtain ⟨a, b, e, h1, h2⟩ := h; exact ⟨a, b, e, h1.wide hl hh, h2.wide hl hh⟩
theorem OwnM.rdW (h : OwnM w lo hi v t) (hh : hi ≤ w.heap.size) : RdM w w.heap.size v t := by
  obtain ⟨a, b, e, h1, h2⟩ := h; exact ⟨a, b, e, h1.rdW hh, h2.rdW hh⟩
theorem RdM.agg (h : RdM w B v t) : ∃ hv lv, v = .agg #[hv, lv, .int .i64 t.next] := by obtain ⟨a, b, e, _⟩ := h; exact ⟨a, b, e⟩
end

/-- A row stays while a row of another type is written. -/
theorem OwnZ.other {w w' : World} {lo hi e size n c lo' hi' e' size' n' c' : Nat} {A A' : Option Addr} {xs xs' : List Value} (h : OwnZ w lo hi e size A n c xs) (h' : OwnZ w lo' hi' e' size' A' n' c' xs') (hne : e ≠ e') (hk : Kept (aLo A) (aHi A) w w') : OwnZ w' lo' hi' e' size' A' n' c' xs' := by
  refine ⟨⟨h'.1.1, ?_⟩, h'.2⟩
  rcases h'.1.2 with hn | ⟨g, cap, cur, hv, hb, hg, rest⟩
  · exact .inl hn
  · refine .inr ⟨g, cap, cur, hv, hb, ?_, rest⟩
    rw [hk.block g (Array.getElem?_eq_some_iff.1 hg).1 ?_]
    · exact hg
    rcases h.1.2 with ⟨hv1, _⟩ | ⟨g1, cap1, cur1, hv1, _, hg1, _⟩
    · injection hv1 with h1
      subst h1
      exact .inr (Nat.zero_le _)
    · injection hv1 with h1
      subst h1
      have : g ≠ g1 := by
        rintro rfl
        rw [hg] at hg1
        injection hg1 with hg1
        injection hg1 with _ ht
        exact hne ht.symm
      show g < g1 ∨ g1 + 1 ≤ g
      omega
/-- What the marks write. -/
def marksM (k : Int) (t : Tms) : Tms := ⟨marksT k t.heap.length, marksTm (k + 3 * (t.heap.length : Int)) t.list.length, t.next⟩
def markN (k : Int) (t : Tms) : Int := k + 3 * (t.heap.length : Int) + 5 * (t.list.length : Int)

end Go.Proofs.Ytnphjohmkjoefaa
