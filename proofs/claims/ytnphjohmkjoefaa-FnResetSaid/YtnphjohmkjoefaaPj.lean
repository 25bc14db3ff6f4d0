/- The program's linking of a list that is a heap (heapOf). No condition beyond that the slice can be read. -/
import Derived.Test.YtnphjohmkjoefaaPi
namespace Go.Proofs.Ytnphjohmkjoefaa
open Go.RowKit Go.Sort

theorem heapOk_fit (xs : List Tw) : heapOkB xs = (fitB xs && decide (0 ≤ rankL xs)) := rfl
def HeapPost (xs : List Tw) (w : World) (e : Ending) (w' : World) : Prop :=
  Kept 0 0 w w' ∧ ∃ p, e = .returned (.tuple #[.pointer p, .bool (heapOkB xs)]) ∧ (heapOkB xs = true → ∃ t : PT, p = t.adr ∧ Linked t w w' xs)
set_option maxHeartbeats 800000 in
theorem heapOf_any (xs : List Tw) (v : Value) (w : World) (h : RdT w w.heap.size v xs) : Calls Try.prog 45 #[v] w (HeapPost xs w) := by
  have H := Lib.hid h
  have CF := Lib.hid (fit_any xs v w h)
  obtain ⟨A, c, rfl, h⟩ := h
  clear h
  have E := Lib.hid (heapOk_fit xs)
  go_enter Try.func45, Try.ntmps45
  go_wp2_with fail
  with_reducible refine CF.out.mono ?_
  rintro e w1 ⟨rfl, hk⟩
  have K1 := Lib.hid hk
  clear hk CF
  cases hf : fitB xs
  · rw [hf] at E
    clear hf
    go_wp2_with fail
    go_ret2
    exact ⟨K1.out, none, ret_pb (by rw [E.out]; rfl), fun hh => by rw [E.out] at hh; cases hh⟩
  · rw [hf] at E
    have hl : xs.length ≤ 64 := by simp only [fitB, Bool.and_eq_true, decide_eq_true_eq] at hf; exact hf.1
    obtain ⟨A', c', e0, sl⟩ := H.out.up K1.out
    injection e0 with e1 e2 e3
    subst e1 e3
    have CL := Lib.hid (linked_any xs _ _ _ w1 (by omega) (Nat.le_refl _) sl)
    clear hf sl e2
    go_wp2_with fail
    with_reducible refine CL.out.mono ?_
    rintro e w2 ⟨k2, p, rfl, h2⟩
    have K2 := Lib.hid k2
    have H2 := Lib.hid h2
    clear k2 h2 CL
    go_wp2_with fail
    go_ret2
    refine ⟨K1.out.trans K2.out, p, ret_pb (by rw [E.out]; rfl), fun hh => ?_⟩
    rw [E.out] at hh
    obtain ⟨t, rfl, L⟩ := H2.out (by simpa using hh)
    exact ⟨t, rfl, L.lay, L.pre, L.ok, L.nd, fun g hg => Nat.le_trans K1.out.size (L.new g hg)⟩
theorem Linked.tree {t : PT} {w w' : World} {xs : List Tw} (h : Linked t w w' xs) : treeOf xs = t.tree := by rw [← h.pre]; exact treeOf_of _ h.ok
theorem Linked.uniq {t : PT} {w w' : World} {xs : List Tw} (h : Linked t w w' xs) (ho : heapOkB xs = true) : uniq t.tree := uniq_pre (by rw [h.pre]; exact (heapOk_iff.1 ho).2.1)
theorem Linked.small {t : PT} {w w' : World} {xs : List Tw} (h : Linked t w w' xs) (ho : heapOkB xs = true) : t.size ≤ 64 := by rw [h.size]; exact (heapOk_iff.1 ho).1
end Go.Proofs.Ytnphjohmkjoefaa
