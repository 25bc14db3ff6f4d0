/- Chapter 9's reference: l9Leash, l9Two, InsOk, ProgOk, l9Name; no condition beyond that the program can be read. -/
import Derived.Test.YtoccbmmjcbjacaaDoorFa
import Derived.Test.YtoccbmmjcbjacaaDoorNb
namespace Go.Proofs.YtoccbmmjcbjacaaDoor
open Go.RowKit Go.Sort

theorem leash_any (n : Int) (w : World) : Calls Tryd.prog 50 #[.int .i64 n] w fun e w' => e = .returned (.bool (leashB n)) ∧ w = w' := by
  go_enter Tryd.func50, Tryd.ntmps50
  go_wp2_with fail
  with_reducible refine (l1In_any _ _ _ _).mono ?_
  rintro e w1 ⟨rfl, rfl⟩
  go_wp2_with fail
  go_ret
  exact ⟨ret_bool rfl, rfl⟩
theorem two_any (n : Int) (w : World) : Calls Tryd.prog 59 #[.int .i64 n] w fun e w' => e = .returned (.bool (twoB n)) ∧ w = w' := by
  go_enter Tryd.func59, Tryd.ntmps59
  go_wp2
  all_goals
    go_ret
    exact ⟨ret_bool (by rw [Bool.eq_iff_iff]; simp [twoB]; try omega), rfl⟩
/-- The box of an instruction. -/
theorem ins0 {w : World} {g ty : Nat} {a b c : Value} (h : Blk w g ty #[a, b, c]) : w.cell? ⟨g, 0, none⟩ = some a := h.cell 0
theorem ins1 {w : World} {g ty : Nat} {a b c : Value} (h : Blk w g ty #[a, b, c]) : w.cell? ⟨g, 1, none⟩ = some b := h.cell 1
theorem ins2 {w : World} {g ty : Nat} {a b c : Value} (h : Blk w g ty #[a, b, c]) : w.cell? ⟨g, 2, none⟩ = some c := h.cell 2
def insV (i : Ins) : Value := .agg #[.int .i64 i.op, .int .i64 i.a, .int .i64 i.b]
end Go.Proofs.YtoccbmmjcbjacaaDoor
