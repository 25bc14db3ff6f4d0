/- The reference's Grown; no condition beyond that the slice can be read. -/
import Derived.Test.YtlfbmjfbebbdlaaNs
import Derived.Deep.RegionHeld3
namespace Go.Proofs.Ytlfbmjfbebbdlaa
open Go.RowKit Go.Sort

theorem own_litN (w : World) (x : Nd) : (w.alloc (.cells #[.int .i64 x.kind, .int .i64 x.up, .int .i64 x.due, .int .i64 x.key, .int .i64 x.value] 59)).ownsRow w.heap.size 59 5 (.slice (some ⟨w.heap.size, 0, none⟩) 1 1) 1 (ndR.flat [x]) :=
  World.ownsRow_lit w #[.int .i64 x.kind, .int .i64 x.up, .int .i64 x.due, .int .i64 x.key, .int .i64 x.value] 1 (Nat.le_refl _) (by unfold maxLen; omega) rfl
theorem rd_litN (w : World) (x : Nd) : RdR ndR (w.alloc (.cells #[.int .i64 x.kind, .int .i64 x.up, .int .i64 x.due, .int .i64 x.key, .int .i64 x.value] 59)) (w.heap.size + 1) (some ⟨w.heap.size, 0, none⟩) [x] := by
  have := (OwnZ.rd (R := ndR) (OwnZ.of_row (own_litN w x))).2
  simpa using this
section
variable {w : World} {g : Nat} {ty : TypeId} {a b c d e : Value}
theorem by0 (h : Blk w g ty #[a, b, c, d, e]) : w.cell? ⟨g, 0, none⟩ = some a := h.cell 0
theorem by1 (h : Blk w g ty #[a, b, c, d, e]) : w.cell? ⟨g, 1, none⟩ = some b := h.cell 1
theorem by2 (h : Blk w g ty #[a, b, c, d, e]) : w.cell? ⟨g, 2, none⟩ = some c := h.cell 2
theorem by3 (h : Blk w g ty #[a, b, c, d, e]) : w.cell? ⟨g, 3, none⟩ = some d := h.cell 3
theorem by4 (h : Blk w g ty #[a, b, c, d, e]) : w.cell? ⟨g, 4, none⟩ = some e := h.cell 4
end
end Go.Proofs.Ytlfbmjfbebbdlaa
