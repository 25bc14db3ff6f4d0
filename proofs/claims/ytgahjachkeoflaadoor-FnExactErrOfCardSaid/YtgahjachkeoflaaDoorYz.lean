/- What the elements of the laws' slices of nodes and events read as; no condition. -/
import Derived.Test.YtgahjachkeoflaaDoorXy
import Derived.Test.YtgahjachkeoflaaDoorXe
import Derived.Test.YtgahjachkeoflaaDoorNd
import Derived.Deep.DeepHandedRow
namespace Go.Proofs.YtgahjachkeoflaaDoor
open Go.ChangeShapes Go.WideShapes Go.ChangeAt Go.RowKit Go.Joins Go.Deep

theorem Tryd.cells2' : Tryd.prog.cellsOf 2 = 1 := by kernel_rfl
theorem Tryd.cellsNd : Tryd.prog.cellsOf 83 = ndR.k := by kernel_rfl
set_option maxRecDepth 100000 in
theorem readsNd (H : Type) (enc : TypeId × Value → H) (w : World) (held : Bool) : ReadsAs enc Tryd.prog w held 83 ndR (fun _ => True) := by
  intro n cs y hl h
  obtain ⟨xs, m, _, _, _, hxl, hf⟩ := DataW.trod_struct Tryd.underlying83 h
  match cs, hl with
  | [a, b, c, d, e], _ =>
    have f0 := hf 0 _ rfl
    have f1 := hf 1 _ rfl
    have f2 := hf 2 _ rfl
    have f3 := hf 3 _ rfl
    have f4 := hf 4 _ rfl
    match xs, hxl with
    | [x0, x1, x2, x3, x4], _ =>
      obtain ⟨n0, e0, _⟩ := DataW.trod_int Tryd.underlying2 f0
      obtain ⟨n1, e1, _⟩ := DataW.trod_int Tryd.underlying2 f1
      obtain ⟨n2, e2, _⟩ := DataW.trod_int Tryd.underlying2 f2
      obtain ⟨n3, e3, _⟩ := DataW.trod_int Tryd.underlying2 f3
      obtain ⟨n4, e4, _⟩ := DataW.trod_int Tryd.underlying2 f4
      have g0 : a = .int .i64 n0 := by simpa [Tryd.cells2'] using e0
      have g1 : b = .int .i64 n1 := by simpa [Tryd.cells2'] using e1
      have g2 : c = .int .i64 n2 := by simpa [Tryd.cells2'] using e2
      have g3 : d = .int .i64 n3 := by simpa [Tryd.cells2'] using e3
      have g4 : e = .int .i64 n4 := by simpa [Tryd.cells2'] using e4
      exact ⟨⟨n0, n1, n2, n3, n4⟩, by rw [g0, g1, g2, g3, g4]; rfl, trivial⟩
theorem Tryd.cellsEv : Tryd.prog.cellsOf 51 = evR.k := by kernel_rfl
set_option maxRecDepth 100000 in
theorem readsEv (H : Type) (enc : TypeId × Value → H) (w : World) (held : Bool) : ReadsAs enc Tryd.prog w held 51 evR (fun _ => True) := by
  intro n cs y hl h
  obtain ⟨xs, m, _, _, _, hxl, hf⟩ := DataW.trod_struct Tryd.underlying51 h
  match cs, hl with
  | [a, b, c, d], _ =>
    have f0 := hf 0 _ rfl
    have f1 := hf 1 _ rfl
    have f2 := hf 2 _ rfl
    have f3 := hf 3 _ rfl
    match xs, hxl with
    | [x0, x1, x2, x3], _ =>
      obtain ⟨n0, e0, _⟩ := DataW.trod_int Tryd.underlying2 f0
      obtain ⟨n1, e1, _⟩ := DataW.trod_int Tryd.underlying2 f1
      obtain ⟨n2, e2, _⟩ := DataW.trod_int Tryd.underlying2 f2
      obtain ⟨n3, e3, _⟩ := DataW.trod_int Tryd.underlying2 f3
      have g0 : a = .int .i64 n0 := by simpa [Tryd.cells2'] using e0
      have g1 : b = .int .i64 n1 := by simpa [Tryd.cells2'] using e1
      have g2 : c = .int .i64 n2 := by simpa [Tryd.cells2'] using e2
      have g3 : d = .int .i64 n3 := by simpa [Tryd.cells2'] using e3
      exact ⟨⟨n0, n1, n2, n3⟩, by rw [g0, g1, g2, g3]; rfl, trivial⟩
/-- A struct among the arguments reads as a record. -/
theorem open_struct {H : Type} {enc : TypeId × Value → H} {P : Program} {w : World} {held : Bool} {r : Reach} {b0 : Nat} {t : TypeId} {fs : Array Field} {v : Value} {d : DataW H} {p : List MemPlace} {α : Type} {R : Rec α} {good : α → Prop}
    (hs : P.underlying t = some (.struct fs)) (hC : P.cellsOf t = R.k) (hel : ReadsAs enc P w held t R good) (hv : Value.okWide P w r b0 t v) (h : DataW.Trod enc P w 0 (fun _ => true) held t v d p) :
    ∃ x, v = .agg (R.cells x).toArray ∧ good x := by
  obtain ⟨cs, rfl, hsz⟩ := okWide_struct hs hv
  obtain ⟨fuel, hf⟩ := h
  obtain ⟨x, hx, hg⟩ := hel fuel cs.toList _ (by rw [← hC, ← hsz]; simp) (by simpa [Value.cells] using hf)
  exact ⟨x, by rw [hx], hg⟩

end Go.Proofs.YtgahjachkeoflaaDoor
