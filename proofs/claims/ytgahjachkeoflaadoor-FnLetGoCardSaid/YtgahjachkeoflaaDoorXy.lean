/- From what the rows list of the package's variables to what the walks want of them; a world that meets the lists; variables that read behind the call as before; no condition. -/
import Derived.Test.YtgahjachkeoflaaDoorCards
import Derived.Test.YtgahjachkeoflaaDoorTie
import Derived.Test.YtgahjachkeoflaaDoorXt
import Derived.Test.YtgahjachkeoflaaDoorLf
import Derived.Stop.LaidTwo
import Derived.LaidLaws
import Derived.LaidHandle
import Derived.OpenShut
import Derived.OpenVars
import Derived.Deep.DeepHandedRow
import Derived.Stop.Joined
import Derived.Stop.Texts
namespace Go.Proofs.YtgahjachkeoflaaDoor
open Go.ChangeShapes Go.WideShapes Go.ChangeAt Go.RowKit Go.WideElems

theorem Tryd.gC : Tryd.prog.globalNamed "loop.example/g00673/impl.errCanceled" = some 0 := by kernel_rfl
theorem Tryd.gD : Tryd.prog.globalNamed "loop.example/g00673/impl.errDeadline" = some 1 := by kernel_rfl
theorem Tryd.gE : Tryd.prog.globalNamed "errors.errorType" = some 2 := by kernel_rfl
theorem Tryd.gCType : (Tryd.prog.globals[0]?).map (·.type) = some 72 := by kernel_rfl
theorem Tryd.gDType : (Tryd.prog.globals[1]?).map (·.type) = some 72 := by kernel_rfl
theorem Tryd.cellsES : Tryd.prog.cellsOf 163 = 1 := by kernel_rfl
theorem Tryd.cellsStr : Tryd.prog.cellsOf 9 = 1 := by kernel_rfl
theorem Tryd.star : "*" ++ "errors.errorString" = "*errors.errorString" := by decide
theorem Tryd.rowES (u : TypeId) (h : Tryd.prog.typeName? 3 u = some "*errors.errorString") : u = 141 :=
  typeName_ptr_named (nm := "errors.errorString") (by rw [Tryd.star]; kernel_rfl) (by kernel_rfl) (by decide) u (by rw [Tryd.star]; exact h)

/-- The two sentinels of the lists. -/
theorem sen_of_laid {W : World} (h : laidMet Tryd.prog [("loop.example/g00673/impl.errCanceled", Rows.laid_loop_example_g00673_impl_errCanceled), ("loop.example/g00673/impl.errDeadline", Rows.laid_loop_example_g00673_impl_errDeadline)] W) : ∃ a0 a1, Sen W a0 a1 := by
  obtain ⟨a0, a1, s0, s1, c0, c1, t0, t1, hv0, hv1, _, _, _, _, _, _, hne, hb0, hb1⟩ := laid_sentinels2 h Tryd.gC Tryd.gCType Tryd.gD Tryd.gDType Tryd.underlying72 Tryd.rowES Tryd.underlying141 Tryd.underlying163 rfl rfl Tryd.underlying9 Tryd.cellsES Tryd.cellsStr
  exact ⟨a0, a1, by simpa using World.var?_cell Tryd.gC hv0 0, by simpa using World.var?_cell Tryd.gD hv1 0, hne, ⟨c0, t0, hb0⟩, ⟨c1, t1, hb1⟩⟩
theorem Tryd.rt : (Tryd.prog.cutTypes.find? (·.1 == "internal/reflectlite.rtype")).map (·.2) = some 116 := by kernel_rfl
theorem Tryd.oneRow : ((List.range 175).filter fun t => Tryd.prog.rowNamed t [101, 114, 114, 111, 114]) = [72] := by kernel_rfl
/-- The handle of the lists. -/
theorem typ_of_handle {W : World} {hs : List (String × DataW Unit)} (h : handlesMet Tryd.prog hs W) (hm : ("errors.errorType", Rows.laid_errors_errorType) ∈ hs) : Typ W := by
  obtain ⟨name, u, ty, e1, e2, e3, e4, e5⟩ := h _ hm
  have en : name = [101, 114, 114, 111, 114] := (Option.some.inj e1).symm
  subst en
  obtain rfl := Option.some.inj (Tryd.rt.symm.trans e2)
  have hm : ty ∈ (List.range 175).filter fun t => Tryd.prog.rowNamed t [101, 114, 114, 111, 114] := List.mem_filter.2 ⟨List.mem_range.2 (by rw [← Tryd.nTypes]; exact e3), e4⟩
  rw [Tryd.oneRow] at hm
  obtain rfl := List.mem_singleton.1 hm
  have hh : typeHandle Tryd.prog 72 = .pointer (some ⟨3, 72, none⟩) := by kernel_rfl
  rw [hh] at e5
  have := World.var?_cell Tryd.gE e5 0
  unfold Typ
  simpa using this

abbrev canceledS : ByteArray := { data := #[99, 97, 110, 99, 101, 108, 101, 100] }
abbrev deadlineS : ByteArray := { data := #[100, 101, 97, 100, 108, 105, 110, 101, 32, 114, 101, 97, 99, 104, 101, 100] }
noncomputable def low : Nat := (World.holding Tryd.prog default ⟨#[], #[], []⟩).heap.size
/-- A world that meets the lists. -/
noncomputable def laidWorld (os : Os) : World :=
  let w0 := World.holding Tryd.prog os ⟨#[.cells #[.string canceledS] 163, .cells #[.string deadlineS] 163], #[], []⟩
  { w0 with heap := ((w0.heap.modify 0 fun
      | .cells _ t frozen => .cells #[.iface 141 (.pointer (some ⟨low, 0, none⟩))] t frozen
      | o => o).modify 1 fun
      | .cells _ t frozen => .cells #[.iface 141 (.pointer (some ⟨low + 1, 0, none⟩))] t frozen
      | o => o).modify 2 fun
      | .cells _ t frozen => .cells #[.iface 116 (.agg #[.pointer (some ⟨3, 72, none⟩)])] t frozen
      | o => o }
theorem laid_met (os : Os) (args : Array Value) : laidMet Tryd.prog [("loop.example/g00673/impl.errCanceled", Rows.laid_loop_example_g00673_impl_errCanceled), ("loop.example/g00673/impl.errDeadline", Rows.laid_loop_example_g00673_impl_errDeadline)] ((laidWorld os).forCall (fun _ _ => 0) ⟨#[], args, []⟩).memory :=
  laidMet_of_run' 8 (by kernel_rfl) (by kernel_rfl)
theorem laid_metH (os : Os) (args : Array Value) : laidMetH Tryd.prog [("errors.errorType", Rows.laid_errors_errorType), ("loop.example/g00673/impl.errCanceled", Rows.laid_loop_example_g00673_impl_errCanceled), ("loop.example/g00673/impl.errDeadline", Rows.laid_loop_example_g00673_impl_errDeadline)] ((laidWorld os).forCall (fun _ _ => 0) ⟨#[], args, []⟩).memory :=
  laidMetH_of_parts (laid_met os args) (by kernel_rfl)

/-- Variables read behind the call as before, where nothing old has turned. -/
theorem vars_stay {H : Type} {enc : TypeId × Value → H} {P : Program} (hl : laidOutB P = true) {W W' : World} (hb : Below W.heap.size W W') (sp : Nat → Bool) :
    ∀ {ns : List String} {gs : List (DataW H)} {ps : List MemPlace}, varsRowed P ns = true → DataW.TrodVars enc P W (fun _ => true) ns gs ps → (∀ x ∈ ps, sp x.block = true) → DataW.TrodVars enc P W' sp ns gs ps
  | [], [], _, _, h, _ => h
  | [], _ :: _, _, _, h, _ => h.elim
  | _ :: _, [], _, _, h, _ => h.elim
  | n :: ns, d :: ds, ps, hv, h, hsp => by
    have hlt := h.lt
    obtain ⟨g, t, cs, fuel, p, q, h1, h2, h3, h4, hs, e⟩ := h
    simp only [varsRowed, List.all_cons, Bool.and_eq_true] at hv
    have ht : P.readableRec t = true ∧ t < P.types.size := by
      have := hv.1
      rw [h1] at this
      cases hg : P.globals[g]? with
      | none => rw [hg] at h2; cases h2
      | some gl =>
        rw [hg] at h2
        obtain rfl : gl.type = t := Option.some.inj h2
        simpa [hg] using this
    have hp : ∀ x ∈ p, x.block < W.heap.size := fun x hx => hlt x (by rw [e]; simp [hx])
    have h3' : W'.var? P n = some cs := by
      unfold World.var? at h3 ⊢
      rw [h1] at h3 ⊢
      simp only [Option.bind_some] at h3 ⊢
      have hg : g < W.heap.size := by
        cases hh : W.heap[g]? with
        | none => rw [hh] at h3; cases h3
        | some o => exact (Array.getElem?_eq_some_iff.1 hh).1
      rw [hb.block g hg]; exact h3
    exact ⟨g, t, cs, fuel, p, q, h1, h2, h3', DataW.trod_stays (kids_book hl ht.1) (book_sized ht.1) (fun h => by cases h) ⟨ht.2, book_self t⟩ h4 (fun x hx => hb.same (hp x hx)) (fun x hx => hsp x (by rw [e]; simp [hx])),
      vars_stay hl hb sp (by simpa [varsRowed] using hv.2) hs (fun x hx => hsp x (by rw [e]; simp [hx])), e⟩
end Go.Proofs.YtgahjachkeoflaaDoor
