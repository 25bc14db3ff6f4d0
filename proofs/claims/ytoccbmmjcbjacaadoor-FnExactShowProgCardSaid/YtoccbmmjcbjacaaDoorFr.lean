/- The exact law of ShowProg holds as given, with its card: for every argument the law returns true, and the argument reads afterwards as before; condition: the listed package variables hold what the library's text lays (the card ties them). -/
import Derived.Test.YtoccbmmjcbjacaaDoorFq
import Derived.Test.YtoccbmmjcbjacaaDoorCards
import Derived.Test.YtoccbmmjcbjacaaDoorTie
import Derived.Test.YtoccbmmjcbjacaaDoorLf
import Derived.Lay
import Derived.MakeChecks
import Derived.Lib.LaidTab
import Derived.Lib.LaidU8
import Derived.Stop.LaidErr
import Derived.LaidLaws
import Derived.OpenShut
import Derived.OpenVars
import Derived.Deep.DeepHandedRow
import Derived.Stop.Joined
namespace Go.Proofs.YtoccbmmjcbjacaaDoor
open Go.ChangeShapes Go.WideShapes Go.ChangeAt Go.RowKit Go.Joins Go.Deep

theorem Tryd.gPow : Tryd.prog.globalNamed "internal/strconv.uint64pow10" = some 1 := by kernel_rfl
theorem Tryd.gPowType : (Tryd.prog.globals[1]?).map (·.type) = some 135 := by kernel_rfl
theorem Tryd.cellsU64 : Tryd.prog.cellsOf 122 = 1 := by kernel_rfl
theorem Tryd.cellsPow : Tryd.prog.cellsOf 135 = 20 := by kernel_rfl
theorem powData : (Rows.laid_internal_strconv_uint64pow10 : DataW Unit) = Lib.tabData .u64 Lib.pow10Tab := by kernel_rfl
set_option maxRecDepth 100000 in
/-- From what the rows list of the table to what the walks want of it. -/
theorem pow_of {zs : List Int} {W : World} {r : List (String × DataW Unit)} (h : laidMet Tryd.prog (("internal/strconv.uint64pow10", Lib.tabData .u64 zs) :: r) W) : Lib.TabIs Tryd.prog W "internal/strconv.uint64pow10" .u64 zs :=
  Lib.tabIs_of_head Tryd.gPow Tryd.gPowType Tryd.underlying135 Tryd.underlying122 Tryd.cellsU64 Tryd.cellsPow h
set_option maxRecDepth 100000 in
theorem pow_of_laid {W : World} {r : List (String × DataW Unit)} (h : laidMet Tryd.prog (("internal/strconv.uint64pow10", Rows.laid_internal_strconv_uint64pow10) :: r) W) : Pow W := by
  rw [powData] at h
  exact pow_of h

theorem Tryd.cellsNs : Tryd.prog.cellsOf 53 = nsR.k := by kernel_rfl
theorem Tryd.cells2' : Tryd.prog.cellsOf 2 = 1 := by kernel_rfl
set_option maxRecDepth 100000 in
theorem readsNs (H : Type) (enc : TypeId × Value → H) (w : World) (held : Bool) : ReadsAs enc Tryd.prog w held 53 nsR (fun _ => True) := by
  intro n cs y hl h
  obtain ⟨xs, m, _, _, _, hxl, hf⟩ := DataW.trod_struct Tryd.underlying53 h
  match cs, hl with
  | [a, b, c], _ =>
    have f0 := hf 0 _ rfl
    have f1 := hf 1 _ rfl
    have f2 := hf 2 _ rfl
    match xs, hxl with
    | [x0, x1, x2], _ =>
      obtain ⟨n0, e0, _⟩ := DataW.trod_int Tryd.underlying2 f0
      obtain ⟨n1, e1, _⟩ := DataW.trod_int Tryd.underlying2 f1
      obtain ⟨n2, e2, _⟩ := DataW.trod_int Tryd.underlying2 f2
      have g0 : a = .int .i64 n0 := by simpa [Tryd.cells2'] using e0
      have g1 : b = .int .i64 n1 := by simpa [Tryd.cells2'] using e1
      have g2 : c = .int .i64 n2 := by simpa [Tryd.cells2'] using e2
      exact ⟨⟨n0, n1, n2⟩, by rw [g0, g1, g2]; rfl, trivial⟩
set_option maxRecDepth 100000 in
theorem showProg_lifted (os : Os) (started : os.Started) (H : Type) (enc : TypeId × Value → H) (F : Stop.Interp) :
    ReturnsInHanded {} Tryd.checked os 4 .any ((OpenSpec.ofChange Rows.fnExactShowProgSpec).preRow enc Tryd.prog Tryd.f4 Rows.fnExactShowProgRow.domain false Rows.fnExactShowProgRow.laid) (((OpenSpec.ofChange Rows.fnExactShowProgSpec).at F).post enc Tryd.prog Tryd.f4 false true false false) := by
  have hpl : ∀ w, laidMetH Tryd.prog Rows.fnExactShowProgRow.laid w = laidMet Tryd.prog Rows.fnExactShowProgRow.laid w := fun w => MakeChecks.laidMetH_plain _ _ _ (by kernel_rfl)
  refine returnsInHanded_of_row (C := Tryd.checked) (s := OpenSpec.ofChange Rows.fnExactShowProgSpec) Tryd.own started (by kernel_rfl) Tryd.func4
    (witness_row_at (enc := enc) (C := Tryd.checked) false (World.laidAll Tryd.prog os Rows.fnExactShowProgRow.laid) #[.slice none 0 0] (World.laidAll_os _ _ _) (by kernel_rfl) (by kernel_rfl) (by kernel_rfl)
      (OpenSpec.preRow_of_B rfl 8 (by kernel_rfl) (by kernel_rfl) (Eq.mpr (hpl _) (laidMet_laidAll _ (by kernel_rfl) (by kernel_rfl))))) ?_
  intro W base args ds gs before hval0 hW _ _ _ hL0 hSh _
  have hval : ∀ (j : Nat) t v, Tryd.f4.params[j]? = some t → args[j]? = some v → Value.okWide Tryd.prog W .any base t v := hval0
  have hW' := hW
  obtain ⟨p, q, hA0, hV, rfl, hfz, hnd⟩ := hW
  have hA : DataW.TrodAll enc Tryd.prog W 0 (fun _ => true) true Tryd.f4.params.toList args.toList ds p := hA0
  rw [Tryd.params4] at hA hval
  have hL : laidMet Tryd.prog Rows.fnExactShowProgRow.laid W := by rw [← hpl]; exact hL0
  clear hL0
  obtain ⟨v0, vs0, d0, ds0, p0, q0, hargs, rfl, rfl, h0, r0⟩ := trodAll_cons hA
  obtain ⟨rfl, rfl, rfl⟩ := trodAll_nil r0
  obtain rfl : args = #[v0] := by cases args; simp_all
  obtain ⟨rfl, rfl⟩ := trodVars_none hV
  have hp : Pow W := pow_of_laid hL.tail.tail
  have hlt0 : ∀ x ∈ p0, x.block < W.heap.size := fun x hx => hW'.lt x (by simp [hx])
  have hsl0 := okWide_slice Tryd.underlying32 (hval 0 32 v0 rfl rfl)
  obtain ⟨n0, hy0⟩ := field_of_Trod h0 (by obtain ⟨a, len, cap, rfl⟩ := hsl0; rfl)
  obtain ⟨A, c, xs, rfl, rd0, cp0, cm0, -⟩ := open_rec Tryd.underlying32 Tryd.cellsNs (readsNs H enc W true) hy0
  have ra : RdNs W W.heap.size (.slice A xs.length c) xs := ⟨A, c, rfl, rd0, cp0, cm0⟩
  clear hy0 hsl0
  clear hA0 hval0
  simp only [List.append_nil] at hW'
  refine (lawShowProg xs _ W ra hp).mono fun e W' ⟨he, hk⟩ => ?_
  subst he
  have hb : Below W.heap.size W W' := hk.below (Nat.le_refl _) (.inl (Nat.le_refl _))
  exact ⟨_, rfl, post_of_below (pa := _) (pv := []) hW' (fun _ _ _ => (trodAll_cons_mk (shut_bool Tryd.underlying4 _) trodAll_mk0)) (fun sp hsp => (trodAll_cons_mk (stays Tryd.laidOut (by kernel_rfl) (of_decide_eq_true (by kernel_rfl)) h0 hb hlt0 sp (fun x hx => hsp x (by simp [hx]))) trodAll_mk0)) (fun _ _ => rfl) (by simp)
    hb (ok_one (by kernel_rfl) rfl (okWide_bool_mk Tryd.underlying4 _))⟩

theorem showProg_said : Rows.FnExactShowProgSaid :=
  OpenClaim.holds_of_cond 4 Tryd.f4 rfl rfl rfl rfl rfl rfl rfl ⟨rfl, rfl, rfl, rfl, rfl⟩ rfl rfl rfl rfl rfl (by kernel_rfl) Tryd.func4 (by kernel_rfl)
    (of_decide_eq_true (by kernel_rfl)) (by unfold Func.isWrapper; first | (rw [if_pos (by decide +kernel)]; kernel_rfl) | (rw [if_neg (by decide +kernel)]; exact ⟨rfl, rfl⟩))
    (fun os started H enc _ F => by rw [OpenClaim.pre_eq_preRow]; exact showProg_lifted os started H enc F)
theorem showProg_plain (f : FuncId) (fn : Func) (hf : Tryd.pinned.checked.prog.funcNamed "loop.example/g00673/laws.FnExactShowProg" = some f) (hfn : Tryd.pinned.checked.prog.funcs[f]? = some fn) :
    true = Tryd.pinned.checked.prog.looks [] ∧ ∀ (j : Nat) t, fn.params[j]? = some t → Tryd.pinned.checked.prog.wantsStandIn t = false := by
  obtain rfl : f = 4 := Option.some.inj ((show Tryd.prog.funcNamed "loop.example/g00673/laws.FnExactShowProg" = some 4 by kernel_rfl).symm.trans hf) |>.symm
  obtain rfl : fn = Tryd.f4 := (Option.some.inj (Tryd.func4.symm.trans hfn)).symm
  refine ⟨by kernel_rfl, fun j t ht => ?_⟩
  rw [Tryd.params4] at ht
  have hm := Array.mem_of_getElem? ht
  simp only [List.mem_toArray, List.mem_cons, List.not_mem_nil, or_false] at hm
  rcases hm with rfl
  · exact (show Tryd.prog.wantsStandIn 32 = false by kernel_rfl)
/-- The card. -/
theorem showProg_card : Rows.FnExactShowProgCardSaid :=
  Claim7.holds_tied_plain_at .later [] _ _ _ _ showProg_said (fun _ h => by cases h) (by kernel_rfl) (fun _ h => by cases h) fnExactShowProg_row_tie rfl ⟨rfl, rfl⟩ (by kernel_rfl) rfl showProg_plain (by kernel_rfl)

end Go.Proofs.YtoccbmmjcbjacaaDoor
