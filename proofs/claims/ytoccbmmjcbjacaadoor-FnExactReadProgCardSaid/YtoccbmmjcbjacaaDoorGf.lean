/- The exact law of ReadProg holds as given, with its card: for every text the law returns true, and the text reads afterwards as before; condition: the listed package variables hold what the library's text lays (the card ties them). -/
import Derived.Test.YtoccbmmjcbjacaaDoorGe
import Derived.Test.YtoccbmmjcbjacaaDoorCards
import Derived.Test.YtoccbmmjcbjacaaDoorTie
import Derived.Test.YtoccbmmjcbjacaaDoorLf
import Derived.Lay
import Derived.MakeChecks
import Derived.Lib.LaidTab
import Derived.Lib.LaidU8
import Derived.Stop.LaidErr
import Derived.LaidLaws
import Derived.OpenShut
import Derived.OpenVars
import Derived.Deep.DeepHandedRow
import Derived.Stop.Joined
namespace Go.Proofs.YtoccbmmjcbjacaaDoor
open Go.ChangeShapes Go.WideShapes Go.ChangeAt Go.RowKit Go.Joins Go.Deep

theorem Tryd.gPow : Tryd.prog.globalNamed "internal/strconv.uint64pow10" = some 1 := by kernel_rfl
theorem Tryd.gPowType : (Tryd.prog.globals[1]?).map (·.type) = some 135 := by kernel_rfl
theorem Tryd.cellsU64 : Tryd.prog.cellsOf 122 = 1 := by kernel_rfl
theorem Tryd.cellsPow : Tryd.prog.cellsOf 135 = 20 := by kernel_rfl
theorem powData : (Rows.laid_internal_strconv_uint64pow10 : DataW Unit) = Lib.tabData .u64 Lib.pow10Tab := by kernel_rfl
set_option maxRecDepth 100000 in
/-- From what the rows list of the table to what the walks want of it. -/
theorem pow_of {zs : List Int} {W : World} {r : List (String × DataW Unit)} (h : laidMet Tryd.prog (("internal/strconv.uint64pow10", Lib.tabData .u64 zs) :: r) W) : Lib.TabIs Tryd.prog W "internal/strconv.uint64pow10" .u64 zs :=
  Lib.tabIs_of_head Tryd.gPow Tryd.gPowType Tryd.underlying135 Tryd.underlying122 Tryd.cellsU64 Tryd.cellsPow h
set_option maxRecDepth 100000 in
theorem pow_of_laid {W : World} {r : List (String × DataW Unit)} (h : laidMet Tryd.prog (("internal/strconv.uint64pow10", Rows.laid_internal_strconv_uint64pow10) :: r) W) : Pow W := by
  rw [powData] at h
  exact pow_of h
theorem Tryd.gRng : Tryd.prog.globalNamed "strconv.ErrRange" = some 5 := by kernel_rfl
theorem Tryd.gSyn : Tryd.prog.globalNamed "strconv.ErrSyntax" = some 4 := by kernel_rfl
theorem Tryd.gRngType : (Tryd.prog.globals[5]?).map (·.type) = some 76 := by kernel_rfl
theorem Tryd.gSynType : (Tryd.prog.globals[4]?).map (·.type) = some 76 := by kernel_rfl
theorem Tryd.cellsES : Tryd.prog.cellsOf 154 = 1 := by kernel_rfl
theorem Tryd.cellsStr : Tryd.prog.cellsOf 9 = 1 := by kernel_rfl
theorem Tryd.star : "*" ++ "errors.errorString" = "*errors.errorString" := by decide
theorem Tryd.rowES (u : TypeId) (h : Tryd.prog.typeName? 3 u = some "*errors.errorString") : u = 152 :=
  typeName_ptr_named (nm := "errors.errorString") (by rw [Tryd.star]; kernel_rfl) (by kernel_rfl) (by decide) u (by rw [Tryd.star]; exact h)
theorem sen_of_laid {W : World} {n : String} {g : Nat} {text : List UInt8} {r : List (String × DataW Unit)} (h : laidMet Tryd.prog ((n, .iface "*errors.errorString" (.ptr (.agg [.lit (.string text)]))) :: r) W)
    (hg : Tryd.prog.globalNamed n = some g) (ht : (Tryd.prog.globals[g]?).map (·.type) = some 76) : ∃ tp p, W.var? Tryd.prog n = some #[.iface tp p] := by
  obtain ⟨a, _, hv, _⟩ := laid_sentinel h hg ht Tryd.underlying76 Tryd.rowES Tryd.underlying152 Tryd.underlying154 rfl rfl Tryd.underlying9 Tryd.cellsES Tryd.cellsStr
  exact ⟨_, _, hv⟩
/-- From what the rows list of the library's variables to what the walks want of them. -/
theorem env_of_laid {W : World} {x y z : String × DataW Unit} {r : List (String × DataW Unit)}
    (h : laidMet Tryd.prog (x :: y :: ("internal/strconv.uint64pow10", Rows.laid_internal_strconv_uint64pow10) :: z :: ("strconv.ErrRange", Rows.laid_strconv_ErrRange) :: ("strconv.ErrSyntax", Rows.laid_strconv_ErrSyntax) :: r) W) (hS : W.ShapedOpen Tryd.prog) : Env W :=
  ⟨Tryd.laysM147.s1_3 W hS, pow_of_laid h.tail.tail, sen_of_laid h.tail.tail.tail.tail.tail Tryd.gSyn Tryd.gSynType, sen_of_laid h.tail.tail.tail.tail Tryd.gRng Tryd.gRngType⟩
set_option maxRecDepth 100000 in
theorem readProg_lifted (os : Os) (started : os.Started) (H : Type) (enc : TypeId × Value → H) (F : Stop.Interp) :
    ReturnsInHanded {} Tryd.checked os 5 .any ((OpenSpec.ofChange Rows.fnExactReadProgSpec).preRow enc Tryd.prog Tryd.f5 Rows.fnExactReadProgRow.domain false Rows.fnExactReadProgRow.laid) (((OpenSpec.ofChange Rows.fnExactReadProgSpec).at F).post enc Tryd.prog Tryd.f5 false true false false) := by
  have hpl : ∀ w, laidMetH Tryd.prog Rows.fnExactReadProgRow.laid w = laidMet Tryd.prog Rows.fnExactReadProgRow.laid w := fun w => MakeChecks.laidMetH_plain _ _ _ (by kernel_rfl)
  refine returnsInHanded_of_row (C := Tryd.checked) (s := OpenSpec.ofChange Rows.fnExactReadProgSpec) Tryd.own started (by kernel_rfl) Tryd.func5
    (witness_row_at (enc := enc) (C := Tryd.checked) false (World.laidAll Tryd.prog os Rows.fnExactReadProgRow.laid) #[.string ⟨#[]⟩] (World.laidAll_os _ _ _) (by kernel_rfl) (by kernel_rfl) (by kernel_rfl)
      (OpenSpec.preRow_of_B rfl 8 (by kernel_rfl) (by kernel_rfl) (Eq.mpr (hpl _) (laidMet_laidAll _ (by kernel_rfl) (by kernel_rfl))))) ?_
  intro W base args ds gs before hval0 hW _ _ _ hL0 hSh _
  have hval : ∀ (j : Nat) t v, Tryd.f5.params[j]? = some t → args[j]? = some v → Value.okWide Tryd.prog W .any base t v := hval0
  have hW' := hW
  obtain ⟨p, q, hA0, hV, rfl, hfz, hnd⟩ := hW
  have hA : DataW.TrodAll enc Tryd.prog W 0 (fun _ => true) true Tryd.f5.params.toList args.toList ds p := hA0
  rw [Tryd.params5] at hA hval
  have hL : laidMet Tryd.prog Rows.fnExactReadProgRow.laid W := by rw [← hpl]; exact hL0
  clear hL0
  obtain ⟨v0, vs0, d0, ds0, p0, q0, hargs, rfl, rfl, h0, r0⟩ := trodAll_cons hA
  obtain ⟨rfl, rfl, rfl⟩ := trodAll_nil r0
  obtain rfl : args = #[v0] := by cases args; simp_all
  obtain ⟨rfl, rfl⟩ := trodVars_none hV
  have he : Env W := env_of_laid hL hSh
  have hlt0 : ∀ x ∈ p0, x.block < W.heap.size := fun x hx => hW'.lt x (by simp [hx])
  obtain ⟨b, rfl, -, -, hm0⟩ := ChangeMaps.open_string Tryd.underlying9 (hval 0 9 v0 rfl rfl) h0
  clear hA0 hval0
  simp only [List.append_nil] at hW'
  refine (lawReadProg b W hm0 he).mono fun e W' ⟨he, hk⟩ => ?_
  subst he
  have hb : Below W.heap.size W W' := hk.below (Nat.le_refl _) (.inl (Nat.le_refl _))
  exact ⟨_, rfl, post_of_below (pa := _) (pv := []) hW' (fun _ _ _ => (trodAll_cons_mk (shut_bool Tryd.underlying4 _) trodAll_mk0)) (fun sp hsp => (trodAll_cons_mk (stays Tryd.laidOut (by kernel_rfl) (of_decide_eq_true (by kernel_rfl)) h0 hb hlt0 sp (fun x hx => hsp x (by simp [hx]))) trodAll_mk0)) (fun _ _ => rfl) (by simp)
    hb (ok_one (by kernel_rfl) rfl (okWide_bool_mk Tryd.underlying4 _))⟩

theorem readProg_said : Rows.FnExactReadProgSaid :=
  OpenClaim.holds_of_cond 5 Tryd.f5 rfl rfl rfl rfl rfl rfl rfl ⟨rfl, rfl, rfl, rfl, rfl⟩ rfl rfl rfl rfl rfl (by kernel_rfl) Tryd.func5 (by kernel_rfl)
    (of_decide_eq_true (by kernel_rfl)) (by unfold Func.isWrapper; first | (rw [if_pos (by decide +kernel)]; kernel_rfl) | (rw [if_neg (by decide +kernel)]; exact ⟨rfl, rfl⟩))
    (fun os started H enc _ F => by rw [OpenClaim.pre_eq_preRow]; exact readProg_lifted os started H enc F)
theorem readProg_plain (f : FuncId) (fn : Func) (hf : Tryd.pinned.checked.prog.funcNamed "loop.example/g00673/laws.FnExactReadProg" = some f) (hfn : Tryd.pinned.checked.prog.funcs[f]? = some fn) :
    true = Tryd.pinned.checked.prog.looks [] ∧ ∀ (j : Nat) t, fn.params[j]? = some t → Tryd.pinned.checked.prog.wantsStandIn t = false := by
  obtain rfl : f = 5 := Option.some.inj ((show Tryd.prog.funcNamed "loop.example/g00673/laws.FnExactReadProg" = some 5 by kernel_rfl).symm.trans hf) |>.symm
  obtain rfl : fn = Tryd.f5 := (Option.some.inj (Tryd.func5.symm.trans hfn)).symm
  refine ⟨by kernel_rfl, fun j t ht => ?_⟩
  rw [Tryd.params5] at ht
  have hm := Array.mem_of_getElem? ht
  simp only [List.mem_toArray, List.mem_cons, List.not_mem_nil, or_false] at hm
  rcases hm with rfl
  · exact (show Tryd.prog.wantsStandIn 9 = false by kernel_rfl)
/-- The card. -/
theorem readProg_card : Rows.FnExactReadProgCardSaid :=
  Claim7.holds_tied_plain_at .later [] _ _ _ _ readProg_said (fun _ h => by cases h) (by kernel_rfl) (fun _ h => by cases h) fnExactReadProg_row_tie rfl ⟨rfl, rfl⟩ (by kernel_rfl) rfl readProg_plain (by kernel_rfl)

end Go.Proofs.YtoccbmmjcbjacaaDoor
