/- FnLetGo holds as given, with its card: for every code the law returns true, and the code and the named variables read afterwards as before; condition: the listed package variables hold what the program's text lays (the card ties them). -/
import Derived.Test.YtgahjachkeoflaaDoorYh
import Derived.Test.YtgahjachkeoflaaDoorXy
import Derived.Test.YtgahjachkeoflaaDoorLb
namespace Go.Proofs.YtgahjachkeoflaaDoor
open Go.ChangeShapes Go.WideShapes Go.ChangeAt Go.RowKit Go.Joins Go.Deep

set_option maxHeartbeats 400000 in
set_option maxRecDepth 100000 in
theorem letLaw_all (xs : List Int) (A : Option Addr) (c : Nat) (a0 a1 : Addr) (w : World) (hs : Sen w a0 a1) (hy : Typ w) (h : Rd (Value.int .u8) w w.heap.size A xs) (hx : ∀ x ∈ xs, 0 ≤ x ∧ x ≤ 255) :
    Calls Tryd.prog 3 #[.slice A xs.length c] w fun e w' => e = .returned (.bool true) ∧ Kept 0 0 w w' := by
  rcases Nat.lt_or_ge 4096 xs.length with hl | hl
  · have hm := h.1
    have hbig : decide (4096 < xs.length) = true := by simpa using hl
    clear h hx hs hy
    go_enter Tryd.func3, Tryd.ntmps3
    go_wp2_with fail
    with_reducible refine (big_any _ _ _ _ hm).mono ?_
    rintro e w' ⟨rfl, rfl⟩
    rw [hbig]
    clear hbig hl hm
    go_wp2_with fail
    go_ret
    exact ⟨rfl, Kept.refl _ _ _⟩
  · exact lawLetGo_small xs A c a0 a1 w hs hy h hx hl

set_option maxRecDepth 100000 in
theorem letLaw_lifted (os : Os) (started : os.Started) (H : Type) (enc : TypeId × Value → H) (F : Stop.Interp) :
    ReturnsInHanded {} Tryd.checked os 3 .any ((OpenSpec.ofChange Rows.fnLetGoSpec).preRow enc Tryd.prog Tryd.f3 Rows.fnLetGoRow.domain false Rows.fnLetGoRow.laid) (((OpenSpec.ofChange Rows.fnLetGoSpec).at F).post enc Tryd.prog Tryd.f3 false true false false) := by
  refine returnsInHanded_of_row (C := Tryd.checked) (s := OpenSpec.ofChange Rows.fnLetGoSpec) Tryd.own started (by kernel_rfl) Tryd.func3
    (witness_row_at (enc := enc) (C := Tryd.checked) false (laidWorld os) #[.slice none 0 0] rfl (by kernel_rfl) (by kernel_rfl) (by kernel_rfl)
      (OpenSpec.preRow_of_B rfl 8 (by kernel_rfl) (by kernel_rfl) (laid_metH os _))) ?_
  intro W base args ds gs before hval0 hW _ _ _ hL0 _ _
  have hval : ∀ (j : Nat) t v, Tryd.f3.params[j]? = some t → args[j]? = some v → Value.okWide Tryd.prog W .any base t v := hval0
  have hW' := hW
  obtain ⟨p, q, hA0, hV0, rfl, hfz, hnd⟩ := hW
  have hA : DataW.TrodAll enc Tryd.prog W 0 (fun _ => true) true Tryd.f3.params.toList args.toList ds p := hA0
  have hV : DataW.TrodVars enc Tryd.prog W (fun _ => true) Rows.fnLetGoSpec.vars gs q := hV0
  rw [Tryd.params3] at hA hval
  obtain ⟨v0, vs0, d0, ds0, p0, q0, hargs, rfl, rfl, h0, r0⟩ := trodAll_cons hA
  obtain ⟨rfl, rfl, rfl⟩ := trodAll_nil r0
  obtain rfl : args = #[v0] := by cases args; simp_all
  obtain ⟨g0, t0, cs0, f0, e0, pp0, g1, t1, cs1, f1, e1, pp1, rfl, -⟩ := trodVars_two hV
  have hL : laidMet Tryd.prog [("loop.example/g00673/impl.errCanceled", Rows.laid_loop_example_g00673_impl_errCanceled), ("loop.example/g00673/impl.errDeadline", Rows.laid_loop_example_g00673_impl_errDeadline)] W ∧ handlesMet Tryd.prog [("errors.errorType", Rows.laid_errors_errorType)] W := hL0
  obtain ⟨a0, a1, hs⟩ := sen_of_laid hL.1
  have hy := typ_of_handle hL.2 (List.mem_singleton.2 rfl)
  have hlt0 : ∀ x ∈ p0, x.block < W.heap.size := fun x hx => hW'.lt x (by simp [hx])
  have hsl := okWide_slice Tryd.underlying22 (hval 0 22 v0 rfl rfl)
  obtain ⟨n, hy0⟩ := field_of_Trod h0 (by obtain ⟨a, len, cap, rfl⟩ := hsl; rfl)
  obtain ⟨A, c, xs, rfl, r9, hwf⟩ := open_rdK Tryd.underlying22 Tryd.underU8 Tryd.cellsU8 hy0
  have hx : ∀ x ∈ xs, 0 ≤ x ∧ x ≤ 255 := fun x hx => by
    have h1 := hwf x hx
    have e1 : IntKind.u8.min = 0 := by decide
    have e2 : IntKind.u8.max = 255 := by decide
    simp [Lit.wf, e1, e2] at h1
    omega
  clear hy0 hsl hwf
  clear hA0 hval0 hV0
  simp only [List.append_nil] at hW'
  refine (letLaw_all xs A c a0 a1 W hs hy r9 hx).mono fun e W' ⟨he, hk⟩ => ?_
  subst he
  have hb : Below W.heap.size W W' := hk.below (Nat.le_refl _) (.inl (Nat.le_refl _))
  exact ⟨_, rfl, post_of_below (pa := _) (pv := q) hW' (fun _ _ _ => (trodAll_cons_mk (shut_bool Tryd.underlying4 _) trodAll_mk0)) (fun sp hsp => (trodAll_cons_mk (stays Tryd.laidOut (by kernel_rfl) (of_decide_eq_true (by kernel_rfl)) h0 hb hlt0 sp (fun x hx => hsp x (by simp [hx]))) trodAll_mk0)) (fun sp hsp => vars_stay Tryd.laidOut hb sp (by kernel_rfl) hV (fun x hx => hsp x (by simp [hx]))) (by simp)
    hb (ok_one (by kernel_rfl) rfl (okWide_bool_mk Tryd.underlying4 _))⟩

theorem letLaw_said : Rows.FnLetGoSaid :=
  OpenClaim.holds_of_cond 3 Tryd.f3 rfl rfl rfl rfl rfl rfl rfl ⟨rfl, rfl, rfl, rfl, rfl⟩ rfl rfl rfl rfl rfl (by kernel_rfl) Tryd.func3 (by kernel_rfl)
    (of_decide_eq_true (by kernel_rfl)) (by unfold Func.isWrapper; first | (rw [if_pos (by decide +kernel)]; kernel_rfl) | (rw [if_neg (by decide +kernel)]; exact ⟨rfl, rfl⟩))
    (fun os started H enc _ F => by rw [OpenClaim.pre_eq_preRow]; exact letLaw_lifted os started H enc F)
theorem letLaw_plain (f : FuncId) (fn : Func) (hf : Tryd.pinned.checked.prog.funcNamed "loop.example/g00673/laws.FnLetGo" = some f) (hfn : Tryd.pinned.checked.prog.funcs[f]? = some fn) :
    true = Tryd.pinned.checked.prog.looks [] ∧ ∀ (j : Nat) t, fn.params[j]? = some t → Tryd.pinned.checked.prog.wantsStandIn t = false := by
  obtain rfl : f = 3 := Option.some.inj ((show Tryd.prog.funcNamed "loop.example/g00673/laws.FnLetGo" = some 3 by kernel_rfl).symm.trans hf) |>.symm
  obtain rfl : fn = Tryd.f3 := (Option.some.inj (Tryd.func3.symm.trans hfn)).symm
  refine ⟨by kernel_rfl, fun j t ht => ?_⟩
  rw [Tryd.params3] at ht
  have hm := Array.mem_of_getElem? ht
  simp only [List.mem_toArray, List.mem_cons, List.not_mem_nil, or_false] at hm
  rcases hm with rfl
  · exact (show Tryd.prog.wantsStandIn 22 = false by kernel_rfl)
/-- The card. -/
theorem letLaw_card : Rows.FnLetGoCardSaid :=
  Claim7.holds_tied_plain_at .later [] _ _ _ _ letLaw_said (fun _ h => by cases h) (by kernel_rfl) (fun _ h => by cases h) fnLetGo_row_tie rfl ⟨rfl, rfl⟩ (by kernel_rfl) rfl letLaw_plain (by kernel_rfl)

end Go.Proofs.YtgahjachkeoflaaDoor
