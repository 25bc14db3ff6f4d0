/- The exact laws of chapter 7 hold as given: for every input the law returns true and the arguments read afterwards as before; condition: the program's function returns the plain function of the tree and the spread, in new memory. -/
import Derived.Test.YtlfbmjfbebbdlaaWu
import Derived.Test.YtlfbmjfbebbdlaaLf
import Derived.OpenShut
namespace Go.Proofs.Ytlfbmjfbebbdlaa
open Go.ChangeShapes Go.WideShapes Go.ChangeAt Go.RowKit Go.Joins Go.Deep

theorem Try.cellsNd : Try.prog.cellsOf 78 = ndR.k := by kernel_rfl
theorem Try.cells2' : Try.prog.cellsOf 2 = 1 := by kernel_rfl
theorem Try.cellsB1 : Try.prog.cellsOf 4 = bR.k := by kernel_rfl
theorem Try.cellsI1 : Try.prog.cellsOf 2 = iR.k := by kernel_rfl
set_option maxRecDepth 100000 in
theorem readsNd (H : Type) (enc : TypeId × Value → H) (w : World) (held : Bool) : ReadsAs enc Try.prog w held 78 ndR (fun _ => True) := by
  intro n cs y hl h
  obtain ⟨xs, m, _, _, _, hxl, hf⟩ := DataW.trod_struct Try.underlying78 h
  match cs, hl with
  | [a, b, c, d, e], _ =>
    have f0 := hf 0 _ rfl
    have f1 := hf 1 _ rfl
    have f2 := hf 2 _ rfl
    have f3 := hf 3 _ rfl
    have f4 := hf 4 _ rfl
    match xs, hxl with
    | [x0, x1, x2, x3, x4], _ =>
      obtain ⟨n0, e0, _⟩ := DataW.trod_int Try.underlying2 f0
      obtain ⟨n1, e1, _⟩ := DataW.trod_int Try.underlying2 f1
      obtain ⟨n2, e2, _⟩ := DataW.trod_int Try.underlying2 f2
      obtain ⟨n3, e3, _⟩ := DataW.trod_int Try.underlying2 f3
      obtain ⟨n4, e4, _⟩ := DataW.trod_int Try.underlying2 f4
      have g0 : a = .int .i64 n0 := by simpa [Try.cells2'] using e0
      have g1 : b = .int .i64 n1 := by simpa [Try.cells2'] using e1
      have g2 : c = .int .i64 n2 := by simpa [Try.cells2'] using e2
      have g3 : d = .int .i64 n3 := by simpa [Try.cells2'] using e3
      have g4 : e = .int .i64 n4 := by simpa [Try.cells2'] using e4
      exact ⟨⟨n0, n1, n2, n3, n4⟩, by rw [g0, g1, g2, g3, g4]; rfl, trivial⟩
theorem readsI1 (H : Type) (enc : TypeId × Value → H) (w : World) (held : Bool) : ReadsAs enc Try.prog w held 2 iR (fun _ => True) := by
  intro n cs y hl h
  match cs, hl with
  | [a], _ =>
    obtain ⟨n0, e0, _⟩ := DataW.trod_int Try.underlying2 h
    have g0 : a = .int .i64 n0 := by simpa using e0
    exact ⟨n0, by rw [g0]; rfl, trivial⟩
theorem readsB1 (H : Type) (enc : TypeId × Value → H) (w : World) (held : Bool) : ReadsAs enc Try.prog w held 4 bR (fun _ => True) := by
  intro n cs y hl h
  match cs, hl with
  | [a], _ =>
    obtain ⟨n0, e0, _⟩ := DataW.trod_bool Try.underlying4 h
    have g0 : a = .bool n0 := by simpa using e0
    exact ⟨n0, by rw [g0]; rfl, trivial⟩

set_option maxRecDepth 100000 in
theorem sprOk_lifted (hI : DoesSpreadOk) (os : Os) (started : os.Started) (H : Type) (enc : TypeId × Value → H) :
    ReturnsInHanded {} Try.checked os 5 .any (Rows.fnExactSpreadOkSpec.pre6 enc Try.prog Try.f5 Rows.fnExactSpreadOkRow.domain false) (Rows.fnExactSpreadOkSpec.post enc Try.prog Try.f5 false true false false) := by
  refine returnsInHanded_of_change (C := Try.checked) Try.own started (by kernel_rfl) Try.func5
    (ChangeSpec.witness6 (enc := enc) (C := Try.checked) false ⟨#[], #[.slice none 0 0, .agg #[.slice none 0 0, .slice none 0 0]], []⟩ 8 (by kernel_rfl) (by kernel_rfl) (by kernel_rfl) (by kernel_rfl)) ?_
  intro W base args ds gs before hval0 hW hcnd _
  have hval : ∀ (j : Nat) t v, Try.f5.params[j]? = some t → args[j]? = some v → Value.okWide Try.prog W .any base t v := hval0
  have hW' := hW
  obtain ⟨p, q, hA0, hV, rfl, hfz, hnd⟩ := hW
  have hA : DataW.TrodAll enc Try.prog W 0 (fun _ => true) true Try.f5.params.toList args.toList ds p := hA0
  rw [Try.params5] at hA hval
  obtain ⟨v0, vs0, d0, ds0, p0, q0, hargs, rfl, rfl, h0, r0⟩ := trodAll_cons hA
  obtain ⟨v1, vs1, d1, ds1, p1, q1, rfl, rfl, rfl, h1, r1⟩ := trodAll_cons r0
  obtain ⟨rfl, rfl, rfl⟩ := trodAll_nil r1
  obtain rfl : args = #[v0, v1] := by cases args; simp_all
  obtain ⟨rfl, rfl⟩ := trodVars_none hV
  have hlt0 : ∀ x ∈ p0, x.block < W.heap.size := fun x hx => hW'.lt x (by simp [hx])
  have hlt1 : ∀ x ∈ p1, x.block < W.heap.size := fun x hx => hW'.lt x (by simp [hx])
  have hsl0 := okWide_slice Try.underlying42 (hval 0 42 v0 rfl rfl)
  obtain ⟨n0, hy0⟩ := field_of_Trod h0 (by obtain ⟨a, len, cap, rfl⟩ := hsl0; rfl)
  obtain ⟨A, c, t, rfl, rd0, cp0, cm0, -⟩ := open_rec Try.underlying42 Try.cellsNd (readsNd H enc W true) hy0
  have ra : RdNd W W.heap.size (.slice A t.length c) t := ⟨A, c, rfl, rd0, cp0, cm0⟩
  clear hy0 hsl0
  obtain ⟨b0, b1, y0, y1, n, rfl, -, -, g0, g1⟩ := open_agg2 Try.underlying43 (by kernel_rfl) (by kernel_rfl) (hval 1 43 v1 rfl rfl) h1
  obtain ⟨A1, c1, xs, rfl, rd1, cp1, cm1, -⟩ := open_rec Try.underlying28 Try.cellsB1 (readsB1 H enc W true) g0
  obtain ⟨A2, c2, ws, rfl, rd2, cp2, cm2, -⟩ := open_rec Try.underlying29 Try.cellsI1 (readsI1 H enc W true) g1
  have rs : RdS W W.heap.size (.agg #[.slice A1 xs.length c1, .slice A2 ws.length c2]) ⟨xs, ws⟩ := ⟨_, _, rfl, ⟨A1, c1, rfl, rd1, cp1, cm1⟩, ⟨A2, c2, rfl, rd2, cp2, cm2⟩⟩
  clear g0 g1
  clear hA0 hval0
  simp only [List.append_nil] at hW'
  refine (lawSpreadOk hI t ⟨xs, ws⟩  _ _ W ra rs).mono fun e W' ⟨he, hk⟩ => ?_
  subst he
  have hb : Below W.heap.size W W' := hk.below (Nat.le_refl _) (.inl (Nat.le_refl _))
  exact ⟨_, rfl, post_of_below (pa := _) (pv := []) hW' (fun _ _ _ => (trodAll_cons_mk (shut_bool Try.underlying4 _) trodAll_mk0)) (fun sp hsp => (trodAll_cons_mk (stays Try.laidOut (by kernel_rfl) (of_decide_eq_true (by kernel_rfl)) h0 hb hlt0 sp (fun x hx => hsp x (by simp [hx]))) (trodAll_cons_mk (stays Try.laidOut (by kernel_rfl) (of_decide_eq_true (by kernel_rfl)) h1 hb hlt1 sp (fun x hx => hsp x (by simp [hx]))) trodAll_mk0))) (fun _ _ => rfl) (by simp)
    hb (ok_one (by kernel_rfl) rfl (okWide_bool_mk Try.underlying4 _))⟩

theorem sprOk_holds (hI : DoesSpreadOk) : Rows.FnExactSpreadOkSaid :=
  OpenClaim.holds_of_wide 5 Try.f5 rfl rfl rfl rfl rfl rfl rfl ⟨rfl, rfl, rfl, rfl, rfl⟩ rfl rfl rfl rfl rfl (by kernel_rfl) Try.func5 (by kernel_rfl)
    (of_decide_eq_true (by kernel_rfl)) (by unfold Func.isWrapper; first | (rw [if_pos (by decide +kernel)]; kernel_rfl) | (rw [if_neg (by decide +kernel)]; exact ⟨rfl, rfl⟩))
    (fun os started H enc _ => sprOk_lifted hI os started H enc)

set_option maxRecDepth 100000 in
theorem begun_lifted (hI : DoesBegun) (os : Os) (started : os.Started) (H : Type) (enc : TypeId × Value → H) :
    ReturnsInHanded {} Try.checked os 6 .any (Rows.fnExactBegunSpec.pre6 enc Try.prog Try.f6 Rows.fnExactBegunRow.domain false) (Rows.fnExactBegunSpec.post enc Try.prog Try.f6 false true false false) := by
  refine returnsInHanded_of_change (C := Try.checked) Try.own started (by kernel_rfl) Try.func6
    (ChangeSpec.witness6 (enc := enc) (C := Try.checked) false ⟨#[], #[.slice none 0 0, .agg #[.slice none 0 0, .slice none 0 0], .int .i64 0], []⟩ 8 (by kernel_rfl) (by kernel_rfl) (by kernel_rfl) (by kernel_rfl)) ?_
  intro W base args ds gs before hval0 hW hcnd _
  have hval : ∀ (j : Nat) t v, Try.f6.params[j]? = some t → args[j]? = some v → Value.okWide Try.prog W .any base t v := hval0
  have hW' := hW
  obtain ⟨p, q, hA0, hV, rfl, hfz, hnd⟩ := hW
  have hA : DataW.TrodAll enc Try.prog W 0 (fun _ => true) true Try.f6.params.toList args.toList ds p := hA0
  rw [Try.params6] at hA hval
  obtain ⟨v0, vs0, d0, ds0, p0, q0, hargs, rfl, rfl, h0, r0⟩ := trodAll_cons hA
  obtain ⟨v1, vs1, d1, ds1, p1, q1, rfl, rfl, rfl, h1, r1⟩ := trodAll_cons r0
  obtain ⟨v2, vs2, d2, ds2, p2, q2, rfl, rfl, rfl, h2, r2⟩ := trodAll_cons r1
  obtain ⟨rfl, rfl, rfl⟩ := trodAll_nil r2
  obtain rfl : args = #[v0, v1, v2] := by cases args; simp_all
  obtain ⟨rfl, rfl⟩ := trodVars_none hV
  have hlt0 : ∀ x ∈ p0, x.block < W.heap.size := fun x hx => hW'.lt x (by simp [hx])
  have hlt1 : ∀ x ∈ p1, x.block < W.heap.size := fun x hx => hW'.lt x (by simp [hx])
  have hlt2 : ∀ x ∈ p2, x.block < W.heap.size := fun x hx => hW'.lt x (by simp [hx])
  have hsl0 := okWide_slice Try.underlying42 (hval 0 42 v0 rfl rfl)
  obtain ⟨n0, hy0⟩ := field_of_Trod h0 (by obtain ⟨a, len, cap, rfl⟩ := hsl0; rfl)
  obtain ⟨A, c, t, rfl, rd0, cp0, cm0, -⟩ := open_rec Try.underlying42 Try.cellsNd (readsNd H enc W true) hy0
  have ra : RdNd W W.heap.size (.slice A t.length c) t := ⟨A, c, rfl, rd0, cp0, cm0⟩
  clear hy0 hsl0
  obtain ⟨b0, b1, y0, y1, n, rfl, -, -, g0, g1⟩ := open_agg2 Try.underlying43 (by kernel_rfl) (by kernel_rfl) (hval 1 43 v1 rfl rfl) h1
  obtain ⟨A1, c1, xs, rfl, rd1, cp1, cm1, -⟩ := open_rec Try.underlying28 Try.cellsB1 (readsB1 H enc W true) g0
  obtain ⟨A2, c2, ws, rfl, rd2, cp2, cm2, -⟩ := open_rec Try.underlying29 Try.cellsI1 (readsI1 H enc W true) g1
  have rs : RdS W W.heap.size (.agg #[.slice A1 xs.length c1, .slice A2 ws.length c2]) ⟨xs, ws⟩ := ⟨_, _, rfl, ⟨A1, c1, rfl, rd1, cp1, cm1⟩, ⟨A2, c2, rfl, rd2, cp2, cm2⟩⟩
  clear g0 g1
  obtain ⟨zn, rfl, -, -, -⟩ := open_int Try.underlying2 (hval 2 2 v2 rfl rfl) h2
  clear hA0 hval0
  simp only [List.append_nil] at hW'
  refine (lawBegun hI t ⟨xs, ws⟩ zn _ _ W ra rs).mono fun e W' ⟨he, hk⟩ => ?_
  subst he
  have hb : Below W.heap.size W W' := hk.below (Nat.le_refl _) (.inl (Nat.le_refl _))
  exact ⟨_, rfl, post_of_below (pa := _) (pv := []) hW' (fun _ _ _ => (trodAll_cons_mk (shut_bool Try.underlying4 _) trodAll_mk0)) (fun sp hsp => (trodAll_cons_mk (stays Try.laidOut (by kernel_rfl) (of_decide_eq_true (by kernel_rfl)) h0 hb hlt0 sp (fun x hx => hsp x (by simp [hx]))) (trodAll_cons_mk (stays Try.laidOut (by kernel_rfl) (of_decide_eq_true (by kernel_rfl)) h1 hb hlt1 sp (fun x hx => hsp x (by simp [hx]))) (trodAll_cons_mk (stays Try.laidOut (by kernel_rfl) (of_decide_eq_true (by kernel_rfl)) h2 hb hlt2 sp (fun x hx => hsp x (by simp [hx]))) trodAll_mk0)))) (fun _ _ => rfl) (by simp)
    hb (ok_one (by kernel_rfl) rfl (okWide_bool_mk Try.underlying4 _))⟩

theorem begun_holds (hI : DoesBegun) : Rows.FnExactBegunSaid :=
  OpenClaim.holds_of_wide 6 Try.f6 rfl rfl rfl rfl rfl rfl rfl ⟨rfl, rfl, rfl, rfl, rfl⟩ rfl rfl rfl rfl rfl (by kernel_rfl) Try.func6 (by kernel_rfl)
    (of_decide_eq_true (by kernel_rfl)) (by unfold Func.isWrapper; first | (rw [if_pos (by decide +kernel)]; kernel_rfl) | (rw [if_neg (by decide +kernel)]; exact ⟨rfl, rfl⟩))
    (fun os started H enc _ => begun_lifted hI os started H enc)

set_option maxRecDepth 100000 in
theorem sstep_lifted (hI : DoesSpreadStep) (os : Os) (started : os.Started) (H : Type) (enc : TypeId × Value → H) :
    ReturnsInHanded {} Try.checked os 7 .any (Rows.fnExactSpreadStepSpec.pre6 enc Try.prog Try.f7 Rows.fnExactSpreadStepRow.domain false) (Rows.fnExactSpreadStepSpec.post enc Try.prog Try.f7 false true false false) := by
  refine returnsInHanded_of_change (C := Try.checked) Try.own started (by kernel_rfl) Try.func7
    (ChangeSpec.witness6 (enc := enc) (C := Try.checked) false ⟨#[], #[.slice none 0 0, .agg #[.slice none 0 0, .slice none 0 0]], []⟩ 8 (by kernel_rfl) (by kernel_rfl) (by kernel_rfl) (by kernel_rfl)) ?_
  intro W base args ds gs before hval0 hW hcnd _
  have hval : ∀ (j : Nat) t v, Try.f7.params[j]? = some t → args[j]? = some v → Value.okWide Try.prog W .any base t v := hval0
  have hW' := hW
  obtain ⟨p, q, hA0, hV, rfl, hfz, hnd⟩ := hW
  have hA : DataW.TrodAll enc Try.prog W 0 (fun _ => true) true Try.f7.params.toList args.toList ds p := hA0
  rw [Try.params7] at hA hval
  obtain ⟨v0, vs0, d0, ds0, p0, q0, hargs, rfl, rfl, h0, r0⟩ := trodAll_cons hA
  obtain ⟨v1, vs1, d1, ds1, p1, q1, rfl, rfl, rfl, h1, r1⟩ := trodAll_cons r0
  obtain ⟨rfl, rfl, rfl⟩ := trodAll_nil r1
  obtain rfl : args = #[v0, v1] := by cases args; simp_all
  obtain ⟨rfl, rfl⟩ := trodVars_none hV
  have hlt0 : ∀ x ∈ p0, x.block < W.heap.size := fun x hx => hW'.lt x (by simp [hx])
  have hlt1 : ∀ x ∈ p1, x.block < W.heap.size := fun x hx => hW'.lt x (by simp [hx])
  have hsl0 := okWide_slice Try.underlying42 (hval 0 42 v0 rfl rfl)
  obtain ⟨n0, hy0⟩ := field_of_Trod h0 (by obtain ⟨a, len, cap, rfl⟩ := hsl0; rfl)
  obtain ⟨A, c, t, rfl, rd0, cp0, cm0, -⟩ := open_rec Try.underlying42 Try.cellsNd (readsNd H enc W true) hy0
  have ra : RdNd W W.heap.size (.slice A t.length c) t := ⟨A, c, rfl, rd0, cp0, cm0⟩
  clear hy0 hsl0
  obtain ⟨b0, b1, y0, y1, n, rfl, -, -, g0, g1⟩ := open_agg2 Try.underlying43 (by kernel_rfl) (by kernel_rfl) (hval 1 43 v1 rfl rfl) h1
  obtain ⟨A1, c1, xs, rfl, rd1, cp1, cm1, -⟩ := open_rec Try.underlying28 Try.cellsB1 (readsB1 H enc W true) g0
  obtain ⟨A2, c2, ws, rfl, rd2, cp2, cm2, -⟩ := open_rec Try.underlying29 Try.cellsI1 (readsI1 H enc W true) g1
  have rs : RdS W W.heap.size (.agg #[.slice A1 xs.length c1, .slice A2 ws.length c2]) ⟨xs, ws⟩ := ⟨_, _, rfl, ⟨A1, c1, rfl, rd1, cp1, cm1⟩, ⟨A2, c2, rfl, rd2, cp2, cm2⟩⟩
  clear g0 g1
  clear hA0 hval0
  simp only [List.append_nil] at hW'
  refine (lawStep hI t ⟨xs, ws⟩  _ _ W ra rs).mono fun e W' ⟨he, hk⟩ => ?_
  subst he
  have hb : Below W.heap.size W W' := hk.below (Nat.le_refl _) (.inl (Nat.le_refl _))
  exact ⟨_, rfl, post_of_below (pa := _) (pv := []) hW' (fun _ _ _ => (trodAll_cons_mk (shut_bool Try.underlying4 _) trodAll_mk0)) (fun sp hsp => (trodAll_cons_mk (stays Try.laidOut (by kernel_rfl) (of_decide_eq_true (by kernel_rfl)) h0 hb hlt0 sp (fun x hx => hsp x (by simp [hx]))) (trodAll_cons_mk (stays Try.laidOut (by kernel_rfl) (of_decide_eq_true (by kernel_rfl)) h1 hb hlt1 sp (fun x hx => hsp x (by simp [hx]))) trodAll_mk0))) (fun _ _ => rfl) (by simp)
    hb (ok_one (by kernel_rfl) rfl (okWide_bool_mk Try.underlying4 _))⟩

theorem sstep_holds (hI : DoesSpreadStep) : Rows.FnExactSpreadStepSaid :=
  OpenClaim.holds_of_wide 7 Try.f7 rfl rfl rfl rfl rfl rfl rfl ⟨rfl, rfl, rfl, rfl, rfl⟩ rfl rfl rfl rfl rfl (by kernel_rfl) Try.func7 (by kernel_rfl)
    (of_decide_eq_true (by kernel_rfl)) (by unfold Func.isWrapper; first | (rw [if_pos (by decide +kernel)]; kernel_rfl) | (rw [if_neg (by decide +kernel)]; exact ⟨rfl, rfl⟩))
    (fun os started H enc _ => sstep_lifted hI os started H enc)

set_option maxRecDepth 100000 in
theorem sall_lifted (hI : DoesSpreadAll) (os : Os) (started : os.Started) (H : Type) (enc : TypeId × Value → H) :
    ReturnsInHanded {} Try.checked os 8 .any (Rows.fnExactSpreadAllSpec.pre6 enc Try.prog Try.f8 Rows.fnExactSpreadAllRow.domain false) (Rows.fnExactSpreadAllSpec.post enc Try.prog Try.f8 false true false false) := by
  refine returnsInHanded_of_change (C := Try.checked) Try.own started (by kernel_rfl) Try.func8
    (ChangeSpec.witness6 (enc := enc) (C := Try.checked) false ⟨#[], #[.slice none 0 0, .agg #[.slice none 0 0, .slice none 0 0]], []⟩ 8 (by kernel_rfl) (by kernel_rfl) (by kernel_rfl) (by kernel_rfl)) ?_
  intro W base args ds gs before hval0 hW hcnd _
  have hval : ∀ (j : Nat) t v, Try.f8.params[j]? = some t → args[j]? = some v → Value.okWide Try.prog W .any base t v := hval0
  have hW' := hW
  obtain ⟨p, q, hA0, hV, rfl, hfz, hnd⟩ := hW
  have hA : DataW.TrodAll enc Try.prog W 0 (fun _ => true) true Try.f8.params.toList args.toList ds p := hA0
  rw [Try.params8] at hA hval
  obtain ⟨v0, vs0, d0, ds0, p0, q0, hargs, rfl, rfl, h0, r0⟩ := trodAll_cons hA
  obtain ⟨v1, vs1, d1, ds1, p1, q1, rfl, rfl, rfl, h1, r1⟩ := trodAll_cons r0
  obtain ⟨rfl, rfl, rfl⟩ := trodAll_nil r1
  obtain rfl : args = #[v0, v1] := by cases args; simp_all
  obtain ⟨rfl, rfl⟩ := trodVars_none hV
  have hlt0 : ∀ x ∈ p0, x.block < W.heap.size := fun x hx => hW'.lt x (by simp [hx])
  have hlt1 : ∀ x ∈ p1, x.block < W.heap.size := fun x hx => hW'.lt x (by simp [hx])
  have hsl0 := okWide_slice Try.underlying42 (hval 0 42 v0 rfl rfl)
  obtain ⟨n0, hy0⟩ := field_of_Trod h0 (by obtain ⟨a, len, cap, rfl⟩ := hsl0; rfl)
  obtain ⟨A, c, t, rfl, rd0, cp0, cm0, -⟩ := open_rec Try.underlying42 Try.cellsNd (readsNd H enc W true) hy0
  have ra : RdNd W W.heap.size (.slice A t.length c) t := ⟨A, c, rfl, rd0, cp0, cm0⟩
  clear hy0 hsl0
  obtain ⟨b0, b1, y0, y1, n, rfl, -, -, g0, g1⟩ := open_agg2 Try.underlying43 (by kernel_rfl) (by kernel_rfl) (hval 1 43 v1 rfl rfl) h1
  obtain ⟨A1, c1, xs, rfl, rd1, cp1, cm1, -⟩ := open_rec Try.underlying28 Try.cellsB1 (readsB1 H enc W true) g0
  obtain ⟨A2, c2, ws, rfl, rd2, cp2, cm2, -⟩ := open_rec Try.underlying29 Try.cellsI1 (readsI1 H enc W true) g1
  have rs : RdS W W.heap.size (.agg #[.slice A1 xs.length c1, .slice A2 ws.length c2]) ⟨xs, ws⟩ := ⟨_, _, rfl, ⟨A1, c1, rfl, rd1, cp1, cm1⟩, ⟨A2, c2, rfl, rd2, cp2, cm2⟩⟩
  clear g0 g1
  clear hA0 hval0
  simp only [List.append_nil] at hW'
  refine (lawAll hI t ⟨xs, ws⟩  _ _ W ra rs).mono fun e W' ⟨he, hk⟩ => ?_
  subst he
  have hb : Below W.heap.size W W' := hk.below (Nat.le_refl _) (.inl (Nat.le_refl _))
  exact ⟨_, rfl, post_of_below (pa := _) (pv := []) hW' (fun _ _ _ => (trodAll_cons_mk (shut_bool Try.underlying4 _) trodAll_mk0)) (fun sp hsp => (trodAll_cons_mk (stays Try.laidOut (by kernel_rfl) (of_decide_eq_true (by kernel_rfl)) h0 hb hlt0 sp (fun x hx => hsp x (by simp [hx]))) (trodAll_cons_mk (stays Try.laidOut (by kernel_rfl) (of_decide_eq_true (by kernel_rfl)) h1 hb hlt1 sp (fun x hx => hsp x (by simp [hx]))) trodAll_mk0))) (fun _ _ => rfl) (by simp)
    hb (ok_one (by kernel_rfl) rfl (okWide_bool_mk Try.underlying4 _))⟩

theorem sall_holds (hI : DoesSpreadAll) : Rows.FnExactSpreadAllSaid :=
  OpenClaim.holds_of_wide 8 Try.f8 rfl rfl rfl rfl rfl rfl rfl ⟨rfl, rfl, rfl, rfl, rfl⟩ rfl rfl rfl rfl rfl (by kernel_rfl) Try.func8 (by kernel_rfl)
    (of_decide_eq_true (by kernel_rfl)) (by unfold Func.isWrapper; first | (rw [if_pos (by decide +kernel)]; kernel_rfl) | (rw [if_neg (by decide +kernel)]; exact ⟨rfl, rfl⟩))
    (fun os started H enc _ => sall_lifted hI os started H enc)

end Go.Proofs.Ytlfbmjfbebbdlaa
