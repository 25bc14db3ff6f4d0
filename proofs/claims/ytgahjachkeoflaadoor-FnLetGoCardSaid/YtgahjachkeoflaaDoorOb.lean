/- The program's ChainOf, which collects the chain of a node; no condition beyond that the slice can be read. -/
import Derived.Test.YtgahjachkeoflaaDoorNy
namespace Go.Proofs.YtgahjachkeoflaaDoor
open Go.RowKit Go.Sort Go.Shelf
attribute [local go_sem] Oper.semAt_some

theorem wpListIn_app {F : Fence} {n : Nat} {P : Program} {α : Type} {R : Rec α} {w : World} {ops : Array Oper} {rest : List Oper} {o : Oper} {a : Act} {Q : Exit → Act → World → Prop} (hgd : o.guard = none) {t e : TypeId} {bytes : Nat} (s x : Operand) (ho : o.op = .call { callee := .builtin .append, args := #[s, x], argTypes := #[t, t] })
    (hS : SliceOf P t e R.k bytes) (base : Nat) (D0 : Option Addr) (d0 : Nat) (xs : List α) (hs : a.eval s = .slice D0 xs.length d0) (hown : w.ownsRow base e R.k (.slice D0 xs.length d0) xs.length (R.flat xs))
    (B : Nat) (A : Option Addr) (c : Nat) (ys : List α) (hx : a.eval x = .slice A ys.length c) (hr : RdR R w B A ys) (h63 : xs.length + ys.length ≤ maxLen) (hb : (xs.length + ys.length) * bytes ≤ 140737488355328) (hbase : base ≤ w.heap.size)
    (h : ∀ (D : Option Addr) (d : Nat) (w' : World), w'.ownsRow base e R.k (.slice D (xs ++ ys).length d) (xs ++ ys).length (R.flat (xs ++ ys)) → w.grownBy w' (rowAt D0) → (rowAt D = rowAt D0 ∨ rowAt D = some w.heap.size) → wpListIn F n P ops Q rest (a.put o.dst (.slice D (xs ++ ys).length d)) w') : wpListIn F n P ops Q (o :: rest) a w := by
  refine wpListIn_plain hgd fun K hK' => ?_
  obtain ⟨D, d, w', h1, h2, h3, h4⟩ := run_app (P := P) w o.type hS base D0 d0 xs ys hown B A c hr h63 hb hbase
  unfold Oper.wpIn
  refine ⟨?_, ?_⟩
  · simp [Oper.about, ho, resolve, Target.leads, Sem.run_pure]
  · rw [Oper.semAt_plain F _ _ (by rw [ho]; intro c hc'; cases hc')]
    simp only [execOp, ho, resolve, invoke, builtin, Sem.run_bind, Sem.run_pure, Result.andThen_ok, List.map_toArray, List.map_cons, List.map_nil, hs, hx, h1]
    exact hK' _ _ (h D d w' h2 h3 h4)

set_option maxRecDepth 100000 in
set_option maxHeartbeats 3200000 in
theorem appendSeq_chain (xs : List Int) (lb : Array Value) (w : World) (hl : xs.length ≤ 1000) (hs : ∀ W, Kept 0 0 w W → W.heap.size = w.heap.size + 1 → Seq Tryd.prog 97 lb xs (fun k => k ≠ w.heap.size ∧ k < W.heap.size) W) :
    Calls Tryd.prog 96 #[.slice none 0 0, .func (.func 97) #[] lb] w fun e w' => ∃ u, e = .returned u ∧ OwnI w' w.heap.size w'.heap.size u xs ∧ Kept 0 0 w w' := by
  refine (callsIn_wide (n := 9)).1 ?_
  have hd : 1 ≤ 9 := by decide
  obtain ⟨W, hW⟩ : ∃ W, W = w.alloc (.cells #[.slice none 0 0] 37) := ⟨_, rfl⟩
  have kW : Kept 0 0 w W := by rw [hW]; exact Kept.alloc0 _ _
  have sW : W.heap.size = w.heap.size + 1 := by rw [hW]; simp
  have bS : Blk W w.heap.size 37 #[.slice none 0 0] := by rw [hW]; exact Blk.new _ _ _
  have SC := Lib.hid (hs W kW sW)
  have K0 := Lib.hid kW
  replace bS := Lib.hid bS
  have HT := Lib.hid iSlice
  clear hs kW
  refine callsIn_of_wp_marks Tryd.func96 rfl trivial ?_ rfl
  simp only [Tryd.ntmps96, List.size_toArray, List.length_cons, List.length_nil, Nat.reduceAdd, Nat.reduceSub, Array.replicate_succ, Array.replicate_zero, List.push_toArray, List.append_toArray, List.nil_append, List.cons_append]
  gi_wp2_with fail
  rw [← hW]
  clear hW
  refine wp_over hd (gf := 97) (lb := lb) rfl (enters_of Tryd.func97 (by kernel_rfl) rfl)
    (xs := xs) (S := fun k => k ≠ w.heap.size) SC.out
    (fun M k V => (∃ v, Blk V w.heap.size 37 #[v] ∧ OwnI V M V.heap.size v (xs.take k)) ∧ M ≤ V.heap.size ∧ Hold (fun k => k ≠ w.heap.size) W.heap.size W.heap.size W V)
    (fun M c V => False)
    ?start ?stay ?stayx
    (fun x => { tmps := #[.slice none 0 0, .func (.func 97) #[] lb, .pointer (some ⟨w.heap.size, 0, none⟩), undef, .slice none 0 0, .int .i64 x, .func (.func 97) #[] lb, .int .i64 x, undef, undef, undef, undef, undef], defers := [] })
    ?assign ?body ?done ?stop
  case start =>
    intro V hV _
    exact ⟨⟨_, bS.out.kept hV (.inl (Nat.le_refl _)), OwnI.nil _ _ _⟩, Nat.le_refl _, Hold.of_kept0 hV (Nat.le_refl _)⟩
  case stay =>
    rintro M k V V' hM ⟨⟨v, h1, h2⟩, hz, h3⟩ hV
    exact ⟨⟨v, h1.kept hV (.inr (.inl (by omega))), (h2.kept hV (.inr (.inr (Nat.le_refl _)))).wide (Nat.le_refl _) hV.size⟩, Nat.le_trans hz hV.size, h3.trans (Hold.of_kept hV h3.size (fun k _ hk => by omega))⟩
  case stayx =>
    intro M c V V' _ h
    exact h.elim
  case assign =>
    intro l x W K hK
    gi_wp2
    exact hK
  case body =>
    rintro l' M k hkc V hM ⟨⟨v, h1, h2⟩, hz, h3⟩
    obtain ⟨D, d, rfl, h2⟩ := h2
    have ET := Lib.hid (List.take_succ_eq_append_getElem hkc)
    obtain ⟨x, hx⟩ : ∃ x, x = xs[k] := ⟨_, rfl⟩
    rw [← hx] at ET ⊢
    have hk' : (xs.take k).length ≤ 1000 := by simp; omega
    obtain ⟨ys, hys⟩ : ∃ ys, ys = xs.take k := ⟨_, rfl⟩
    rw [← hys] at h1 h2 ET hk'
    clear hx hys
    have B1 := Lib.hid h1
    have O1 := Lib.hid h2
    have H3 := Lib.hid h3
    have cS := h1.cell 0
    have fS := h1.frozen 0
    have hd8 : 1 ≤ 8 := by decide
    clear h1 h2 h3
    gi_wp2_with (gi_at_builtin; refine wpListIn_app (R := iR) rfl (.tmp 8) (.tmp 10) rfl HT.out M D d ys rfl (row_kept O1.out.1 (Kept.alloc0 _ _)) (V.heap.size + 1) (some ⟨V.heap.size, 0, none⟩) 1 [x] rfl (rd_litI V x) (by simp [maxLen]; omega) (by simp; omega) (by simp; omega) ?_; intro D2 d2 w2 hown hgrow hat; have b2 : Blk w2 w.heap.size 37 #[.slice D ys.length d] := blk_grown (B1.out.alloc _) hgrow (fun e => by have := (own_row_lo O1.out.1 _ e).1; omega); have c2 := b2.cell 0; have f2 := b2.frozen 0; have HO := Lib.hid hown; have HG := Lib.hid hgrow; have B2 := Lib.hid b2; clear b2 hown hgrow hat)
    have k2 : Kept M (V.heap.size + 1) V w2 := ((Kept.refl 0 0 V).alloc _ |>.wide (.inl (Nat.le_refl _))).trans (Kept.of_grown HG.out (fun g hg => by have := own_row_lo O1.out.1 g hg; omega))
    have hh : ∀ m, m ≤ M → Hold (fun k => k ≠ w.heap.size) W.heap.size m V (w2.setCell ⟨w.heap.size, 0, none⟩ (.slice D2 (ys.length + 1) d2)) := fun m hm =>
      (Hold.of_kept k2 (by omega) (fun k _ hk => by omega)).setCell _ (fun k _ hk => by show k ≠ w.heap.size; omega)
    refine ⟨hh M (Nat.le_refl _), ⟨_, B2.out.set_ 0 _, ?_⟩, Nat.le_trans hz (hh M (Nat.le_refl _)).size, H3.out.trans (hh W.heap.size (by omega))⟩
    rw [ET.out]
    exact ⟨D2, d2, by simp, ((OwnZ.of_row HO.out).kept (Kept.setCell (lo := w.heap.size) (hi := w.heap.size + 1) (Kept.refl _ _ _) (.inr ⟨Nat.le_refl _, Nat.lt_succ_self _⟩) _) (.inr (.inr (by omega)))).wide (Nat.le_refl _) (by simp [World.setCell])⟩
  case done =>
    rintro D M V hD hDM ⟨⟨v, h1, h2⟩, hz, h3⟩ hK
    rw [List.take_length] at h2
    have cS := h1.cell 0
    have kD : Kept D (D + 1) V (V.putObj D (.deferred none)) := Kept.putObj V _ (Nat.le_refl D) (Nat.lt_succ_self D)
    have KV : Hid (Kept 0 0 w (V.putObj D (.deferred none))) := by
      have k1 : Kept 0 0 w V := ⟨h3.os.trans K0.out.os, h3.tape.trans K0.out.tape, h3.output.trans K0.out.output, Nat.le_trans K0.out.size h3.size, fun k hk _ => (h3.block k (by omega) (.inl (by omega))).trans (K0.out.block k hk (by omega))⟩
      exact k1.trans2 kD (.inr (by omega))
    have OV : Hid (OwnI (V.putObj D (.deferred none)) w.heap.size (V.putObj D (.deferred none)).heap.size v xs) := (h2.kept kD (.inr (.inr (by omega)))).wide (by omega) kD.size
    have TD := Lib.hid (run_takeDeferred (P := Tryd.prog) hK)
    clear h1 h2 h3 hK kD
    gi_wp2
    refine ⟨by simp, .inl ⟨_, _, rfl, TD.out, ?_⟩⟩
    exact ⟨_, results_tmp rfl _ _ _, v, rfl, OV.out, KV.out⟩
  case stop =>
    rintro D M c V hD hDM h hK
    exact h.elim

set_option maxHeartbeats 800000 in
theorem collect_chain (xs : List Int) (lb : Array Value) (w : World) (hl : xs.length ≤ 1000) (hs : ∀ W, Kept 0 0 w W → W.heap.size = w.heap.size + 1 → Seq Tryd.prog 97 lb xs (fun k => k ≠ w.heap.size ∧ k < W.heap.size) W) :
    Calls Tryd.prog 92 #[.func (.func 97) #[] lb] w fun e w' => ∃ u, e = .returned u ∧ OwnI w' w.heap.size w'.heap.size u xs ∧ Kept 0 0 w w' := by
  have C := Lib.hid (appendSeq_chain xs lb w hl hs)
  clear hs
  go_enter Tryd.func92, Tryd.ntmps92
  go_wp2_with fail
  with_reducible refine C.out.mono ?_
  rintro e w1 ⟨u, rfl, ho, hk⟩
  have O := Lib.hid ho
  have K := Lib.hid hk
  clear ho hk
  go_wp2
  go_ret
  exact ⟨u, rfl, O.out, K.out⟩

set_option maxHeartbeats 800000 in
theorem implChain (t : List Nd) (n : Int) (v : Value) (w : World) (h : RdNd w w.heap.size v t) :
    Calls Tryd.prog 76 #[v, .int .i64 n] w fun e w' => ∃ u, e = .returned u ∧ OwnI w' w.heap.size w'.heap.size u (chainL t n) ∧ Kept 0 0 w w' := by
  obtain ⟨A, c, rfl, h⟩ := h
  have HR : Hid (RdNd w w.heap.size (.slice A t.length c) t) := ⟨A, c, rfl, h⟩
  clear h
  obtain ⟨W, hW⟩ : ∃ W, W = (w.alloc (.cells #[.slice A t.length c] 24)).alloc (.cells #[.int .i64 n] 2) := ⟨_, rfl⟩
  have CM := Lib.hid (chain_mk A t.length c n w)
  rw [← hW] at CM
  have kW : Kept 0 0 w W := by rw [hW]; exact (Kept.alloc0 _ _).alloc _
  have sW : W.heap.size = w.heap.size + 2 := by rw [hW]; simp
  have b1 : Blk W w.heap.size 24 #[.slice A t.length c] := by rw [hW]; exact (Blk.new _ _ _).alloc _
  have b2 : Blk W (w.heap.size + 1) 2 #[.int .i64 n] := by
    rw [hW]
    have := Blk.new (w.alloc (.cells #[.slice A t.length c] 24)) 2 #[.int .i64 n]
    rwa [World.size_alloc] at this
  have gl := chainL_len t n
  have C := Lib.hid (collect_chain (chainL t n) #[.pointer (some ⟨w.heap.size, 0, none⟩), .pointer (some ⟨w.heap.size + 1, 0, none⟩)] W (by omega) (fun V hV hz =>
    seq_chain t n (.slice A t.length c) w.heap.size (w.heap.size + 1) w.heap.size (fun k => k ≠ W.heap.size ∧ k < V.heap.size) V
      ((HR.out.kept (Nat.le_refl _) kW (.inl (Nat.le_refl _))).kept (by omega) hV (.inl (Nat.le_refl _))) (by omega) (fun k hk => by omega) (b1.kept hV (.inl (Nat.le_refl _))) (by omega) (b2.kept hV (.inl (Nat.le_refl _)))))
  have K0 := Lib.hid kW
  clear hW kW b1 b2 gl
  go_enter Tryd.func76, Tryd.ntmps76
  go_wp2_with fail
  with_reducible refine CM.out.mono ?_
  rintro e w1 ⟨rfl, ew⟩
  subst ew
  go_wp2_with fail
  with_reducible refine C.out.mono ?_
  rintro e w2 ⟨u, rfl, ho, hk⟩
  have O := Lib.hid (ho.wide (lo' := w.heap.size) (by omega) (Nat.le_refl _))
  have K := Lib.hid (K0.out.trans hk)
  clear ho hk
  go_wp2
  go_ret
  exact ⟨u, rfl, O.out, K.out⟩
end Go.Proofs.YtgahjachkeoflaaDoor
