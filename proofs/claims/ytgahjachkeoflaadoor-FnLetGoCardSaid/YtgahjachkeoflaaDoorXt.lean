/- errors.As by its contracts, at a target of the program's own error type: a nil error (false, nothing turns) and an error of that type (true, the target's five cells hold it); Go's own text is walked. -/
import Derived.Test.YtgahjachkeoflaaDoorXs
import Derived.WalkKit
namespace Go.Proofs.YtgahjachkeoflaaDoor
open Go.RowKit Go.Extern.Stop Go.Stop Go.Extern

/-- What the walks want to know of package errors' variable errorType. -/
def Typ (w : World) : Prop := w.cell? ⟨2, 0, none⟩ = some (.iface 116 (.agg #[.pointer (some ⟨3, 72, none⟩)]))
theorem Typ.kept {w w' : World} (h : Typ w) (hk : Kept 0 0 w w') : Typ w' := cell_kept hk h

theorem as_nil (t : Value) (w : World) :
    Calls Tryd.prog 53 #[.nilIface, t] w fun e w' => e = .returned (.bool false) ∧ w = w' := by
  go_enter Tryd.func53, Tryd.ntmps53
  go_wp2
  go_ret
  exact ⟨rfl, rfl⟩

/-! ### CLOSED FACTS ON THE MODEL's ENTRIES FOR internal/reflectlite, at this program's types -/
theorem Tryd.valueOfP (t : Addr) (w : World) : (ReflectliteValue.unpack (.iface 77 (.pointer (some t)))).run Tryd.prog w
    = .ok (.agg #[.pointer (some ⟨3, 77, none⟩), .pointer (some ⟨w.heap.size, 0, none⟩), .int .u64 150]) (w.alloc (.cells #[.pointer (some t)] 77)) := by kernel_rfl
theorem Tryd.typeP (a : Addr) (w : World) : (ReflectliteValue.methodAny (ReflectliteValue.valueError "reflectlite.Value.Type" 0) (fun t _ _ _ => ReflectliteType.toType t) #[.agg #[.pointer (some ⟨3, 77, none⟩), .pointer (some a), .int .u64 150]]).run Tryd.prog w
    = .ok (.iface 116 (.agg #[.pointer (some ⟨3, 77, none⟩)])) w := by kernel_rfl
theorem Tryd.methodKind (h : Value) (w : World) : (Go.method (Tryd.prog.types.size + 100) 116 (.agg #[h]) "Kind").run Tryd.prog w = .ok (116, h) w := by kernel_rfl
theorem Tryd.kindP (w : World) : ((ReflectliteType.abiMethod fun t => (fun a : Nat => Value.int IntKind.u8 (a : Int)) <$> Rtype.kind t) #[.pointer (some ⟨3, 77, none⟩)]).run Tryd.prog w = .ok (.int .u8 22) w := by kernel_rfl
theorem Tryd.kindE (w : World) : ((ReflectliteType.abiMethod fun t => (fun a : Nat => Value.int IntKind.u8 (a : Int)) <$> Rtype.kind t) #[.pointer (some ⟨3, 74, none⟩)]).run Tryd.prog w = .ok (.int .u8 25) w := by kernel_rfl
theorem rlm (z : Sem Value) (f : TypeId → Addr → Nat → Nat → Sem Value) (v : Value) :
    ReflectliteValue.method z f #[v] = (do match ← ReflectliteValue.parts v with | none => z | some (t, a, fl) => f t a fl (fl % 32)) := rfl
theorem Tryd.partsP (a : Addr) (w : World) : (ReflectliteValue.parts (.agg #[.pointer (some ⟨3, 77, none⟩), .pointer (some a), .int .u64 150])).run Tryd.prog w = .ok (some (77, a, 150)) w := by kernel_rfl
/-- (Value).IsNil at the Value of a target that is not nil. -/
theorem Tryd.isNilP (a p : Addr) (W : World) (ha : W.cell? a = some (.pointer (some p))) :
    (ReflectliteValue.method (ReflectliteValue.valueError "reflectlite.Value.IsNil" 0) ReflectliteValue.isNil #[.agg #[.pointer (some ⟨3, 77, none⟩), .pointer (some a), .int .u64 150]]).run Tryd.prog W = .ok (.bool false) W := by
  rw [rlm]
  simp only [Sem.run_bind, Tryd.partsP, Result.andThen]
  simp [ReflectliteValue.isNil, loadVar, isAgg, underlying, Tryd.underlying77, ha, Result.andThen]
theorem Tryd.methodElem (h : Value) (w : World) : (Go.method (Tryd.prog.types.size + 100) 116 (.agg #[h]) "Elem").run Tryd.prog w = .ok (127, .agg #[h]) w := by kernel_rfl
theorem Tryd.methodImplements (h : Value) (w : World) : (Go.method (Tryd.prog.types.size + 100) 116 (.agg #[h]) "Implements").run Tryd.prog w = .ok (128, .agg #[h]) w := by kernel_rfl
theorem Tryd.methodAssignableTo (h : Value) (w : World) : (Go.method (Tryd.prog.types.size + 100) 116 (.agg #[h]) "AssignableTo").run Tryd.prog w = .ok (125, .agg #[h]) w := by kernel_rfl
theorem Tryd.elemP (w : World) : (ReflectliteType.method ReflectliteType.elem #[.agg #[.pointer (some ⟨3, 77, none⟩)]]).run Tryd.prog w = .ok (.iface 116 (.agg #[.pointer (some ⟨3, 74, none⟩)])) w := by kernel_rfl
theorem Tryd.implementsE (w : World) : (ReflectliteType.relation "Implements" ReflectliteType.implements_ #[.agg #[.pointer (some ⟨3, 74, none⟩)], .iface 116 (.agg #[.pointer (some ⟨3, 72, none⟩)])]).run Tryd.prog w = .ok (.bool true) w := by kernel_rfl
theorem Tryd.typeOfE (v : Value) (w : World) : (ReflectliteType.typeOf #[.iface 74 v]).run Tryd.prog w = .ok (.iface 116 (.agg #[.pointer (some ⟨3, 74, none⟩)])) w := by kernel_rfl
theorem Tryd.assignableE (w : World) : (ReflectliteType.relation "AssignableTo" ReflectliteType.assignableTo #[.agg #[.pointer (some ⟨3, 74, none⟩)], .iface 116 (.agg #[.pointer (some ⟨3, 74, none⟩)])]).run Tryd.prog w = .ok (.bool true) w := by kernel_rfl
theorem Tryd.valueOfE (n e c t : Int) (r : Addr) (w : World) : (ReflectliteValue.unpack (.iface 74 (.agg #[.int .i64 n, .int .i64 e, .int .i64 c, .int .i64 t, .iface 141 (.pointer (some r))]))).run Tryd.prog w
    = .ok (.agg #[.pointer (some ⟨3, 74, none⟩), .pointer (some ⟨w.heap.size, 0, none⟩), .int .u64 153]) (w.alloc (.cells #[.int .i64 n, .int .i64 e, .int .i64 c, .int .i64 t, .iface 141 (.pointer (some r))] 74)) := by kernel_rfl
theorem Tryd.elemOfP (w : World) : (Rtype.elem? 77).run Tryd.prog w = .ok (some 74) w := by kernel_rfl
theorem Tryd.mkE (p : Addr) (w : World) : (ReflectliteValue.mk 74 p ReflectliteValue.flagAddr).run Tryd.prog w = .ok (.agg #[.pointer (some ⟨3, 74, none⟩), .pointer (some p), .int .u64 409]) w := by kernel_rfl
/-- (Value).Elem at the Value of a target: the Value of the variable that it points to, addressable. -/
theorem Tryd.elemVP (a p : Addr) (W : World) (ha : W.cell? a = some (.pointer (some p))) :
    (ReflectliteValue.method (ReflectliteValue.valueError "reflectlite.Value.Elem" 0) ReflectliteValue.elem #[.agg #[.pointer (some ⟨3, 77, none⟩), .pointer (some a), .int .u64 150]]).run Tryd.prog W
      = .ok (.agg #[.pointer (some ⟨3, 74, none⟩), .pointer (some p), .int .u64 409]) W := by
  rw [rlm]
  simp only [Sem.run_bind, Tryd.partsP, Result.andThen]
  simp [ReflectliteValue.elem, loadVar, isAgg, underlying, Tryd.underlying77, ha, Result.andThen, Tryd.elemOfP, Tryd.mkE]
theorem rls (v x : Value) : ReflectliteValue.set #[v, x] = (do
    let (some (dst, a, fl), some (src, b, _)) := (← ReflectliteValue.parts v, ← ReflectliteValue.parts x)
      | unsupported (.noEntry "extern/(internal/reflectlite.Value).Set.zeroValue")
    if fl / ReflectliteValue.flagAddr % 2 == 0 then unsupported (.noEntry "extern/(internal/reflectlite.Value).Set.unaddressable")
    let val ← loadVar src b
    if ← Rtype.directlyAssignable dst src then storeVar dst a val
    else if ← Rtype.implements dst src then
      if (← Rtype.kind src) == 20 then
        match val with
        | .nilIface => unsupported (.noEntry "extern/reflectlite: a nil value of one interface type handed on as a value of another")
        | _ => storeVar dst a val
      else storeVar dst a (.iface src val)
    else panicString ("reflectlite.Set: value of type " ++ (← Rtype.spelt src) ++ " is not assignable to type " ++ (← Rtype.spelt dst))
    pure (.tuple #[])) := rfl
theorem Tryd.partsEa (a : Addr) (w : World) : (ReflectliteValue.parts (.agg #[.pointer (some ⟨3, 74, none⟩), .pointer (some a), .int .u64 409])).run Tryd.prog w = .ok (some (74, a, 409)) w := by kernel_rfl
theorem Tryd.partsE (a : Addr) (w : World) : (ReflectliteValue.parts (.agg #[.pointer (some ⟨3, 74, none⟩), .pointer (some a), .int .u64 153])).run Tryd.prog w = .ok (some (74, a, 153)) w := by kernel_rfl
theorem Tryd.directE (w : World) : (Rtype.directlyAssignable 74 74).run Tryd.prog w = .ok true w := by kernel_rfl
theorem Tryd.sizeE (w : World) : (sizeOf 74).run Tryd.prog w = .ok 5 w := by kernel_rfl
theorem Tryd.aggE (w : World) : (isAgg 74).run Tryd.prog w = .ok true w := by kernel_rfl
/-- (Value).Set: the error variable in block tb gets what the Value's own variable, block b, holds. -/
theorem Tryd.setE (n e c t : Int) (r : Addr) (tb b : Nat) (old : Array Value) (W : World) (hb : Blk W b 74 #[.int .i64 n, .int .i64 e, .int .i64 c, .int .i64 t, .iface 141 (.pointer (some r))]) (ht : Blk W tb 74 old) (h5 : old.size = 5) :
    (ReflectliteValue.set #[.agg #[.pointer (some ⟨3, 74, none⟩), .pointer (some ⟨tb, 0, none⟩), .int .u64 409], .agg #[.pointer (some ⟨3, 74, none⟩), .pointer (some ⟨b, 0, none⟩), .int .u64 153]]).run Tryd.prog W
      = .ok (.tuple #[]) (W.setCells tb 0 [.int .i64 n, .int .i64 e, .int .i64 c, .int .i64 t, .iface 141 (.pointer (some r))]) := by
  have hl : (loadCells ⟨b, 0, none⟩ 5).run Tryd.prog W = .ok #[.int .i64 n, .int .i64 e, .int .i64 c, .int .i64 t, .iface 141 (.pointer (some r))] W := by
    have := run_loadCells_list (P := Tryd.prog) W ⟨b, 0, none⟩ [.int .i64 n, .int .i64 e, .int .i64 c, .int .i64 t, .iface 141 (.pointer (some r))] (fun j v hv => by
      have hadd : (⟨b, 0, none⟩ : Addr).add j = ⟨b, j, none⟩ := by unfold Addr.add; split <;> simp_all
      rw [hadd, hb.cell j]
      simpa using hv)
    simpa using this
  have hs : (storeCells ⟨tb, 0, none⟩ [.int .i64 n, .int .i64 e, .int .i64 c, .int .i64 t, .iface 141 (.pointer (some r))] 0).run Tryd.prog W = .ok () (W.setCells tb 0 [.int .i64 n, .int .i64 e, .int .i64 c, .int .i64 t, .iface 141 (.pointer (some r))]) := by
    have := run_storeCells_cells (P := Tryd.prog) tb 0 [.int .i64 n, .int .i64 e, .int .i64 c, .int .i64 t, .iface 141 (.pointer (some r))] 0 W (fun j hj => by
      rw [show 0 + 0 + j = j by omega, ht.cell j]
      simp at hj
      rw [Array.getElem?_eq_getElem (by omega)]
      rfl) (fun j hj => ht.frozen _) (fun v hv => by
        simp only [List.mem_cons, List.not_mem_nil, or_false] at hv
        rcases hv with rfl | rfl | rfl | rfl | rfl <;> rfl)
    simpa using this
  rw [rls]
  simp only [Sem.run_bind, Tryd.partsEa, Tryd.partsE, Result.andThen]
  simp [ReflectliteValue.flagAddr, loadVar, hl, Result.andThen, Tryd.directE, storeVar, Value.cells, hs]

set_option maxHeartbeats 4000000 in
theorem as_hit (n e c t : Int) (r : Addr) (tb : Nat) (old : Array Value) (w : World) (hg : Typ w) (ht : Blk w tb 74 old) (h5 : old.size = 5) :
    Calls Tryd.prog 53 #[doneV n e c t r, .iface 77 (.pointer (some ⟨tb, 0, none⟩))] w fun ev w' => ev = .returned (.bool true) ∧ w' = (((((w.alloc (.cells #[.pointer (some ⟨tb, 0, none⟩)] 77)).alloc (.cells #[.pointer (some ⟨3, 77, none⟩), .pointer (some ⟨w.heap.size, 0, none⟩), .int .u64 150] 99)).alloc (.cells #[.pointer (some ⟨3, 77, none⟩), .pointer (some ⟨w.heap.size, 0, none⟩), .int .u64 150] 99)).alloc (.cells #[.int .i64 n, .int .i64 e, .int .i64 c, .int .i64 t, .iface 141 (.pointer (some r))] 74))).setCells tb 0 [.int .i64 n, .int .i64 e, .int .i64 c, .int .i64 t, .iface 141 (.pointer (some r))] := by
  have h6 := @run_callFunc_extern Tryd.prog 72 _ (fun args => ReflectliteValue.unpack (args.getD 0 (.tuple #[]))) Tryd.func72 (by kernel_rfl) (by kernel_rfl) (by kernel_rfl) (by kernel_rfl)
  have h7 := @run_callFunc_extern Tryd.prog 73 _ (ReflectliteValue.methodAny (ReflectliteValue.valueError "reflectlite.Value.Type" 0) (fun t _ _ _ => ReflectliteType.toType t)) Tryd.func73 (by kernel_rfl) (by kernel_rfl) (by kernel_rfl) (by kernel_rfl)
  have h8 := @run_callFunc_extern Tryd.prog 74 _ (ReflectliteValue.method (ReflectliteValue.valueError "reflectlite.Value.IsNil" 0) ReflectliteValue.isNil) Tryd.func74 (by kernel_rfl) (by kernel_rfl) (by kernel_rfl) (by kernel_rfl)
  have h27 := @run_callFunc_extern Tryd.prog 116 _ (ReflectliteType.abiMethod fun t => do pure (.int .u8 (← Rtype.kind t))) Tryd.func116 (by kernel_rfl) (by kernel_rfl) (by kernel_rfl) (by kernel_rfl)
  have h37 := @run_callFunc_extern Tryd.prog 127 _ (ReflectliteType.method ReflectliteType.elem) Tryd.func127 (by kernel_rfl) (by kernel_rfl) (by kernel_rfl) (by kernel_rfl)
  have h38 := @run_callFunc_extern Tryd.prog 128 _ (ReflectliteType.relation "Implements" ReflectliteType.implements_) Tryd.func128 (by kernel_rfl) (by kernel_rfl) (by kernel_rfl) (by kernel_rfl)
  have h10 := @run_callFunc_extern Tryd.prog 79 _ (ReflectliteType.typeOf) Tryd.func79 (by kernel_rfl) (by kernel_rfl) (by kernel_rfl) (by kernel_rfl)
  have h35 := @run_callFunc_extern Tryd.prog 125 _ (ReflectliteType.relation "AssignableTo" ReflectliteType.assignableTo) Tryd.func125 (by kernel_rfl) (by kernel_rfl) (by kernel_rfl) (by kernel_rfl)
  have h11 := @run_callFunc_extern Tryd.prog 90 _ (ReflectliteValue.method (ReflectliteValue.valueError "reflectlite.Value.Elem" 0) ReflectliteValue.elem) Tryd.func90 (by kernel_rfl) (by kernel_rfl) (by kernel_rfl) (by kernel_rfl)
  have h12 := @run_callFunc_extern Tryd.prog 91 _ (ReflectliteValue.set) Tryd.func91 (by kernel_rfl) (by kernel_rfl) (by kernel_rfl) (by kernel_rfl)
  have tO := Tryd.typeOfE
  have mA := Tryd.methodAssignableTo
  have a25 := Tryd.assignableE
  have v25 := Tryd.valueOfE
  have f6 := Tryd.valueOfP
  have f7 := Tryd.typeP
  have mK := Tryd.methodKind
  have mE := Tryd.methodElem
  have mI := Tryd.methodImplements
  have k27 := Tryd.kindP
  have k25 := Tryd.kindE
  have e27 := Tryd.elemP
  have i25 := Tryd.implementsE
  rw [Tryd.nTypes] at mA mK mE mI
  have n8 := Tryd.isNilP ⟨w.heap.size, 0, none⟩ ⟨tb, 0, none⟩ (((w.alloc (.cells #[.pointer (some ⟨tb, 0, none⟩)] 77)).alloc (.cells #[.pointer (some ⟨3, 77, none⟩), .pointer (some ⟨w.heap.size, 0, none⟩), .int .u64 150] 99))) (by simp)
  have hlt : 2 < w.heap.size := World.block_lt_of_cell? w _ hg
  have hg2 : (((w.alloc (.cells #[.pointer (some ⟨tb, 0, none⟩)] 77)).alloc (.cells #[.pointer (some ⟨3, 77, none⟩), .pointer (some ⟨w.heap.size, 0, none⟩), .int .u64 150] 99))).cell? ⟨2, 0, none⟩ = some (.iface 116 (.agg #[.pointer (some ⟨3, 72, none⟩)])) :=
    Typ.kept hg ((Kept.alloc0 _ _).alloc _)
  have el := Tryd.elemVP ⟨w.heap.size, 0, none⟩ ⟨tb, 0, none⟩ ((((w.alloc (.cells #[.pointer (some ⟨tb, 0, none⟩)] 77)).alloc (.cells #[.pointer (some ⟨3, 77, none⟩), .pointer (some ⟨w.heap.size, 0, none⟩), .int .u64 150] 99)).alloc (.cells #[.pointer (some ⟨3, 77, none⟩), .pointer (some ⟨w.heap.size, 0, none⟩), .int .u64 150] 99))) (by rw [World.cell?_alloc_lt _ _ ⟨w.heap.size, 0, none⟩ (by simp; omega)]; simp)
  have st := Tryd.setE n e c t r tb (w.heap.size + 1 + 1 + 1) old (((((w.alloc (.cells #[.pointer (some ⟨tb, 0, none⟩)] 77)).alloc (.cells #[.pointer (some ⟨3, 77, none⟩), .pointer (some ⟨w.heap.size, 0, none⟩), .int .u64 150] 99)).alloc (.cells #[.pointer (some ⟨3, 77, none⟩), .pointer (some ⟨w.heap.size, 0, none⟩), .int .u64 150] 99)).alloc (.cells #[.int .i64 n, .int .i64 e, .int .i64 c, .int .i64 t, .iface 141 (.pointer (some r))] 74)))
    (by have := Blk.new ((((w.alloc (.cells #[.pointer (some ⟨tb, 0, none⟩)] 77)).alloc (.cells #[.pointer (some ⟨3, 77, none⟩), .pointer (some ⟨w.heap.size, 0, none⟩), .int .u64 150] 99)).alloc (.cells #[.pointer (some ⟨3, 77, none⟩), .pointer (some ⟨w.heap.size, 0, none⟩), .int .u64 150] 99))) 74 #[.int .i64 n, .int .i64 e, .int .i64 c, .int .i64 t, .iface 141 (.pointer (some r))]; simpa using this)
    (ht.kept ((((Kept.alloc0 _ _).alloc _).alloc _).alloc _) (.inl (Nat.le_refl _))) h5
  unfold doneV
  go_enter Tryd.func53, Tryd.ntmps53
  go_wp2
  refine wp_loop_rounds 1 ?_
  rw [rounds_succ]
  go_wp2
  go_ret
  exact ⟨rfl, rfl⟩
theorem blk_set5 {w : World} {g : Nat} {ty : TypeId} {a b c d e : Value} (h : Blk w g ty #[a, b, c, d, e]) (p q r s u : Value) : Blk (w.setCells g 0 [p, q, r, s, u]) g ty #[p, q, r, s, u] := by
  have := ((((h.set_ 0 p).set_ 1 q).set_ 2 r).set_ 3 s).set_ 4 u
  have h2 : Blk (((((w.setCell ⟨g, 0, none⟩ p).setCell ⟨g, 1, none⟩ q).setCell ⟨g, 2, none⟩ r).setCell ⟨g, 3, none⟩ s).setCell ⟨g, 4, none⟩ u) g ty #[p, q, r, s, u] := by simpa using this
  exact h2
/-- The same, by what it leaves. -/
theorem as_done (n e c t : Int) (r : Addr) (tb : Nat) (q0 q1 q2 q3 q4 : Value) (w : World) (hg : Typ w) (ht : Blk w tb 74 #[q0, q1, q2, q3, q4]) :
    Calls Tryd.prog 53 #[doneV n e c t r, .iface 77 (.pointer (some ⟨tb, 0, none⟩))] w fun ev w' => ev = .returned (.bool true) ∧ Blk w' tb 74 #[.int .i64 n, .int .i64 e, .int .i64 c, .int .i64 t, .iface 141 (.pointer (some r))] ∧ Kept tb (tb + 1) w w' := by
  refine (as_hit n e c t r tb _ w hg ht rfl).mono fun ev w' ⟨he, hw⟩ => ⟨he, ?_, ?_⟩
  · rw [hw]
    exact blk_set5 (ht.kept ((((Kept.alloc0 _ _).alloc _).alloc _).alloc _) (.inl (Nat.le_refl _))) _ _ _ _ _
  · rw [hw]
    have k : Kept tb (tb + 1) w (((((w.alloc (.cells #[.pointer (some ⟨tb, 0, none⟩)] 77)).alloc (.cells #[.pointer (some ⟨3, 77, none⟩), .pointer (some ⟨w.heap.size, 0, none⟩), .int .u64 150] 99)).alloc (.cells #[.pointer (some ⟨3, 77, none⟩), .pointer (some ⟨w.heap.size, 0, none⟩), .int .u64 150] 99)).alloc (.cells #[.int .i64 n, .int .i64 e, .int .i64 c, .int .i64 t, .iface 141 (.pointer (some r))] 74))) := ((((Kept.refl _ _ _).alloc _).alloc _).alloc _).alloc _
    exact ((((k.setCell (p := ⟨tb, 0, none⟩) (.inr ⟨Nat.le_refl _, Nat.lt_succ_self _⟩) _).setCell (p := ⟨tb, 1, none⟩) (.inr ⟨Nat.le_refl _, Nat.lt_succ_self _⟩) _).setCell (p := ⟨tb, 2, none⟩) (.inr ⟨Nat.le_refl _, Nat.lt_succ_self _⟩) _).setCell (p := ⟨tb, 3, none⟩) (.inr ⟨Nat.le_refl _, Nat.lt_succ_self _⟩) _).setCell (p := ⟨tb, 4, none⟩) (.inr ⟨Nat.le_refl _, Nat.lt_succ_self _⟩) _
end Go.Proofs.YtgahjachkeoflaaDoor
