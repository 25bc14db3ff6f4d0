/- errors.Is and errors.As by their contracts, at what the program hands them: nil, or its own error that wraps one of two sentinels; Go's own text of both is walked. The sentinels are two pointers that differ. -/
import Derived.Test.YtgahjachkeoflaaDoorGr
import Derived.LaidEql
import Derived.Stop.Asserts
import Derived.RowKitTokens
import Derived.Laws.IdiomCopy
namespace Go.Proofs.YtgahjachkeoflaaDoor
open Go.RowKit Go.Extern.Stop Go.Stop Go.Extern

/-- What the walks want to know of the two sentinels. -/
structure Sen (w : World) (a0 a1 : Addr) : Prop where
  v0 : w.cell? ⟨0, 0, none⟩ = some (.iface 141 (.pointer (some a0)))
  v1 : w.cell? ⟨1, 0, none⟩ = some (.iface 141 (.pointer (some a1)))
  ne : a0 ≠ a1
  b0 : ∃ c t, w.heap[a0.block]? = some (.cells c t (0, 0))
  b1 : ∃ c t, w.heap[a1.block]? = some (.cells c t (0, 0))
theorem heap_lt {w : World} {g : Nat} {o : Obj} (h : w.heap[g]? = some o) : g < w.heap.size := (Array.getElem?_eq_some_iff.1 h).1
theorem Sen.kept {w w' : World} {a0 a1 : Addr} (h : Sen w a0 a1) (hk : Kept 0 0 w w') : Sen w' a0 a1 := by
  obtain ⟨c0, t0, h0⟩ := h.b0
  obtain ⟨c1, t1, h1⟩ := h.b1
  exact ⟨cell_kept hk h.v0, cell_kept hk h.v1, h.ne, ⟨c0, t0, (hk.block _ (heap_lt h0) (.inr (Nat.zero_le _))).trans h0⟩, ⟨c1, t1, (hk.block _ (heap_lt h1) (.inr (Nat.zero_le _))).trans h1⟩⟩
/-- The two sentinels by number: 0 the first. -/
def senAt (a0 a1 : Addr) (b : Bool) : Addr := if b then a1 else a0
theorem Sen.blk {w : World} {a0 a1 : Addr} (h : Sen w a0 a1) (b : Bool) : ∃ c t, w.heap[(senAt a0 a1 b).block]? = some (.cells c t (0, 0)) := by
  cases b
  · exact h.b0
  · exact h.b1

/-! ### CLOSED FACTS -/
theorem Tryd.isTypeOf (v : Value) (w : World) : (Extern.ReflectliteType.typeOf #[.iface 141 v]).run Tryd.prog w = .ok (.iface 116 (.agg #[.pointer (some ⟨3, 141, none⟩)])) w := by kernel_rfl
theorem Tryd.isComparable (w : World) : (callFunc 126 #[.agg #[.pointer (some ⟨3, 141, none⟩)]]).run Tryd.prog w = .ok (.value (.bool true)) w := by
  obtain ⟨e, he, hr⟩ : ∃ e, Extern.find Tryd.f126 = some e ∧ ∀ w, (e #[.agg #[.pointer (some ⟨3, 141, none⟩)]]).run Tryd.prog w = .ok (.bool true) w :=
    ⟨Extern.ReflectliteType.method fun t => do Extern.Rtype.noPackHeld "Comparable" t; pure (.bool (← typeInfo t).comparable), by kernel_rfl, fun w => by kernel_rfl⟩
  rw [run_callFunc_extern Tryd.func126 (by kernel_rfl) (by kernel_rfl) (by kernel_rfl) he, hr]
  rfl
theorem Tryd.isMethodComparable (v : Value) (w : World) : (Go.method (Tryd.prog.types.size + 100) 116 v "Comparable").run Tryd.prog w = .ok (126, v) w := by kernel_rfl
theorem Tryd.isComp : (Tryd.prog.info? 141).map (·.comparable) = some true := by kernel_rfl
theorem Tryd.isSize : (Tryd.prog.info? 163).map (·.size) = some 1 := by kernel_rfl
theorem Tryd.nTypes : Tryd.prog.types.size = 175 := by kernel_rfl
theorem Tryd.noIsE (v : Value) (xT : TypeId) (w : World) : (Instr.typeAssert (.iface 141 v) xT 133 true).run Tryd.prog w = .ok (.tuple #[.nilIface, .bool false]) w := run_typeAssert_lacksB Tryd.underlying133 (by kernel_rfl) (by kernel_rfl) v xT w
theorem Tryd.noUnwrapE (v : Value) (xT : TypeId) (w : World) : (Instr.typeAssert (.iface 141 v) xT 123 true).run Tryd.prog w = .ok (.tuple #[.nilIface, .bool false]) w := run_typeAssert_lacksB Tryd.underlying123 (by kernel_rfl) (by kernel_rfl) v xT w
theorem Tryd.noUnwrapsE (v : Value) (xT : TypeId) (w : World) : (Instr.typeAssert (.iface 141 v) xT 125 true).run Tryd.prog w = .ok (.tuple #[.nilIface, .bool false]) w := run_typeAssert_lacksB Tryd.underlying125 (by kernel_rfl) (by kernel_rfl) v xT w
theorem Tryd.noIsD (v : Value) (xT : TypeId) (w : World) : (Instr.typeAssert (.iface 74 v) xT 133 true).run Tryd.prog w = .ok (.tuple #[.nilIface, .bool false]) w := run_typeAssert_lacksB Tryd.underlying133 (by kernel_rfl) (by kernel_rfl) v xT w
theorem Tryd.hasUnwrapD (v : Value) (xT : TypeId) (w : World) : (Instr.typeAssert (.iface 74 v) xT 123 true).run Tryd.prog w = .ok (.tuple #[.iface 74 v, .bool true]) w := run_typeAssert_hasB Tryd.underlying123 (by kernel_rfl) v xT w
theorem Tryd.methodUnwrap (v : Value) (w : World) : (Go.method (Tryd.prog.types.size + 100) 74 v "Unwrap").run Tryd.prog w = .ok (120, v) w := by kernel_rfl

/-- The program's own error, over an event of four numbers and a reason. -/
def doneV (n e c t : Int) (r : Addr) : Value := .iface 74 (.agg #[.int .i64 n, .int .i64 e, .int .i64 c, .int .i64 t, .iface 141 (.pointer (some r))])

/-- errors.Is(nil, x). -/
theorem is_nil (b : Addr) (w : World) :
    Calls Tryd.prog 57 #[.nilIface, .iface 141 (.pointer (some b))] w fun e w' => e = .returned (.bool false) ∧ Kept 0 0 w w' := by
  have hn := run_eql_iface_nil_left (P := Tryd.prog) w 141 (.pointer (some b)) Tryd.underlying72
  go_enter Tryd.func57, Tryd.ntmps57
  go_wp2
  go_ret
  exact ⟨rfl, Kept.refl _ _ _⟩

set_option maxHeartbeats 1600000 in
/-- errors.Is(d, x), d the program's own error over the sentinel x. -/
theorem is_done_same (n e c t : Int) (r : Addr) (w : World) :
    Calls Tryd.prog 57 #[doneV n e c t r, .iface 141 (.pointer (some r))] w fun e w' => e = .returned (.bool true) ∧ Kept 0 0 w w' := by
  obtain ⟨i, hi, hcmp⟩ := Option.map_eq_some_iff.1 Tryd.isComp
  obtain ⟨j, hj, hjs⟩ := Option.map_eq_some_iff.1 Tryd.isSize
  have h8 := @run_callFunc_extern Tryd.prog 79 _ Extern.ReflectliteType.typeOf Tryd.func79 (by kernel_rfl) (by kernel_rfl) (by kernel_rfl) (by kernel_rfl)
  have tT := Tryd.isTypeOf
  have cT := Tryd.isComparable
  have mR := Tryd.isMethodComparable
  have nE := Tryd.noIsE
  have uE := Tryd.noUnwrapE
  have vE := Tryd.noUnwrapsE
  have nW := Tryd.noIsD
  have uW := Tryd.hasUnwrapD
  have mU := Tryd.methodUnwrap
  rw [Tryd.nTypes] at mR mU
  have heq := run_eql_iface_ptr_same (P := Tryd.prog) (w.alloc (.cells #[.int .i64 n, .int .i64 e, .int .i64 c, .int .i64 t, .iface 141 (.pointer (some r))] 74)) r Tryd.underlying72 Tryd.underlying141 hi hcmp hj
  have hty := run_eql_iface_types (P := Tryd.prog) 74 141 (.agg #[.int .i64 n, .int .i64 e, .int .i64 c, .int .i64 t, .iface 141 (.pointer (some r))]) (.pointer (some r)) Tryd.underlying72 (by decide) w
  unfold doneV
  go_enter Tryd.func57, Tryd.ntmps57
  go_wp2
  refine wp_loop_rounds 2 ?_
  rw [rounds_succ]
  go_wp2
  rw [rounds_succ]
  go_wp2
  go_ret
  exact ⟨rfl, Kept.alloc0 _ _⟩

set_option maxHeartbeats 1600000 in
/-- errors.Is(d, x), d the program's own error over another sentinel. -/
theorem is_done_other (n e c t : Int) (r b : Addr) (w : World) (hne : r ≠ b) (hr : ∃ c t, w.heap[r.block]? = some (.cells c t (0, 0))) (hb : ∃ c t, w.heap[b.block]? = some (.cells c t (0, 0))) :
    Calls Tryd.prog 57 #[doneV n e c t r, .iface 141 (.pointer (some b))] w fun e w' => e = .returned (.bool false) ∧ Kept 0 0 w w' := by
  obtain ⟨i, hi, hcmp⟩ := Option.map_eq_some_iff.1 Tryd.isComp
  obtain ⟨j, hj, hjs⟩ := Option.map_eq_some_iff.1 Tryd.isSize
  have h8 := @run_callFunc_extern Tryd.prog 79 _ Extern.ReflectliteType.typeOf Tryd.func79 (by kernel_rfl) (by kernel_rfl) (by kernel_rfl) (by kernel_rfl)
  have tT := Tryd.isTypeOf
  have cT := Tryd.isComparable
  have mR := Tryd.isMethodComparable
  have nE := Tryd.noIsE
  have uE := Tryd.noUnwrapE
  have vE := Tryd.noUnwrapsE
  have nW := Tryd.noIsD
  have uW := Tryd.hasUnwrapD
  have mU := Tryd.methodUnwrap
  rw [Tryd.nTypes] at mR mU
  obtain ⟨cr, tr, hr⟩ := hr
  obtain ⟨cb, tb, hb⟩ := hb
  have k := Kept.alloc0 w (.cells #[.int .i64 n, .int .i64 e, .int .i64 c, .int .i64 t, .iface 141 (.pointer (some r))] 74)
  have heq := run_eql_iface_ptr_other (P := Tryd.prog) (w.alloc (.cells #[.int .i64 n, .int .i64 e, .int .i64 c, .int .i64 t, .iface 141 (.pointer (some r))] 74)) Tryd.underlying72 Tryd.underlying141 hi hcmp hj (by rw [hjs]; decide) hne ((k.block _ (heap_lt hr) (.inr (Nat.zero_le _))).trans hr) ((k.block _ (heap_lt hb) (.inr (Nat.zero_le _))).trans hb)
  have hty := run_eql_iface_types (P := Tryd.prog) 74 141 (.agg #[.int .i64 n, .int .i64 e, .int .i64 c, .int .i64 t, .iface 141 (.pointer (some r))]) (.pointer (some b)) Tryd.underlying72 (by decide) w
  unfold doneV
  clear k hr hb
  go_enter Tryd.func57, Tryd.ntmps57
  go_wp2
  refine wp_loop_rounds 2 ?_
  rw [rounds_succ]
  go_wp2
  rw [rounds_succ]
  go_wp2
  go_ret
  exact ⟨rfl, Kept.alloc0 _ _⟩
end Go.Proofs.YtgahjachkeoflaaDoor
