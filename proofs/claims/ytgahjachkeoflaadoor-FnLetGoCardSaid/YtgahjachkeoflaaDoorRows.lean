/-
  NARROWER THAN 'FOR EVERY INPUT', by the rows' own cells (each row's printed sentence says how): FnLetGo: ifaces, laid · FnExactEventsOk: ifaces, laid · FnExactFirstOf: ifaces, laid · FnExactErrOf: ifaces, laid · FnExactCauseOf: ifaces, laid · FnExactLetGo: ifaces, laid · FnExactDoneBy: ifaces, laid.
  DERIVED. THE GIVEN ROWS OF THIS SEAT. 7 by the template 'for every input the law returns true; each argument reads behind the call as it read before'; 0 by the template 'total and deterministic' (their statements: YtgahjachkeoflaaDoorTotals.lean).
  GIVEN WITH THE SEED: the statements are not yours to turn. If you find one false, say at which input.
  Laid BY PROGRAM, IN A SANDBOX (cutbox-rows.mjs): the forced cells as the released guide's own fill.sh prints them over the translation 3f696ad490ee96be… (all of the seat's roots in one cut). By AI agents, Wed Nov 11 2026. No macro, syntax, notation, axiom, sorry.
-/
import Derived.Test.YtgahjachkeoflaaDoorChecked
import GoSem.Claim
import GoSem.ClaimJoined
import GoSem.ClaimMapViews
import Derived.JoinedTies
import Derived.KernelRfl
namespace Go.Proofs.YtgahjachkeoflaaDoor
/- THE CELL 'sum', in the pinned program and in every row, IS THE sha256 OF THE DUMP (.gsa) THAT YtgahjachkeoflaaDoorProg.lean LOADS. Nothing in Lean hashes anything: it is a label: what it is worth is what the hold of that sum in a sandbox is worth. -/
noncomputable def Tryd.pinned : Pinned := { name := "ytgahjachkeoflaadoor", sum := "3f696ad490ee96bea93f5b4538a6d523f10c573fd391edce1b7776e31d199780", checked := Tryd.checked }
namespace Rows
def none {H : Type} : Left H := { results := [], args := [] }

/- WHAT THE LISTED PACKAGE-LEVEL VARIABLES READ AS WHEN THE CALL BEGINS. Each datum BY PROGRAM (the guide's laid-datum.mjs) off the statement by which the dump's own 'gosem.cut.vars' lays the variable. In a bare row this is a premise. The card (YtgahjachkeoflaaDoorCards.lean) ties it to the program's text. -/
def laid_errors_errorType {H : Type} : DataW H := .iface "internal/reflectlite.rtype" (.agg [.ptr (.lit (.string [101, 114, 114, 111, 114]))])
def laid_loop_example_g00673_impl_errCanceled {H : Type} : DataW H := .iface "*errors.errorString" (.ptr (.agg [.lit (.string [99, 97, 110, 99, 101, 108, 101, 100])]))
def laid_loop_example_g00673_impl_errDeadline {H : Type} : DataW H := .iface "*errors.errorString" (.ptr (.agg [.lit (.string [100, 101, 97, 100, 108, 105, 110, 101, 32, 114, 101, 97, 99, 104, 101, 100])]))

/-- 'laws.FnLetGo': WHATEVER THE INPUT: true; the input reads as it did. -/
def fnLetGoSpec : ChangeSpec := { name := "fnLetGo", vars := ["loop.example/g00673/impl.errDeadline", "loop.example/g00673/impl.errCanceled"], fn := fun _ => fun
  | [d, g1, g2] => { results := [.lit (.bool true)], args := [d], vars := [g1, g2] }
  | _ => none }
def fnLetGoRow : OpenClaim := { program := "ytgahjachkeoflaadoor", sum := "3f696ad490ee96bea93f5b4538a6d523f10c573fd391edce1b7776e31d199780", func := "loop.example/g00673/laws.FnLetGo", spec := "fnLetGo", inPlace := ["internal/reflectlite.ValueOf", "(internal/reflectlite.Value).Type", "(internal/reflectlite.Value).IsNil", "internal/reflectlite.TypeOf", "(internal/reflectlite.Value).Elem", "(internal/reflectlite.Value).Set"], unfollowed := true, recurses := true, named := ["loop.example/g00673/impl.errDeadline", "loop.example/g00673/impl.errCanceled", "errors.errorType"], ifaces := true, apart := false, laid := [("errors.errorType", laid_errors_errorType), ("loop.example/g00673/impl.errCanceled", laid_loop_example_g00673_impl_errCanceled), ("loop.example/g00673/impl.errDeadline", laid_loop_example_g00673_impl_errDeadline)] }
def FnLetGoSaid : Prop := fnLetGoRow.holds Tryd.pinned (OpenSpec.ofChange fnLetGoSpec)

/-- ITS FALSE NEIGHBOUR: 'it returns false'. Refute it at one input. -/
def fnLetGoWrong : ChangeSpec := { name := "fnLetGo", vars := ["loop.example/g00673/impl.errDeadline", "loop.example/g00673/impl.errCanceled"], fn := fun _ => fun
  | [d, g1, g2] => { results := [.lit (.bool false)], args := [d], vars := [g1, g2] }
  | _ => none }
def FnLetGoWrongFalsely : Prop := fnLetGoRow.holds Tryd.pinned (OpenSpec.ofChange fnLetGoWrong)

/-- 'laws.FnExactEventsOk': WHATEVER THE INPUT: true; the input reads as it did. -/
def fnExactEventsOkSpec : ChangeSpec := { name := "fnExactEventsOk", vars := ["loop.example/g00673/impl.errDeadline", "loop.example/g00673/impl.errCanceled"], fn := fun _ => fun
  | [d1, d2, g1, g2] => { results := [.lit (.bool true)], args := [d1, d2], vars := [g1, g2] }
  | _ => none }
def fnExactEventsOkRow : OpenClaim := { program := "ytgahjachkeoflaadoor", sum := "3f696ad490ee96bea93f5b4538a6d523f10c573fd391edce1b7776e31d199780", func := "loop.example/g00673/laws.FnExactEventsOk", spec := "fnExactEventsOk", unfollowed := true, recurses := true, named := ["loop.example/g00673/impl.errDeadline", "loop.example/g00673/impl.errCanceled"], ifaces := true, apart := false, laid := [("loop.example/g00673/impl.errCanceled", laid_loop_example_g00673_impl_errCanceled), ("loop.example/g00673/impl.errDeadline", laid_loop_example_g00673_impl_errDeadline)] }
def FnExactEventsOkSaid : Prop := fnExactEventsOkRow.holds Tryd.pinned (OpenSpec.ofChange fnExactEventsOkSpec)

/-- ITS FALSE NEIGHBOUR: 'it returns false'. Refute it at one input. -/
def fnExactEventsOkWrong : ChangeSpec := { name := "fnExactEventsOk", vars := ["loop.example/g00673/impl.errDeadline", "loop.example/g00673/impl.errCanceled"], fn := fun _ => fun
  | [d1, d2, g1, g2] => { results := [.lit (.bool false)], args := [d1, d2], vars := [g1, g2] }
  | _ => none }
def FnExactEventsOkWrongFalsely : Prop := fnExactEventsOkRow.holds Tryd.pinned (OpenSpec.ofChange fnExactEventsOkWrong)

/-- 'laws.FnExactFirstOf': WHATEVER THE INPUT: true; the input reads as it did. -/
def fnExactFirstOfSpec : ChangeSpec := { name := "fnExactFirstOf", vars := ["loop.example/g00673/impl.errDeadline", "loop.example/g00673/impl.errCanceled"], fn := fun _ => fun
  | [d1, d2, d3, g1, g2] => { results := [.lit (.bool true)], args := [d1, d2, d3], vars := [g1, g2] }
  | _ => none }
def fnExactFirstOfRow : OpenClaim := { program := "ytgahjachkeoflaadoor", sum := "3f696ad490ee96bea93f5b4538a6d523f10c573fd391edce1b7776e31d199780", func := "loop.example/g00673/laws.FnExactFirstOf", spec := "fnExactFirstOf", inPlace := ["internal/reflectlite.ValueOf", "(internal/reflectlite.Value).Type", "(internal/reflectlite.Value).IsNil", "internal/reflectlite.TypeOf", "(internal/reflectlite.Value).Elem", "(internal/reflectlite.Value).Set"], unfollowed := true, recurses := true, named := ["loop.example/g00673/impl.errDeadline", "loop.example/g00673/impl.errCanceled", "errors.errorType"], ifaces := true, apart := false, laid := [("errors.errorType", laid_errors_errorType), ("loop.example/g00673/impl.errCanceled", laid_loop_example_g00673_impl_errCanceled), ("loop.example/g00673/impl.errDeadline", laid_loop_example_g00673_impl_errDeadline)] }
def FnExactFirstOfSaid : Prop := fnExactFirstOfRow.holds Tryd.pinned (OpenSpec.ofChange fnExactFirstOfSpec)

/-- ITS FALSE NEIGHBOUR: 'it returns false'. Refute it at one input. -/
def fnExactFirstOfWrong : ChangeSpec := { name := "fnExactFirstOf", vars := ["loop.example/g00673/impl.errDeadline", "loop.example/g00673/impl.errCanceled"], fn := fun _ => fun
  | [d1, d2, d3, g1, g2] => { results := [.lit (.bool false)], args := [d1, d2, d3], vars := [g1, g2] }
  | _ => none }
def FnExactFirstOfWrongFalsely : Prop := fnExactFirstOfRow.holds Tryd.pinned (OpenSpec.ofChange fnExactFirstOfWrong)

/-- 'laws.FnExactErrOf': WHATEVER THE INPUT: true; the input reads as it did. -/
def fnExactErrOfSpec : ChangeSpec := { name := "fnExactErrOf", vars := ["loop.example/g00673/impl.errCanceled", "loop.example/g00673/impl.errDeadline"], fn := fun _ => fun
  | [d1, d2, d3, g1, g2] => { results := [.lit (.bool true)], args := [d1, d2, d3], vars := [g1, g2] }
  | _ => none }
def fnExactErrOfRow : OpenClaim := { program := "ytgahjachkeoflaadoor", sum := "3f696ad490ee96bea93f5b4538a6d523f10c573fd391edce1b7776e31d199780", func := "loop.example/g00673/laws.FnExactErrOf", spec := "fnExactErrOf", inPlace := ["internal/reflectlite.TypeOf"], unfollowed := true, recurses := true, named := ["loop.example/g00673/impl.errCanceled", "loop.example/g00673/impl.errDeadline"], ifaces := true, apart := false, laid := [("loop.example/g00673/impl.errCanceled", laid_loop_example_g00673_impl_errCanceled), ("loop.example/g00673/impl.errDeadline", laid_loop_example_g00673_impl_errDeadline)] }
def FnExactErrOfSaid : Prop := fnExactErrOfRow.holds Tryd.pinned (OpenSpec.ofChange fnExactErrOfSpec)

/-- ITS FALSE NEIGHBOUR: 'it returns false'. Refute it at one input. -/
def fnExactErrOfWrong : ChangeSpec := { name := "fnExactErrOf", vars := ["loop.example/g00673/impl.errCanceled", "loop.example/g00673/impl.errDeadline"], fn := fun _ => fun
  | [d1, d2, d3, g1, g2] => { results := [.lit (.bool false)], args := [d1, d2, d3], vars := [g1, g2] }
  | _ => none }
def FnExactErrOfWrongFalsely : Prop := fnExactErrOfRow.holds Tryd.pinned (OpenSpec.ofChange fnExactErrOfWrong)

/-- 'laws.FnExactCauseOf': WHATEVER THE INPUT: true; the input reads as it did. -/
def fnExactCauseOfSpec : ChangeSpec := { name := "fnExactCauseOf", vars := ["loop.example/g00673/impl.errDeadline", "loop.example/g00673/impl.errCanceled"], fn := fun _ => fun
  | [d1, d2, d3, g1, g2] => { results := [.lit (.bool true)], args := [d1, d2, d3], vars := [g1, g2] }
  | _ => none }
def fnExactCauseOfRow : OpenClaim := { program := "ytgahjachkeoflaadoor", sum := "3f696ad490ee96bea93f5b4538a6d523f10c573fd391edce1b7776e31d199780", func := "loop.example/g00673/laws.FnExactCauseOf", spec := "fnExactCauseOf", inPlace := ["internal/reflectlite.ValueOf", "(internal/reflectlite.Value).Type", "(internal/reflectlite.Value).IsNil", "internal/reflectlite.TypeOf", "(internal/reflectlite.Value).Elem", "(internal/reflectlite.Value).Set"], unfollowed := true, recurses := true, named := ["loop.example/g00673/impl.errDeadline", "loop.example/g00673/impl.errCanceled", "errors.errorType"], ifaces := true, apart := false, laid := [("errors.errorType", laid_errors_errorType), ("loop.example/g00673/impl.errCanceled", laid_loop_example_g00673_impl_errCanceled), ("loop.example/g00673/impl.errDeadline", laid_loop_example_g00673_impl_errDeadline)] }
def FnExactCauseOfSaid : Prop := fnExactCauseOfRow.holds Tryd.pinned (OpenSpec.ofChange fnExactCauseOfSpec)

/-- ITS FALSE NEIGHBOUR: 'it returns false'. Refute it at one input. -/
def fnExactCauseOfWrong : ChangeSpec := { name := "fnExactCauseOf", vars := ["loop.example/g00673/impl.errDeadline", "loop.example/g00673/impl.errCanceled"], fn := fun _ => fun
  | [d1, d2, d3, g1, g2] => { results := [.lit (.bool false)], args := [d1, d2, d3], vars := [g1, g2] }
  | _ => none }
def FnExactCauseOfWrongFalsely : Prop := fnExactCauseOfRow.holds Tryd.pinned (OpenSpec.ofChange fnExactCauseOfWrong)

/-- 'laws.FnExactLetGo': WHATEVER THE INPUT: true; the input reads as it did. -/
def fnExactLetGoSpec : ChangeSpec := { name := "fnExactLetGo", vars := ["loop.example/g00673/impl.errDeadline", "loop.example/g00673/impl.errCanceled"], fn := fun _ => fun
  | [d1, d2, d3, g1, g2] => { results := [.lit (.bool true)], args := [d1, d2, d3], vars := [g1, g2] }
  | _ => none }
def fnExactLetGoRow : OpenClaim := { program := "ytgahjachkeoflaadoor", sum := "3f696ad490ee96bea93f5b4538a6d523f10c573fd391edce1b7776e31d199780", func := "loop.example/g00673/laws.FnExactLetGo", spec := "fnExactLetGo", unfollowed := true, recurses := true, named := ["loop.example/g00673/impl.errDeadline", "loop.example/g00673/impl.errCanceled"], ifaces := true, apart := false, laid := [("loop.example/g00673/impl.errCanceled", laid_loop_example_g00673_impl_errCanceled), ("loop.example/g00673/impl.errDeadline", laid_loop_example_g00673_impl_errDeadline)] }
def FnExactLetGoSaid : Prop := fnExactLetGoRow.holds Tryd.pinned (OpenSpec.ofChange fnExactLetGoSpec)

/-- ITS FALSE NEIGHBOUR: 'it returns false'. Refute it at one input. -/
def fnExactLetGoWrong : ChangeSpec := { name := "fnExactLetGo", vars := ["loop.example/g00673/impl.errDeadline", "loop.example/g00673/impl.errCanceled"], fn := fun _ => fun
  | [d1, d2, d3, g1, g2] => { results := [.lit (.bool false)], args := [d1, d2, d3], vars := [g1, g2] }
  | _ => none }
def FnExactLetGoWrongFalsely : Prop := fnExactLetGoRow.holds Tryd.pinned (OpenSpec.ofChange fnExactLetGoWrong)

/-- 'laws.FnExactDoneBy': WHATEVER THE INPUT: true; the input reads as it did. -/
def fnExactDoneBySpec : ChangeSpec := { name := "fnExactDoneBy", vars := ["loop.example/g00673/impl.errDeadline", "loop.example/g00673/impl.errCanceled"], fn := fun _ => fun
  | [d1, d2, g1, g2] => { results := [.lit (.bool true)], args := [d1, d2], vars := [g1, g2] }
  | _ => none }
def fnExactDoneByRow : OpenClaim := { program := "ytgahjachkeoflaadoor", sum := "3f696ad490ee96bea93f5b4538a6d523f10c573fd391edce1b7776e31d199780", func := "loop.example/g00673/laws.FnExactDoneBy", spec := "fnExactDoneBy", unfollowed := true, recurses := true, named := ["loop.example/g00673/impl.errDeadline", "loop.example/g00673/impl.errCanceled"], ifaces := true, apart := false, laid := [("loop.example/g00673/impl.errCanceled", laid_loop_example_g00673_impl_errCanceled), ("loop.example/g00673/impl.errDeadline", laid_loop_example_g00673_impl_errDeadline)] }
def FnExactDoneBySaid : Prop := fnExactDoneByRow.holds Tryd.pinned (OpenSpec.ofChange fnExactDoneBySpec)

/-- ITS FALSE NEIGHBOUR: 'it returns false'. Refute it at one input. -/
def fnExactDoneByWrong : ChangeSpec := { name := "fnExactDoneBy", vars := ["loop.example/g00673/impl.errDeadline", "loop.example/g00673/impl.errCanceled"], fn := fun _ => fun
  | [d1, d2, g1, g2] => { results := [.lit (.bool false)], args := [d1, d2], vars := [g1, g2] }
  | _ => none }
def FnExactDoneByWrongFalsely : Prop := fnExactDoneByRow.holds Tryd.pinned (OpenSpec.ofChange fnExactDoneByWrong)

/- THE SECOND FORM. 'bulk': how many values and letters a reading holds, each counted each time it is reached (what is shared counts as often as it is met; a slice's spare places count too). A statement '..UptoSaid' is the law's where the arguments, and the package variables that the reading takes, are together of bulk at most 1048576: NARROWER than '..Said'. Prove '..Said' where nothing that the law and all that it calls make is longer than what came in: it says more and counts as full. Else prove '..UptoSaid'. A law counts once. -/
mutual
def uptoBulk {H : Type} : DataW H → Nat
  | .lit (.string bytes) => bytes.length + 1
  | .lit _ => 1
  | .nil => 1
  | .ptr d => uptoBulk d + 1
  | .slice elems spare => uptoBulkAll elems + uptoBulkAll spare + 1
  | .agg parts => uptoBulkAll parts + 1
  | .iface _ d => uptoBulk d + 1
  | .map entries => uptoBulkEntries entries + 1
  | .held _ => 1
def uptoBulkAll {H : Type} : List (DataW H) → Nat
  | [] => 0
  | d :: r => uptoBulk d + uptoBulkAll r
def uptoBulkEntries {H : Type} : List (Lit × DataW H) → Nat
  | [] => 0
  | x :: r => uptoBulkEntry x + uptoBulkEntries r
def uptoBulkEntry {H : Type} : Lit × DataW H → Nat
  | (.string bytes, d) => bytes.length + uptoBulk d + 1
  | (_, d) => uptoBulk d + 1
 end
def uptoSmall : (H : Type) → List (DataW H) → Bool := fun _ ds => decide (uptoBulkAll ds ≤ 1048576)
def OpenSpec.upto (s : _root_.Go.ChangeSpec) : _root_.Go.OpenSpec := { _root_.Go.OpenSpec.ofChange s with cond := some uptoSmall }

/-- 'laws.FnLetGo', WHERE WHAT IT READS IS OF BULK AT MOST 1048576: true; the input reads as it did. -/
def fnLetGoUptoRow : OpenClaim := { program := "ytgahjachkeoflaadoor", sum := "3f696ad490ee96bea93f5b4538a6d523f10c573fd391edce1b7776e31d199780", func := "loop.example/g00673/laws.FnLetGo", spec := "fnLetGo", inPlace := ["internal/reflectlite.ValueOf", "(internal/reflectlite.Value).Type", "(internal/reflectlite.Value).IsNil", "internal/reflectlite.TypeOf", "(internal/reflectlite.Value).Elem", "(internal/reflectlite.Value).Set"], unfollowed := true, recurses := true, named := ["loop.example/g00673/impl.errDeadline", "loop.example/g00673/impl.errCanceled", "errors.errorType"], ifaces := true, apart := false, laid := [("errors.errorType", laid_errors_errorType), ("loop.example/g00673/impl.errCanceled", laid_loop_example_g00673_impl_errCanceled), ("loop.example/g00673/impl.errDeadline", laid_loop_example_g00673_impl_errDeadline)], narrowed := true }
def FnLetGoUptoSaid : Prop := fnLetGoUptoRow.holds Tryd.pinned (OpenSpec.upto fnLetGoSpec)

/-- 'laws.FnExactEventsOk', WHERE WHAT IT READS IS OF BULK AT MOST 1048576: true; the input reads as it did. -/
def fnExactEventsOkUptoRow : OpenClaim := { program := "ytgahjachkeoflaadoor", sum := "3f696ad490ee96bea93f5b4538a6d523f10c573fd391edce1b7776e31d199780", func := "loop.example/g00673/laws.FnExactEventsOk", spec := "fnExactEventsOk", unfollowed := true, recurses := true, named := ["loop.example/g00673/impl.errDeadline", "loop.example/g00673/impl.errCanceled"], ifaces := true, apart := false, laid := [("loop.example/g00673/impl.errCanceled", laid_loop_example_g00673_impl_errCanceled), ("loop.example/g00673/impl.errDeadline", laid_loop_example_g00673_impl_errDeadline)], narrowed := true }
def FnExactEventsOkUptoSaid : Prop := fnExactEventsOkUptoRow.holds Tryd.pinned (OpenSpec.upto fnExactEventsOkSpec)

/-- 'laws.FnExactFirstOf', WHERE WHAT IT READS IS OF BULK AT MOST 1048576: true; the input reads as it did. -/
def fnExactFirstOfUptoRow : OpenClaim := { program := "ytgahjachkeoflaadoor", sum := "3f696ad490ee96bea93f5b4538a6d523f10c573fd391edce1b7776e31d199780", func := "loop.example/g00673/laws.FnExactFirstOf", spec := "fnExactFirstOf", inPlace := ["internal/reflectlite.ValueOf", "(internal/reflectlite.Value).Type", "(internal/reflectlite.Value).IsNil", "internal/reflectlite.TypeOf", "(internal/reflectlite.Value).Elem", "(internal/reflectlite.Value).Set"], unfollowed := true, recurses := true, named := ["loop.example/g00673/impl.errDeadline", "loop.example/g00673/impl.errCanceled", "errors.errorType"], ifaces := true, apart := false, laid := [("errors.errorType", laid_errors_errorType), ("loop.example/g00673/impl.errCanceled", laid_loop_example_g00673_impl_errCanceled), ("loop.example/g00673/impl.errDeadline", laid_loop_example_g00673_impl_errDeadline)], narrowed := true }
def FnExactFirstOfUptoSaid : Prop := fnExactFirstOfUptoRow.holds Tryd.pinned (OpenSpec.upto fnExactFirstOfSpec)

/-- 'laws.FnExactErrOf', WHERE WHAT IT READS IS OF BULK AT MOST 1048576: true; the input reads as it did. -/
def fnExactErrOfUptoRow : OpenClaim := { program := "ytgahjachkeoflaadoor", sum := "3f696ad490ee96bea93f5b4538a6d523f10c573fd391edce1b7776e31d199780", func := "loop.example/g00673/laws.FnExactErrOf", spec := "fnExactErrOf", inPlace := ["internal/reflectlite.TypeOf"], unfollowed := true, recurses := true, named := ["loop.example/g00673/impl.errCanceled", "loop.example/g00673/impl.errDeadline"], ifaces := true, apart := false, laid := [("loop.example/g00673/impl.errCanceled", laid_loop_example_g00673_impl_errCanceled), ("loop.example/g00673/impl.errDeadline", laid_loop_example_g00673_impl_errDeadline)], narrowed := true }
def FnExactErrOfUptoSaid : Prop := fnExactErrOfUptoRow.holds Tryd.pinned (OpenSpec.upto fnExactErrOfSpec)

/-- 'laws.FnExactCauseOf', WHERE WHAT IT READS IS OF BULK AT MOST 1048576: true; the input reads as it did. -/
def fnExactCauseOfUptoRow : OpenClaim := { program := "ytgahjachkeoflaadoor", sum := "3f696ad490ee96bea93f5b4538a6d523f10c573fd391edce1b7776e31d199780", func := "loop.example/g00673/laws.FnExactCauseOf", spec := "fnExactCauseOf", inPlace := ["internal/reflectlite.ValueOf", "(internal/reflectlite.Value).Type", "(internal/reflectlite.Value).IsNil", "internal/reflectlite.TypeOf", "(internal/reflectlite.Value).Elem", "(internal/reflectlite.Value).Set"], unfollowed := true, recurses := true, named := ["loop.example/g00673/impl.errDeadline", "loop.example/g00673/impl.errCanceled", "errors.errorType"], ifaces := true, apart := false, laid := [("errors.errorType", laid_errors_errorType), ("loop.example/g00673/impl.errCanceled", laid_loop_example_g00673_impl_errCanceled), ("loop.example/g00673/impl.errDeadline", laid_loop_example_g00673_impl_errDeadline)], narrowed := true }
def FnExactCauseOfUptoSaid : Prop := fnExactCauseOfUptoRow.holds Tryd.pinned (OpenSpec.upto fnExactCauseOfSpec)

/-- 'laws.FnExactLetGo', WHERE WHAT IT READS IS OF BULK AT MOST 1048576: true; the input reads as it did. -/
def fnExactLetGoUptoRow : OpenClaim := { program := "ytgahjachkeoflaadoor", sum := "3f696ad490ee96bea93f5b4538a6d523f10c573fd391edce1b7776e31d199780", func := "loop.example/g00673/laws.FnExactLetGo", spec := "fnExactLetGo", unfollowed := true, recurses := true, named := ["loop.example/g00673/impl.errDeadline", "loop.example/g00673/impl.errCanceled"], ifaces := true, apart := false, laid := [("loop.example/g00673/impl.errCanceled", laid_loop_example_g00673_impl_errCanceled), ("loop.example/g00673/impl.errDeadline", laid_loop_example_g00673_impl_errDeadline)], narrowed := true }
def FnExactLetGoUptoSaid : Prop := fnExactLetGoUptoRow.holds Tryd.pinned (OpenSpec.upto fnExactLetGoSpec)

/-- 'laws.FnExactDoneBy', WHERE WHAT IT READS IS OF BULK AT MOST 1048576: true; the input reads as it did. -/
def fnExactDoneByUptoRow : OpenClaim := { program := "ytgahjachkeoflaadoor", sum := "3f696ad490ee96bea93f5b4538a6d523f10c573fd391edce1b7776e31d199780", func := "loop.example/g00673/laws.FnExactDoneBy", spec := "fnExactDoneBy", unfollowed := true, recurses := true, named := ["loop.example/g00673/impl.errDeadline", "loop.example/g00673/impl.errCanceled"], ifaces := true, apart := false, laid := [("loop.example/g00673/impl.errCanceled", laid_loop_example_g00673_impl_errCanceled), ("loop.example/g00673/impl.errDeadline", laid_loop_example_g00673_impl_errDeadline)], narrowed := true }
def FnExactDoneByUptoSaid : Prop := fnExactDoneByUptoRow.holds Tryd.pinned (OpenSpec.upto fnExactDoneBySpec)

end Rows
end Go.Proofs.YtgahjachkeoflaaDoor
