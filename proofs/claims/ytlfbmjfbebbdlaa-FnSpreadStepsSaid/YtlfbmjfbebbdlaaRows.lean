/-
  No cell of these rows narrows 'for every input' (looked for: loops, veiled, ifaces, maps, wideKeys, modest, calm, conditions, laid).
  DERIVED. THE GIVEN ROWS OF THIS SEAT. 6 by the template 'for every input the law returns true; each argument reads behind the call as it read before'; 0 by the template 'total and deterministic' (their statements: YtlfbmjfbebbdlaaTotals.lean).
  GIVEN WITH THE SEED: the statements are not yours to turn. If you find one false, say at which input.
  Laid BY PROGRAM, IN A SANDBOX (cutbox-rows.mjs): the forced cells as the released guide's own fill.sh prints them over the translation b9c1fb8643a7d05c… (all of the seat's roots in one cut). By AI agents, Wed Nov 11 2026. No macro, syntax, notation, axiom, sorry.
-/
import Derived.Test.YtlfbmjfbebbdlaaChecked
import GoSem.Claim
import GoSem.ClaimJoined
import GoSem.ClaimMapViews
import Derived.JoinedTies
import Derived.KernelRfl
namespace Go.Proofs.Ytlfbmjfbebbdlaa
/- THE CELL 'sum', in the pinned program and in every row, IS THE sha256 OF THE DUMP (.gsa) THAT YtlfbmjfbebbdlaaProg.lean LOADS. Nothing in Lean hashes anything: it is a label: what it is worth is what the hold of that sum in a sandbox is worth. -/
noncomputable def Try.pinned : Pinned := { name := "ytlfbmjfbebbdlaa", sum := "b9c1fb8643a7d05c502f2b9fd9a34fd0b47fde613ba0af802016e9f26488399c", checked := Try.checked }
namespace Rows
def none {H : Type} : Left H := { results := [], args := [] }

/-- 'laws.FnSpreadAll': WHATEVER THE INPUT: true; the input reads as it did. -/
def fnSpreadAllSpec : ChangeSpec := { name := "fnSpreadAll", fn := fun _ => fun
  | [d] => { results := [.lit (.bool true)], args := [d] }
  | _ => none }
def fnSpreadAllRow : OpenClaim := { program := "ytlfbmjfbebbdlaa", sum := "b9c1fb8643a7d05c502f2b9fd9a34fd0b47fde613ba0af802016e9f26488399c", func := "loop.example/g00673/laws.FnSpreadAll", spec := "fnSpreadAll", unfollowed := true, recurses := true, apart := false }
def FnSpreadAllSaid : Prop := fnSpreadAllRow.holds Try.pinned (OpenSpec.ofChange fnSpreadAllSpec)

/-- ITS FALSE NEIGHBOUR: 'it returns false'. Refute it at one input. -/
def fnSpreadAllWrong : ChangeSpec := { name := "fnSpreadAll", fn := fun _ => fun
  | [d] => { results := [.lit (.bool false)], args := [d] }
  | _ => none }
def FnSpreadAllWrongFalsely : Prop := fnSpreadAllRow.holds Try.pinned (OpenSpec.ofChange fnSpreadAllWrong)

/-- 'laws.FnSpreadSteps': WHATEVER THE INPUT: true; the input reads as it did. -/
def fnSpreadStepsSpec : ChangeSpec := { name := "fnSpreadSteps", fn := fun _ => fun
  | [d] => { results := [.lit (.bool true)], args := [d] }
  | _ => none }
def fnSpreadStepsRow : OpenClaim := { program := "ytlfbmjfbebbdlaa", sum := "b9c1fb8643a7d05c502f2b9fd9a34fd0b47fde613ba0af802016e9f26488399c", func := "loop.example/g00673/laws.FnSpreadSteps", spec := "fnSpreadSteps", unfollowed := true, recurses := true, apart := false }
def FnSpreadStepsSaid : Prop := fnSpreadStepsRow.holds Try.pinned (OpenSpec.ofChange fnSpreadStepsSpec)

/-- ITS FALSE NEIGHBOUR: 'it returns false'. Refute it at one input. -/
def fnSpreadStepsWrong : ChangeSpec := { name := "fnSpreadSteps", fn := fun _ => fun
  | [d] => { results := [.lit (.bool false)], args := [d] }
  | _ => none }
def FnSpreadStepsWrongFalsely : Prop := fnSpreadStepsRow.holds Try.pinned (OpenSpec.ofChange fnSpreadStepsWrong)

/-- 'laws.FnExactSpreadOk': WHATEVER THE INPUT: true; the input reads as it did. -/
def fnExactSpreadOkSpec : ChangeSpec := { name := "fnExactSpreadOk", fn := fun _ => fun
  | [d1, d2] => { results := [.lit (.bool true)], args := [d1, d2] }
  | _ => none }
def fnExactSpreadOkRow : OpenClaim := { program := "ytlfbmjfbebbdlaa", sum := "b9c1fb8643a7d05c502f2b9fd9a34fd0b47fde613ba0af802016e9f26488399c", func := "loop.example/g00673/laws.FnExactSpreadOk", spec := "fnExactSpreadOk", apart := false }
def FnExactSpreadOkSaid : Prop := fnExactSpreadOkRow.holds Try.pinned (OpenSpec.ofChange fnExactSpreadOkSpec)

/-- ITS FALSE NEIGHBOUR: 'it returns false'. Refute it at one input. -/
def fnExactSpreadOkWrong : ChangeSpec := { name := "fnExactSpreadOk", fn := fun _ => fun
  | [d1, d2] => { results := [.lit (.bool false)], args := [d1, d2] }
  | _ => none }
def FnExactSpreadOkWrongFalsely : Prop := fnExactSpreadOkRow.holds Try.pinned (OpenSpec.ofChange fnExactSpreadOkWrong)

/-- 'laws.FnExactBegun': WHATEVER THE INPUT: true; the input reads as it did. -/
def fnExactBegunSpec : ChangeSpec := { name := "fnExactBegun", fn := fun _ => fun
  | [d1, d2, d3] => { results := [.lit (.bool true)], args := [d1, d2, d3] }
  | _ => none }
def fnExactBegunRow : OpenClaim := { program := "ytlfbmjfbebbdlaa", sum := "b9c1fb8643a7d05c502f2b9fd9a34fd0b47fde613ba0af802016e9f26488399c", func := "loop.example/g00673/laws.FnExactBegun", spec := "fnExactBegun", apart := false }
def FnExactBegunSaid : Prop := fnExactBegunRow.holds Try.pinned (OpenSpec.ofChange fnExactBegunSpec)

/-- ITS FALSE NEIGHBOUR: 'it returns false'. Refute it at one input. -/
def fnExactBegunWrong : ChangeSpec := { name := "fnExactBegun", fn := fun _ => fun
  | [d1, d2, d3] => { results := [.lit (.bool false)], args := [d1, d2, d3] }
  | _ => none }
def FnExactBegunWrongFalsely : Prop := fnExactBegunRow.holds Try.pinned (OpenSpec.ofChange fnExactBegunWrong)

/-- 'laws.FnExactSpreadStep': WHATEVER THE INPUT: true; the input reads as it did. -/
def fnExactSpreadStepSpec : ChangeSpec := { name := "fnExactSpreadStep", fn := fun _ => fun
  | [d1, d2] => { results := [.lit (.bool true)], args := [d1, d2] }
  | _ => none }
def fnExactSpreadStepRow : OpenClaim := { program := "ytlfbmjfbebbdlaa", sum := "b9c1fb8643a7d05c502f2b9fd9a34fd0b47fde613ba0af802016e9f26488399c", func := "loop.example/g00673/laws.FnExactSpreadStep", spec := "fnExactSpreadStep", unfollowed := true, recurses := true, apart := false }
def FnExactSpreadStepSaid : Prop := fnExactSpreadStepRow.holds Try.pinned (OpenSpec.ofChange fnExactSpreadStepSpec)

/-- ITS FALSE NEIGHBOUR: 'it returns false'. Refute it at one input. -/
def fnExactSpreadStepWrong : ChangeSpec := { name := "fnExactSpreadStep", fn := fun _ => fun
  | [d1, d2] => { results := [.lit (.bool false)], args := [d1, d2] }
  | _ => none }
def FnExactSpreadStepWrongFalsely : Prop := fnExactSpreadStepRow.holds Try.pinned (OpenSpec.ofChange fnExactSpreadStepWrong)

/-- 'laws.FnExactSpreadAll': WHATEVER THE INPUT: true; the input reads as it did. -/
def fnExactSpreadAllSpec : ChangeSpec := { name := "fnExactSpreadAll", fn := fun _ => fun
  | [d1, d2] => { results := [.lit (.bool true)], args := [d1, d2] }
  | _ => none }
def fnExactSpreadAllRow : OpenClaim := { program := "ytlfbmjfbebbdlaa", sum := "b9c1fb8643a7d05c502f2b9fd9a34fd0b47fde613ba0af802016e9f26488399c", func := "loop.example/g00673/laws.FnExactSpreadAll", spec := "fnExactSpreadAll", unfollowed := true, recurses := true, apart := false }
def FnExactSpreadAllSaid : Prop := fnExactSpreadAllRow.holds Try.pinned (OpenSpec.ofChange fnExactSpreadAllSpec)

/-- ITS FALSE NEIGHBOUR: 'it returns false'. Refute it at one input. -/
def fnExactSpreadAllWrong : ChangeSpec := { name := "fnExactSpreadAll", fn := fun _ => fun
  | [d1, d2] => { results := [.lit (.bool false)], args := [d1, d2] }
  | _ => none }
def FnExactSpreadAllWrongFalsely : Prop := fnExactSpreadAllRow.holds Try.pinned (OpenSpec.ofChange fnExactSpreadAllWrong)

/- THE SECOND FORM. 'bulk': how many values and letters a reading holds, each counted each time it is reached (what is shared counts as often as it is met; a slice's spare places count too). A statement '..UptoSaid' is the law's where the arguments, and the package variables that the reading takes, are together of bulk at most 1048576: NARROWER than '..Said'. Prove '..Said' where nothing that the law and all that it calls make is longer than what came in: it says more and counts as full. Else prove '..UptoSaid'. A law counts once. -/
mutual
def uptoBulk {H : Type} : DataW H → Nat
  | .lit (.string bytes) => bytes.length + 1
  | .lit _ => 1
  | .nil => 1
  | .ptr d => uptoBulk d + 1
  | .slice elems spare => uptoBulkAll elems + uptoBulkAll spare + 1
  | .agg parts => uptoBulkAll parts + 1
  | .iface _ d => uptoBulk d + 1
  | .map entries => uptoBulkEntries entries + 1
  | .held _ => 1
def uptoBulkAll {H : Type} : List (DataW H) → Nat
  | [] => 0
  | d :: r => uptoBulk d + uptoBulkAll r
def uptoBulkEntries {H : Type} : List (Lit × DataW H) → Nat
  | [] => 0
  | x :: r => uptoBulkEntry x + uptoBulkEntries r
def uptoBulkEntry {H : Type} : Lit × DataW H → Nat
  | (.string bytes, d) => bytes.length + uptoBulk d + 1
  | (_, d) => uptoBulk d + 1
 end
def uptoSmall : (H : Type) → List (DataW H) → Bool := fun _ ds => decide (uptoBulkAll ds ≤ 1048576)
def OpenSpec.upto (s : _root_.Go.ChangeSpec) : _root_.Go.OpenSpec := { _root_.Go.OpenSpec.ofChange s with cond := some uptoSmall }

/-- 'laws.FnSpreadAll', WHERE WHAT IT READS IS OF BULK AT MOST 1048576: true; the input reads as it did. -/
def fnSpreadAllUptoRow : OpenClaim := { program := "ytlfbmjfbebbdlaa", sum := "b9c1fb8643a7d05c502f2b9fd9a34fd0b47fde613ba0af802016e9f26488399c", func := "loop.example/g00673/laws.FnSpreadAll", spec := "fnSpreadAll", unfollowed := true, recurses := true, apart := false, narrowed := true }
def FnSpreadAllUptoSaid : Prop := fnSpreadAllUptoRow.holds Try.pinned (OpenSpec.upto fnSpreadAllSpec)

/-- 'laws.FnSpreadSteps', WHERE WHAT IT READS IS OF BULK AT MOST 1048576: true; the input reads as it did. -/
def fnSpreadStepsUptoRow : OpenClaim := { program := "ytlfbmjfbebbdlaa", sum := "b9c1fb8643a7d05c502f2b9fd9a34fd0b47fde613ba0af802016e9f26488399c", func := "loop.example/g00673/laws.FnSpreadSteps", spec := "fnSpreadSteps", unfollowed := true, recurses := true, apart := false, narrowed := true }
def FnSpreadStepsUptoSaid : Prop := fnSpreadStepsUptoRow.holds Try.pinned (OpenSpec.upto fnSpreadStepsSpec)

/-- 'laws.FnExactSpreadOk', WHERE WHAT IT READS IS OF BULK AT MOST 1048576: true; the input reads as it did. -/
def fnExactSpreadOkUptoRow : OpenClaim := { program := "ytlfbmjfbebbdlaa", sum := "b9c1fb8643a7d05c502f2b9fd9a34fd0b47fde613ba0af802016e9f26488399c", func := "loop.example/g00673/laws.FnExactSpreadOk", spec := "fnExactSpreadOk", apart := false, narrowed := true }
def FnExactSpreadOkUptoSaid : Prop := fnExactSpreadOkUptoRow.holds Try.pinned (OpenSpec.upto fnExactSpreadOkSpec)

/-- 'laws.FnExactBegun', WHERE WHAT IT READS IS OF BULK AT MOST 1048576: true; the input reads as it did. -/
def fnExactBegunUptoRow : OpenClaim := { program := "ytlfbmjfbebbdlaa", sum := "b9c1fb8643a7d05c502f2b9fd9a34fd0b47fde613ba0af802016e9f26488399c", func := "loop.example/g00673/laws.FnExactBegun", spec := "fnExactBegun", apart := false, narrowed := true }
def FnExactBegunUptoSaid : Prop := fnExactBegunUptoRow.holds Try.pinned (OpenSpec.upto fnExactBegunSpec)

/-- 'laws.FnExactSpreadStep', WHERE WHAT IT READS IS OF BULK AT MOST 1048576: true; the input reads as it did. -/
def fnExactSpreadStepUptoRow : OpenClaim := { program := "ytlfbmjfbebbdlaa", sum := "b9c1fb8643a7d05c502f2b9fd9a34fd0b47fde613ba0af802016e9f26488399c", func := "loop.example/g00673/laws.FnExactSpreadStep", spec := "fnExactSpreadStep", unfollowed := true, recurses := true, apart := false, narrowed := true }
def FnExactSpreadStepUptoSaid : Prop := fnExactSpreadStepUptoRow.holds Try.pinned (OpenSpec.upto fnExactSpreadStepSpec)

/-- 'laws.FnExactSpreadAll', WHERE WHAT IT READS IS OF BULK AT MOST 1048576: true; the input reads as it did. -/
def fnExactSpreadAllUptoRow : OpenClaim := { program := "ytlfbmjfbebbdlaa", sum := "b9c1fb8643a7d05c502f2b9fd9a34fd0b47fde613ba0af802016e9f26488399c", func := "loop.example/g00673/laws.FnExactSpreadAll", spec := "fnExactSpreadAll", unfollowed := true, recurses := true, apart := false, narrowed := true }
def FnExactSpreadAllUptoSaid : Prop := fnExactSpreadAllUptoRow.holds Try.pinned (OpenSpec.upto fnExactSpreadAllSpec)

end Rows
end Go.Proofs.Ytlfbmjfbebbdlaa
