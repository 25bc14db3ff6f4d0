/-
  No cell of these rows narrows 'for every input' (looked for: loops, veiled, ifaces, maps, wideKeys, modest, calm, conditions, laid).
  DERIVED. THE GIVEN ROWS OF THIS SEAT. 8 by the template 'for every input the law returns true; each argument reads behind the call as it read before'; 0 by the template 'total and deterministic' (their statements: YtoccbmmjcbjacaaTotals.lean).
  GIVEN WITH THE SEED: the statements are not yours to turn. If you find one false, say at which input.
  Laid BY PROGRAM, IN A SANDBOX (cutbox-rows.mjs): the forced cells as the released guide's own fill.sh prints them over the translation f4b31df565d784d3… (all of the seat's roots in one cut). By AI agents, Wed Nov 11 2026. No macro, syntax, notation, axiom, sorry.
-/
import Derived.Test.YtoccbmmjcbjacaaChecked
import GoSem.Claim
import GoSem.ClaimJoined
import GoSem.ClaimMapViews
import Derived.JoinedTies
import Derived.KernelRfl
namespace Go.Proofs.Ytoccbmmjcbjacaa
/- THE CELL 'sum', in the pinned program and in every row, IS THE sha256 OF THE DUMP (.gsa) THAT YtoccbmmjcbjacaaProg.lean LOADS. Nothing in Lean hashes anything: it is a label: what it is worth is what the hold of that sum in a sandbox is worth. -/
noncomputable def Try.pinned : Pinned := { name := "ytoccbmmjcbjacaa", sum := "f4b31df565d784d328a8baae0930c14ea682a24ba13a822ca32da0192dc5b43a", checked := Try.checked }
namespace Rows
def none {H : Type} : Left H := { results := [], args := [] }

/-- 'laws.FnTasks': WHATEVER THE INPUT: true; the input reads as it did. -/
def fnTasksSpec : ChangeSpec := { name := "fnTasks", fn := fun _ => fun
  | [d] => { results := [.lit (.bool true)], args := [d] }
  | _ => none }
def fnTasksRow : OpenClaim := { program := "ytoccbmmjcbjacaa", sum := "f4b31df565d784d328a8baae0930c14ea682a24ba13a822ca32da0192dc5b43a", func := "loop.example/g00673/laws.FnTasks", spec := "fnTasks", unfollowed := true, recurses := true, apart := false }
def FnTasksSaid : Prop := fnTasksRow.holds Try.pinned (OpenSpec.ofChange fnTasksSpec)

/-- ITS FALSE NEIGHBOUR: 'it returns false'. Refute it at one input. -/
def fnTasksWrong : ChangeSpec := { name := "fnTasks", fn := fun _ => fun
  | [d] => { results := [.lit (.bool false)], args := [d] }
  | _ => none }
def FnTasksWrongFalsely : Prop := fnTasksRow.holds Try.pinned (OpenSpec.ofChange fnTasksWrong)

/-- 'laws.FnExactInsOk': WHATEVER THE INPUT: true; the input reads as it did. -/
def fnExactInsOkSpec : ChangeSpec := { name := "fnExactInsOk", fn := fun _ => fun
  | [d] => { results := [.lit (.bool true)], args := [d] }
  | _ => none }
def fnExactInsOkRow : OpenClaim := { program := "ytoccbmmjcbjacaa", sum := "f4b31df565d784d328a8baae0930c14ea682a24ba13a822ca32da0192dc5b43a", func := "loop.example/g00673/laws.FnExactInsOk", spec := "fnExactInsOk", apart := false }
def FnExactInsOkSaid : Prop := fnExactInsOkRow.holds Try.pinned (OpenSpec.ofChange fnExactInsOkSpec)

/-- ITS FALSE NEIGHBOUR: 'it returns false'. Refute it at one input. -/
def fnExactInsOkWrong : ChangeSpec := { name := "fnExactInsOk", fn := fun _ => fun
  | [d] => { results := [.lit (.bool false)], args := [d] }
  | _ => none }
def FnExactInsOkWrongFalsely : Prop := fnExactInsOkRow.holds Try.pinned (OpenSpec.ofChange fnExactInsOkWrong)

/-- 'laws.FnExactProgOk': WHATEVER THE INPUT: true; the input reads as it did. -/
def fnExactProgOkSpec : ChangeSpec := { name := "fnExactProgOk", fn := fun _ => fun
  | [d] => { results := [.lit (.bool true)], args := [d] }
  | _ => none }
def fnExactProgOkRow : OpenClaim := { program := "ytoccbmmjcbjacaa", sum := "f4b31df565d784d328a8baae0930c14ea682a24ba13a822ca32da0192dc5b43a", func := "loop.example/g00673/laws.FnExactProgOk", spec := "fnExactProgOk", unfollowed := true, recurses := true, apart := false }
def FnExactProgOkSaid : Prop := fnExactProgOkRow.holds Try.pinned (OpenSpec.ofChange fnExactProgOkSpec)

/-- ITS FALSE NEIGHBOUR: 'it returns false'. Refute it at one input. -/
def fnExactProgOkWrong : ChangeSpec := { name := "fnExactProgOk", fn := fun _ => fun
  | [d] => { results := [.lit (.bool false)], args := [d] }
  | _ => none }
def FnExactProgOkWrongFalsely : Prop := fnExactProgOkRow.holds Try.pinned (OpenSpec.ofChange fnExactProgOkWrong)

/-- 'laws.FnExactTaskOk': WHATEVER THE INPUT: true; the input reads as it did. -/
def fnExactTaskOkSpec : ChangeSpec := { name := "fnExactTaskOk", fn := fun _ => fun
  | [d] => { results := [.lit (.bool true)], args := [d] }
  | _ => none }
def fnExactTaskOkRow : OpenClaim := { program := "ytoccbmmjcbjacaa", sum := "f4b31df565d784d328a8baae0930c14ea682a24ba13a822ca32da0192dc5b43a", func := "loop.example/g00673/laws.FnExactTaskOk", spec := "fnExactTaskOk", apart := false }
def FnExactTaskOkSaid : Prop := fnExactTaskOkRow.holds Try.pinned (OpenSpec.ofChange fnExactTaskOkSpec)

/-- ITS FALSE NEIGHBOUR: 'it returns false'. Refute it at one input. -/
def fnExactTaskOkWrong : ChangeSpec := { name := "fnExactTaskOk", fn := fun _ => fun
  | [d] => { results := [.lit (.bool false)], args := [d] }
  | _ => none }
def FnExactTaskOkWrongFalsely : Prop := fnExactTaskOkRow.holds Try.pinned (OpenSpec.ofChange fnExactTaskOkWrong)

/-- 'laws.FnExactNewTask': WHATEVER THE INPUT: true; the input reads as it did. -/
def fnExactNewTaskSpec : ChangeSpec := { name := "fnExactNewTask", fn := fun _ => fun
  | [d1, d2] => { results := [.lit (.bool true)], args := [d1, d2] }
  | _ => none }
def fnExactNewTaskRow : OpenClaim := { program := "ytoccbmmjcbjacaa", sum := "f4b31df565d784d328a8baae0930c14ea682a24ba13a822ca32da0192dc5b43a", func := "loop.example/g00673/laws.FnExactNewTask", spec := "fnExactNewTask", apart := false }
def FnExactNewTaskSaid : Prop := fnExactNewTaskRow.holds Try.pinned (OpenSpec.ofChange fnExactNewTaskSpec)

/-- ITS FALSE NEIGHBOUR: 'it returns false'. Refute it at one input. -/
def fnExactNewTaskWrong : ChangeSpec := { name := "fnExactNewTask", fn := fun _ => fun
  | [d1, d2] => { results := [.lit (.bool false)], args := [d1, d2] }
  | _ => none }
def FnExactNewTaskWrongFalsely : Prop := fnExactNewTaskRow.holds Try.pinned (OpenSpec.ofChange fnExactNewTaskWrong)

/-- 'laws.FnExactParked': WHATEVER THE INPUT: true; the input reads as it did. -/
def fnExactParkedSpec : ChangeSpec := { name := "fnExactParked", fn := fun _ => fun
  | [d1, d2, d3, d4] => { results := [.lit (.bool true)], args := [d1, d2, d3, d4] }
  | _ => none }
def fnExactParkedRow : OpenClaim := { program := "ytoccbmmjcbjacaa", sum := "f4b31df565d784d328a8baae0930c14ea682a24ba13a822ca32da0192dc5b43a", func := "loop.example/g00673/laws.FnExactParked", spec := "fnExactParked", unfollowed := true, recurses := true, apart := false }
def FnExactParkedSaid : Prop := fnExactParkedRow.holds Try.pinned (OpenSpec.ofChange fnExactParkedSpec)

/-- ITS FALSE NEIGHBOUR: 'it returns false'. Refute it at one input. -/
def fnExactParkedWrong : ChangeSpec := { name := "fnExactParked", fn := fun _ => fun
  | [d1, d2, d3, d4] => { results := [.lit (.bool false)], args := [d1, d2, d3, d4] }
  | _ => none }
def FnExactParkedWrongFalsely : Prop := fnExactParkedRow.holds Try.pinned (OpenSpec.ofChange fnExactParkedWrong)

/-- 'laws.FnExactReadied': WHATEVER THE INPUT: true; the input reads as it did. -/
def fnExactReadiedSpec : ChangeSpec := { name := "fnExactReadied", fn := fun _ => fun
  | [d1, d2] => { results := [.lit (.bool true)], args := [d1, d2] }
  | _ => none }
def fnExactReadiedRow : OpenClaim := { program := "ytoccbmmjcbjacaa", sum := "f4b31df565d784d328a8baae0930c14ea682a24ba13a822ca32da0192dc5b43a", func := "loop.example/g00673/laws.FnExactReadied", spec := "fnExactReadied", unfollowed := true, recurses := true, apart := false }
def FnExactReadiedSaid : Prop := fnExactReadiedRow.holds Try.pinned (OpenSpec.ofChange fnExactReadiedSpec)

/-- ITS FALSE NEIGHBOUR: 'it returns false'. Refute it at one input. -/
def fnExactReadiedWrong : ChangeSpec := { name := "fnExactReadied", fn := fun _ => fun
  | [d1, d2] => { results := [.lit (.bool false)], args := [d1, d2] }
  | _ => none }
def FnExactReadiedWrongFalsely : Prop := fnExactReadiedRow.holds Try.pinned (OpenSpec.ofChange fnExactReadiedWrong)

/-- 'laws.FnExactEnded': WHATEVER THE INPUT: true; the input reads as it did. -/
def fnExactEndedSpec : ChangeSpec := { name := "fnExactEnded", fn := fun _ => fun
  | [d1, d2] => { results := [.lit (.bool true)], args := [d1, d2] }
  | _ => none }
def fnExactEndedRow : OpenClaim := { program := "ytoccbmmjcbjacaa", sum := "f4b31df565d784d328a8baae0930c14ea682a24ba13a822ca32da0192dc5b43a", func := "loop.example/g00673/laws.FnExactEnded", spec := "fnExactEnded", unfollowed := true, recurses := true, apart := false }
def FnExactEndedSaid : Prop := fnExactEndedRow.holds Try.pinned (OpenSpec.ofChange fnExactEndedSpec)

/-- ITS FALSE NEIGHBOUR: 'it returns false'. Refute it at one input. -/
def fnExactEndedWrong : ChangeSpec := { name := "fnExactEnded", fn := fun _ => fun
  | [d1, d2] => { results := [.lit (.bool false)], args := [d1, d2] }
  | _ => none }
def FnExactEndedWrongFalsely : Prop := fnExactEndedRow.holds Try.pinned (OpenSpec.ofChange fnExactEndedWrong)

/- THE SECOND FORM. 'bulk': how many values and letters a reading holds, each counted each time it is reached (what is shared counts as often as it is met; a slice's spare places count too). A statement '..UptoSaid' is the law's where the arguments, and the package variables that the reading takes, are together of bulk at most 1048576: NARROWER than '..Said'. Prove '..Said' where nothing that the law and all that it calls make is longer than what came in: it says more and counts as full. Else prove '..UptoSaid'. A law counts once. -/
mutual
def uptoBulk {H : Type} : DataW H → Nat
  | .lit (.string bytes) => bytes.length + 1
  | .lit _ => 1
  | .nil => 1
  | .ptr d => uptoBulk d + 1
  | .slice elems spare => uptoBulkAll elems + uptoBulkAll spare + 1
  | .agg parts => uptoBulkAll parts + 1
  | .iface _ d => uptoBulk d + 1
  | .map entries => uptoBulkEntries entries + 1
  | .held _ => 1
def uptoBulkAll {H : Type} : List (DataW H) → Nat
  | [] => 0
  | d :: r => uptoBulk d + uptoBulkAll r
def uptoBulkEntries {H : Type} : List (Lit × DataW H) → Nat
  | [] => 0
  | x :: r => uptoBulkEntry x + uptoBulkEntries r
def uptoBulkEntry {H : Type} : Lit × DataW H → Nat
  | (.string bytes, d) => bytes.length + uptoBulk d + 1
  | (_, d) => uptoBulk d + 1
 end
def uptoSmall : (H : Type) → List (DataW H) → Bool := fun _ ds => decide (uptoBulkAll ds ≤ 1048576)
def OpenSpec.upto (s : _root_.Go.ChangeSpec) : _root_.Go.OpenSpec := { _root_.Go.OpenSpec.ofChange s with cond := some uptoSmall }

/-- 'laws.FnTasks', WHERE WHAT IT READS IS OF BULK AT MOST 1048576: true; the input reads as it did. -/
def fnTasksUptoRow : OpenClaim := { program := "ytoccbmmjcbjacaa", sum := "f4b31df565d784d328a8baae0930c14ea682a24ba13a822ca32da0192dc5b43a", func := "loop.example/g00673/laws.FnTasks", spec := "fnTasks", unfollowed := true, recurses := true, apart := false, narrowed := true }
def FnTasksUptoSaid : Prop := fnTasksUptoRow.holds Try.pinned (OpenSpec.upto fnTasksSpec)

/-- 'laws.FnExactInsOk', WHERE WHAT IT READS IS OF BULK AT MOST 1048576: true; the input reads as it did. -/
def fnExactInsOkUptoRow : OpenClaim := { program := "ytoccbmmjcbjacaa", sum := "f4b31df565d784d328a8baae0930c14ea682a24ba13a822ca32da0192dc5b43a", func := "loop.example/g00673/laws.FnExactInsOk", spec := "fnExactInsOk", apart := false, narrowed := true }
def FnExactInsOkUptoSaid : Prop := fnExactInsOkUptoRow.holds Try.pinned (OpenSpec.upto fnExactInsOkSpec)

/-- 'laws.FnExactProgOk', WHERE WHAT IT READS IS OF BULK AT MOST 1048576: true; the input reads as it did. -/
def fnExactProgOkUptoRow : OpenClaim := { program := "ytoccbmmjcbjacaa", sum := "f4b31df565d784d328a8baae0930c14ea682a24ba13a822ca32da0192dc5b43a", func := "loop.example/g00673/laws.FnExactProgOk", spec := "fnExactProgOk", unfollowed := true, recurses := true, apart := false, narrowed := true }
def FnExactProgOkUptoSaid : Prop := fnExactProgOkUptoRow.holds Try.pinned (OpenSpec.upto fnExactProgOkSpec)

/-- 'laws.FnExactTaskOk', WHERE WHAT IT READS IS OF BULK AT MOST 1048576: true; the input reads as it did. -/
def fnExactTaskOkUptoRow : OpenClaim := { program := "ytoccbmmjcbjacaa", sum := "f4b31df565d784d328a8baae0930c14ea682a24ba13a822ca32da0192dc5b43a", func := "loop.example/g00673/laws.FnExactTaskOk", spec := "fnExactTaskOk", apart := false, narrowed := true }
def FnExactTaskOkUptoSaid : Prop := fnExactTaskOkUptoRow.holds Try.pinned (OpenSpec.upto fnExactTaskOkSpec)

/-- 'laws.FnExactNewTask', WHERE WHAT IT READS IS OF BULK AT MOST 1048576: true; the input reads as it did. -/
def fnExactNewTaskUptoRow : OpenClaim := { program := "ytoccbmmjcbjacaa", sum := "f4b31df565d784d328a8baae0930c14ea682a24ba13a822ca32da0192dc5b43a", func := "loop.example/g00673/laws.FnExactNewTask", spec := "fnExactNewTask", apart := false, narrowed := true }
def FnExactNewTaskUptoSaid : Prop := fnExactNewTaskUptoRow.holds Try.pinned (OpenSpec.upto fnExactNewTaskSpec)

/-- 'laws.FnExactParked', WHERE WHAT IT READS IS OF BULK AT MOST 1048576: true; the input reads as it did. -/
def fnExactParkedUptoRow : OpenClaim := { program := "ytoccbmmjcbjacaa", sum := "f4b31df565d784d328a8baae0930c14ea682a24ba13a822ca32da0192dc5b43a", func := "loop.example/g00673/laws.FnExactParked", spec := "fnExactParked", unfollowed := true, recurses := true, apart := false, narrowed := true }
def FnExactParkedUptoSaid : Prop := fnExactParkedUptoRow.holds Try.pinned (OpenSpec.upto fnExactParkedSpec)

/-- 'laws.FnExactReadied', WHERE WHAT IT READS IS OF BULK AT MOST 1048576: true; the input reads as it did. -/
def fnExactReadiedUptoRow : OpenClaim := { program := "ytoccbmmjcbjacaa", sum := "f4b31df565d784d328a8baae0930c14ea682a24ba13a822ca32da0192dc5b43a", func := "loop.example/g00673/laws.FnExactReadied", spec := "fnExactReadied", unfollowed := true, recurses := true, apart := false, narrowed := true }
def FnExactReadiedUptoSaid : Prop := fnExactReadiedUptoRow.holds Try.pinned (OpenSpec.upto fnExactReadiedSpec)

/-- 'laws.FnExactEnded', WHERE WHAT IT READS IS OF BULK AT MOST 1048576: true; the input reads as it did. -/
def fnExactEndedUptoRow : OpenClaim := { program := "ytoccbmmjcbjacaa", sum := "f4b31df565d784d328a8baae0930c14ea682a24ba13a822ca32da0192dc5b43a", func := "loop.example/g00673/laws.FnExactEnded", spec := "fnExactEnded", unfollowed := true, recurses := true, apart := false, narrowed := true }
def FnExactEndedUptoSaid : Prop := fnExactEndedUptoRow.holds Try.pinned (OpenSpec.upto fnExactEndedSpec)

end Rows
end Go.Proofs.Ytoccbmmjcbjacaa
