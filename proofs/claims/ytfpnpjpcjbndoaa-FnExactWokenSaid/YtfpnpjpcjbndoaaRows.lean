/-
  No cell of these rows narrows 'for every input' (looked for: loops, veiled, ifaces, maps, wideKeys, modest, calm, conditions, laid).
  DERIVED. THE GIVEN ROWS OF THIS SEAT. 5 by the template 'for every input the law returns true; each argument reads behind the call as it read before'; 0 by the template 'total and deterministic' (their statements: YtfpnpjpcjbndoaaTotals.lean).
  GIVEN WITH THE SEED: the statements are not yours to turn. If you find one false, say at which input.
  Laid BY PROGRAM, IN A SANDBOX (cutbox-rows.mjs): the forced cells as the released guide's own fill.sh prints them over the translation 7d8c7f434a2eddbf… (all of the seat's roots in one cut). By AI agents, Wed Nov 11 2026. No macro, syntax, notation, axiom, sorry.
-/
import Derived.Test.YtfpnpjpcjbndoaaChecked
import GoSem.Claim
import GoSem.ClaimJoined
import GoSem.ClaimMapViews
import Derived.JoinedTies
import Derived.KernelRfl
namespace Go.Proofs.Ytfpnpjpcjbndoaa
/- THE CELL 'sum', in the pinned program and in every row, IS THE sha256 OF THE DUMP (.gsa) THAT YtfpnpjpcjbndoaaProg.lean LOADS. Nothing in Lean hashes anything: it is a label: what it is worth is what the hold of that sum in a sandbox is worth. -/
noncomputable def Try.pinned : Pinned := { name := "ytfpnpjpcjbndoaa", sum := "7d8c7f434a2eddbf9e2018be54f25d7cf6d98e7fbfef7d0f3731cfc3e6588952", checked := Try.checked }
namespace Rows
def none {H : Type} : Left H := { results := [], args := [] }

/-- 'laws.FnWoken': WHATEVER THE INPUT: true; the input reads as it did. -/
def fnWokenSpec : ChangeSpec := { name := "fnWoken", fn := fun _ => fun
  | [d] => { results := [.lit (.bool true)], args := [d] }
  | _ => none }
def fnWokenRow : OpenClaim := { program := "ytfpnpjpcjbndoaa", sum := "7d8c7f434a2eddbf9e2018be54f25d7cf6d98e7fbfef7d0f3731cfc3e6588952", func := "loop.example/g00673/laws.FnWoken", spec := "fnWoken", unfollowed := true, recurses := true, plainKeys := false, apart := false }
def FnWokenSaid : Prop := fnWokenRow.holds Try.pinned (OpenSpec.ofChange fnWokenSpec)

/-- ITS FALSE NEIGHBOUR: 'it returns false'. Refute it at one input. -/
def fnWokenWrong : ChangeSpec := { name := "fnWoken", fn := fun _ => fun
  | [d] => { results := [.lit (.bool false)], args := [d] }
  | _ => none }
def FnWokenWrongFalsely : Prop := fnWokenRow.holds Try.pinned (OpenSpec.ofChange fnWokenWrong)

/-- 'laws.FnExactTasksOk': WHATEVER THE INPUT: true; the input reads as it did. -/
def fnExactTasksOkSpec : ChangeSpec := { name := "fnExactTasksOk", fn := fun _ => fun
  | [d] => { results := [.lit (.bool true)], args := [d] }
  | _ => none }
def fnExactTasksOkRow : OpenClaim := { program := "ytfpnpjpcjbndoaa", sum := "7d8c7f434a2eddbf9e2018be54f25d7cf6d98e7fbfef7d0f3731cfc3e6588952", func := "loop.example/g00673/laws.FnExactTasksOk", spec := "fnExactTasksOk", plainKeys := false, apart := false }
def FnExactTasksOkSaid : Prop := fnExactTasksOkRow.holds Try.pinned (OpenSpec.ofChange fnExactTasksOkSpec)

/-- ITS FALSE NEIGHBOUR: 'it returns false'. Refute it at one input. -/
def fnExactTasksOkWrong : ChangeSpec := { name := "fnExactTasksOk", fn := fun _ => fun
  | [d] => { results := [.lit (.bool false)], args := [d] }
  | _ => none }
def FnExactTasksOkWrongFalsely : Prop := fnExactTasksOkRow.holds Try.pinned (OpenSpec.ofChange fnExactTasksOkWrong)

/-- 'laws.FnExactParkedOn': WHATEVER THE INPUT: true; the input reads as it did. -/
def fnExactParkedOnSpec : ChangeSpec := { name := "fnExactParkedOn", fn := fun _ => fun
  | [d1, d2, d3] => { results := [.lit (.bool true)], args := [d1, d2, d3] }
  | _ => none }
def fnExactParkedOnRow : OpenClaim := { program := "ytfpnpjpcjbndoaa", sum := "7d8c7f434a2eddbf9e2018be54f25d7cf6d98e7fbfef7d0f3731cfc3e6588952", func := "loop.example/g00673/laws.FnExactParkedOn", spec := "fnExactParkedOn", plainKeys := false, apart := false }
def FnExactParkedOnSaid : Prop := fnExactParkedOnRow.holds Try.pinned (OpenSpec.ofChange fnExactParkedOnSpec)

/-- ITS FALSE NEIGHBOUR: 'it returns false'. Refute it at one input. -/
def fnExactParkedOnWrong : ChangeSpec := { name := "fnExactParkedOn", fn := fun _ => fun
  | [d1, d2, d3] => { results := [.lit (.bool false)], args := [d1, d2, d3] }
  | _ => none }
def FnExactParkedOnWrongFalsely : Prop := fnExactParkedOnRow.holds Try.pinned (OpenSpec.ofChange fnExactParkedOnWrong)

/-- 'laws.FnExactWoken': WHATEVER THE INPUT: true; the input reads as it did. -/
def fnExactWokenSpec : ChangeSpec := { name := "fnExactWoken", fn := fun _ => fun
  | [d1, d2, d3, d4] => { results := [.lit (.bool true)], args := [d1, d2, d3, d4] }
  | _ => none }
def fnExactWokenRow : OpenClaim := { program := "ytfpnpjpcjbndoaa", sum := "7d8c7f434a2eddbf9e2018be54f25d7cf6d98e7fbfef7d0f3731cfc3e6588952", func := "loop.example/g00673/laws.FnExactWoken", spec := "fnExactWoken", unfollowed := true, recurses := true, plainKeys := false, apart := false }
def FnExactWokenSaid : Prop := fnExactWokenRow.holds Try.pinned (OpenSpec.ofChange fnExactWokenSpec)

/-- ITS FALSE NEIGHBOUR: 'it returns false'. Refute it at one input. -/
def fnExactWokenWrong : ChangeSpec := { name := "fnExactWoken", fn := fun _ => fun
  | [d1, d2, d3, d4] => { results := [.lit (.bool false)], args := [d1, d2, d3, d4] }
  | _ => none }
def FnExactWokenWrongFalsely : Prop := fnExactWokenRow.holds Try.pinned (OpenSpec.ofChange fnExactWokenWrong)

/-- 'laws.FnExactReadyIn': WHATEVER THE INPUT: true; the input reads as it did. -/
def fnExactReadyInSpec : ChangeSpec := { name := "fnExactReadyIn", fn := fun _ => fun
  | [d] => { results := [.lit (.bool true)], args := [d] }
  | _ => none }
def fnExactReadyInRow : OpenClaim := { program := "ytfpnpjpcjbndoaa", sum := "7d8c7f434a2eddbf9e2018be54f25d7cf6d98e7fbfef7d0f3731cfc3e6588952", func := "loop.example/g00673/laws.FnExactReadyIn", spec := "fnExactReadyIn", plainKeys := false, apart := false }
def FnExactReadyInSaid : Prop := fnExactReadyInRow.holds Try.pinned (OpenSpec.ofChange fnExactReadyInSpec)

/-- ITS FALSE NEIGHBOUR: 'it returns false'. Refute it at one input. -/
def fnExactReadyInWrong : ChangeSpec := { name := "fnExactReadyIn", fn := fun _ => fun
  | [d] => { results := [.lit (.bool false)], args := [d] }
  | _ => none }
def FnExactReadyInWrongFalsely : Prop := fnExactReadyInRow.holds Try.pinned (OpenSpec.ofChange fnExactReadyInWrong)

/- THE SECOND FORM. 'bulk': how many values and letters a reading holds, each counted each time it is reached (what is shared counts as often as it is met; a slice's spare places count too). A statement '..UptoSaid' is the law's where the arguments, and the package variables that the reading takes, are together of bulk at most 1048576: NARROWER than '..Said'. Prove '..Said' where nothing that the law and all that it calls make is longer than what came in: it says more and counts as full. Else prove '..UptoSaid'. A law counts once. -/
mutual
def uptoBulk {H : Type} : DataW H → Nat
  | .lit (.string bytes) => bytes.length + 1
  | .lit _ => 1
  | .nil => 1
  | .ptr d => uptoBulk d + 1
  | .slice elems spare => uptoBulkAll elems + uptoBulkAll spare + 1
  | .agg parts => uptoBulkAll parts + 1
  | .iface _ d => uptoBulk d + 1
  | .map entries => uptoBulkEntries entries + 1
  | .held _ => 1
def uptoBulkAll {H : Type} : List (DataW H) → Nat
  | [] => 0
  | d :: r => uptoBulk d + uptoBulkAll r
def uptoBulkEntries {H : Type} : List (Lit × DataW H) → Nat
  | [] => 0
  | x :: r => uptoBulkEntry x + uptoBulkEntries r
def uptoBulkEntry {H : Type} : Lit × DataW H → Nat
  | (.string bytes, d) => bytes.length + uptoBulk d + 1
  | (_, d) => uptoBulk d + 1
 end
def uptoSmall : (H : Type) → List (DataW H) → Bool := fun _ ds => decide (uptoBulkAll ds ≤ 1048576)
def OpenSpec.upto (s : _root_.Go.ChangeSpec) : _root_.Go.OpenSpec := { _root_.Go.OpenSpec.ofChange s with cond := some uptoSmall }

/-- 'laws.FnWoken', WHERE WHAT IT READS IS OF BULK AT MOST 1048576: true; the input reads as it did. -/
def fnWokenUptoRow : OpenClaim := { program := "ytfpnpjpcjbndoaa", sum := "7d8c7f434a2eddbf9e2018be54f25d7cf6d98e7fbfef7d0f3731cfc3e6588952", func := "loop.example/g00673/laws.FnWoken", spec := "fnWoken", unfollowed := true, recurses := true, plainKeys := false, apart := false, narrowed := true }
def FnWokenUptoSaid : Prop := fnWokenUptoRow.holds Try.pinned (OpenSpec.upto fnWokenSpec)

/-- 'laws.FnExactTasksOk', WHERE WHAT IT READS IS OF BULK AT MOST 1048576: true; the input reads as it did. -/
def fnExactTasksOkUptoRow : OpenClaim := { program := "ytfpnpjpcjbndoaa", sum := "7d8c7f434a2eddbf9e2018be54f25d7cf6d98e7fbfef7d0f3731cfc3e6588952", func := "loop.example/g00673/laws.FnExactTasksOk", spec := "fnExactTasksOk", plainKeys := false, apart := false, narrowed := true }
def FnExactTasksOkUptoSaid : Prop := fnExactTasksOkUptoRow.holds Try.pinned (OpenSpec.upto fnExactTasksOkSpec)

/-- 'laws.FnExactParkedOn', WHERE WHAT IT READS IS OF BULK AT MOST 1048576: true; the input reads as it did. -/
def fnExactParkedOnUptoRow : OpenClaim := { program := "ytfpnpjpcjbndoaa", sum := "7d8c7f434a2eddbf9e2018be54f25d7cf6d98e7fbfef7d0f3731cfc3e6588952", func := "loop.example/g00673/laws.FnExactParkedOn", spec := "fnExactParkedOn", plainKeys := false, apart := false, narrowed := true }
def FnExactParkedOnUptoSaid : Prop := fnExactParkedOnUptoRow.holds Try.pinned (OpenSpec.upto fnExactParkedOnSpec)

/-- 'laws.FnExactWoken', WHERE WHAT IT READS IS OF BULK AT MOST 1048576: true; the input reads as it did. -/
def fnExactWokenUptoRow : OpenClaim := { program := "ytfpnpjpcjbndoaa", sum := "7d8c7f434a2eddbf9e2018be54f25d7cf6d98e7fbfef7d0f3731cfc3e6588952", func := "loop.example/g00673/laws.FnExactWoken", spec := "fnExactWoken", unfollowed := true, recurses := true, plainKeys := false, apart := false, narrowed := true }
def FnExactWokenUptoSaid : Prop := fnExactWokenUptoRow.holds Try.pinned (OpenSpec.upto fnExactWokenSpec)

/-- 'laws.FnExactReadyIn', WHERE WHAT IT READS IS OF BULK AT MOST 1048576: true; the input reads as it did. -/
def fnExactReadyInUptoRow : OpenClaim := { program := "ytfpnpjpcjbndoaa", sum := "7d8c7f434a2eddbf9e2018be54f25d7cf6d98e7fbfef7d0f3731cfc3e6588952", func := "loop.example/g00673/laws.FnExactReadyIn", spec := "fnExactReadyIn", plainKeys := false, apart := false, narrowed := true }
def FnExactReadyInUptoSaid : Prop := fnExactReadyInUptoRow.holds Try.pinned (OpenSpec.upto fnExactReadyInSpec)

end Rows
end Go.Proofs.Ytfpnpjpcjbndoaa
