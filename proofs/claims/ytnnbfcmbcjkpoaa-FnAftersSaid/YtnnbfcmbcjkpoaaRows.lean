/-
  No cell of these rows narrows 'for every input' (looked for: loops, veiled, ifaces, maps, wideKeys, modest, calm, conditions, laid).
  DERIVED. THE GIVEN ROWS OF THIS SEAT. 7 by the template 'for every input the law returns true; each argument reads behind the call as it read before'; 0 by the template 'total and deterministic' (their statements: YtnnbfcmbcjkpoaaTotals.lean).
  GIVEN WITH THE SEED: the statements are not yours to turn. If you find one false, say at which input.
  Laid BY PROGRAM, IN A SANDBOX (cutbox-rows.mjs): the forced cells as the released guide's own fill.sh prints them over the translation bff4604bab43da40… (all of the seat's roots in one cut). By AI agents, Wed Nov 11 2026. No macro, syntax, notation, axiom, sorry.
-/
import Derived.Test.YtnnbfcmbcjkpoaaChecked
import GoSem.Claim
import GoSem.ClaimJoined
import GoSem.ClaimMapViews
import Derived.JoinedTies
import Derived.KernelRfl
namespace Go.Proofs.Ytnnbfcmbcjkpoaa
/- THE CELL 'sum', in the pinned program and in every row, IS THE sha256 OF THE DUMP (.gsa) THAT YtnnbfcmbcjkpoaaProg.lean LOADS. Nothing in Lean hashes anything: it is a label: what it is worth is what the hold of that sum in a sandbox is worth. -/
noncomputable def Try.pinned : Pinned := { name := "ytnnbfcmbcjkpoaa", sum := "bff4604bab43da4001a003b40aae88fef024c6e3bf7a0873af1717af91ee11b4", checked := Try.checked }
namespace Rows
def none {H : Type} : Left H := { results := [], args := [] }

/-- 'laws.FnAfters': WHATEVER THE INPUT: true; the input reads as it did. -/
def fnAftersSpec : ChangeSpec := { name := "fnAfters", fn := fun _ => fun
  | [d] => { results := [.lit (.bool true)], args := [d] }
  | _ => none }
def fnAftersRow : OpenClaim := { program := "ytnnbfcmbcjkpoaa", sum := "bff4604bab43da4001a003b40aae88fef024c6e3bf7a0873af1717af91ee11b4", func := "loop.example/g00673/laws.FnAfters", spec := "fnAfters", unfollowed := true, recurses := true, plainKeys := false, apart := false }
def FnAftersSaid : Prop := fnAftersRow.holds Try.pinned (OpenSpec.ofChange fnAftersSpec)

/-- ITS FALSE NEIGHBOUR: 'it returns false'. Refute it at one input. -/
def fnAftersWrong : ChangeSpec := { name := "fnAfters", fn := fun _ => fun
  | [d] => { results := [.lit (.bool false)], args := [d] }
  | _ => none }
def FnAftersWrongFalsely : Prop := fnAftersRow.holds Try.pinned (OpenSpec.ofChange fnAftersWrong)

/-- 'laws.FnExactAftersOk': WHATEVER THE INPUT: true; the input reads as it did. -/
def fnExactAftersOkSpec : ChangeSpec := { name := "fnExactAftersOk", fn := fun _ => fun
  | [d] => { results := [.lit (.bool true)], args := [d] }
  | _ => none }
def fnExactAftersOkRow : OpenClaim := { program := "ytnnbfcmbcjkpoaa", sum := "bff4604bab43da4001a003b40aae88fef024c6e3bf7a0873af1717af91ee11b4", func := "loop.example/g00673/laws.FnExactAftersOk", spec := "fnExactAftersOk", plainKeys := false, apart := false }
def FnExactAftersOkSaid : Prop := fnExactAftersOkRow.holds Try.pinned (OpenSpec.ofChange fnExactAftersOkSpec)

/-- ITS FALSE NEIGHBOUR: 'it returns false'. Refute it at one input. -/
def fnExactAftersOkWrong : ChangeSpec := { name := "fnExactAftersOk", fn := fun _ => fun
  | [d] => { results := [.lit (.bool false)], args := [d] }
  | _ => none }
def FnExactAftersOkWrongFalsely : Prop := fnExactAftersOkRow.holds Try.pinned (OpenSpec.ofChange fnExactAftersOkWrong)

/-- 'laws.FnExactNewAfters': WHATEVER THE INPUT: true; the input reads as it did. -/
def fnExactNewAftersSpec : ChangeSpec := { name := "fnExactNewAfters", fn := fun _ => fun
  | [d] => { results := [.lit (.bool true)], args := [d] }
  | _ => none }
def fnExactNewAftersRow : OpenClaim := { program := "ytnnbfcmbcjkpoaa", sum := "bff4604bab43da4001a003b40aae88fef024c6e3bf7a0873af1717af91ee11b4", func := "loop.example/g00673/laws.FnExactNewAfters", spec := "fnExactNewAfters", plainKeys := false, apart := false }
def FnExactNewAftersSaid : Prop := fnExactNewAftersRow.holds Try.pinned (OpenSpec.ofChange fnExactNewAftersSpec)

/-- ITS FALSE NEIGHBOUR: 'it returns false'. Refute it at one input. -/
def fnExactNewAftersWrong : ChangeSpec := { name := "fnExactNewAfters", fn := fun _ => fun
  | [d] => { results := [.lit (.bool false)], args := [d] }
  | _ => none }
def FnExactNewAftersWrongFalsely : Prop := fnExactNewAftersRow.holds Try.pinned (OpenSpec.ofChange fnExactNewAftersWrong)

/-- 'laws.FnExactRegistered': WHATEVER THE INPUT: true; the input reads as it did. -/
def fnExactRegisteredSpec : ChangeSpec := { name := "fnExactRegistered", fn := fun _ => fun
  | [d1, d2, d3] => { results := [.lit (.bool true)], args := [d1, d2, d3] }
  | _ => none }
def fnExactRegisteredRow : OpenClaim := { program := "ytnnbfcmbcjkpoaa", sum := "bff4604bab43da4001a003b40aae88fef024c6e3bf7a0873af1717af91ee11b4", func := "loop.example/g00673/laws.FnExactRegistered", spec := "fnExactRegistered", unfollowed := true, recurses := true, plainKeys := false, apart := false }
def FnExactRegisteredSaid : Prop := fnExactRegisteredRow.holds Try.pinned (OpenSpec.ofChange fnExactRegisteredSpec)

/-- ITS FALSE NEIGHBOUR: 'it returns false'. Refute it at one input. -/
def fnExactRegisteredWrong : ChangeSpec := { name := "fnExactRegistered", fn := fun _ => fun
  | [d1, d2, d3] => { results := [.lit (.bool false)], args := [d1, d2, d3] }
  | _ => none }
def FnExactRegisteredWrongFalsely : Prop := fnExactRegisteredRow.holds Try.pinned (OpenSpec.ofChange fnExactRegisteredWrong)

/-- 'laws.FnExactCalledOff': WHATEVER THE INPUT: true; the input reads as it did. -/
def fnExactCalledOffSpec : ChangeSpec := { name := "fnExactCalledOff", fn := fun _ => fun
  | [d1, d2] => { results := [.lit (.bool true)], args := [d1, d2] }
  | _ => none }
def fnExactCalledOffRow : OpenClaim := { program := "ytnnbfcmbcjkpoaa", sum := "bff4604bab43da4001a003b40aae88fef024c6e3bf7a0873af1717af91ee11b4", func := "loop.example/g00673/laws.FnExactCalledOff", spec := "fnExactCalledOff", unfollowed := true, recurses := true, plainKeys := false, apart := false }
def FnExactCalledOffSaid : Prop := fnExactCalledOffRow.holds Try.pinned (OpenSpec.ofChange fnExactCalledOffSpec)

/-- ITS FALSE NEIGHBOUR: 'it returns false'. Refute it at one input. -/
def fnExactCalledOffWrong : ChangeSpec := { name := "fnExactCalledOff", fn := fun _ => fun
  | [d1, d2] => { results := [.lit (.bool false)], args := [d1, d2] }
  | _ => none }
def FnExactCalledOffWrongFalsely : Prop := fnExactCalledOffRow.holds Try.pinned (OpenSpec.ofChange fnExactCalledOffWrong)

/-- 'laws.FnExactQueuedBy': WHATEVER THE INPUT: true; the input reads as it did. -/
def fnExactQueuedBySpec : ChangeSpec := { name := "fnExactQueuedBy", fn := fun _ => fun
  | [d1, d2] => { results := [.lit (.bool true)], args := [d1, d2] }
  | _ => none }
def fnExactQueuedByRow : OpenClaim := { program := "ytnnbfcmbcjkpoaa", sum := "bff4604bab43da4001a003b40aae88fef024c6e3bf7a0873af1717af91ee11b4", func := "loop.example/g00673/laws.FnExactQueuedBy", spec := "fnExactQueuedBy", unfollowed := true, recurses := true, plainKeys := false, apart := false }
def FnExactQueuedBySaid : Prop := fnExactQueuedByRow.holds Try.pinned (OpenSpec.ofChange fnExactQueuedBySpec)

/-- ITS FALSE NEIGHBOUR: 'it returns false'. Refute it at one input. -/
def fnExactQueuedByWrong : ChangeSpec := { name := "fnExactQueuedBy", fn := fun _ => fun
  | [d1, d2] => { results := [.lit (.bool false)], args := [d1, d2] }
  | _ => none }
def FnExactQueuedByWrongFalsely : Prop := fnExactQueuedByRow.holds Try.pinned (OpenSpec.ofChange fnExactQueuedByWrong)

/-- 'laws.FnExactStarted': WHATEVER THE INPUT: true; the input reads as it did. -/
def fnExactStartedSpec : ChangeSpec := { name := "fnExactStarted", fn := fun _ => fun
  | [d] => { results := [.lit (.bool true)], args := [d] }
  | _ => none }
def fnExactStartedRow : OpenClaim := { program := "ytnnbfcmbcjkpoaa", sum := "bff4604bab43da4001a003b40aae88fef024c6e3bf7a0873af1717af91ee11b4", func := "loop.example/g00673/laws.FnExactStarted", spec := "fnExactStarted", unfollowed := true, recurses := true, plainKeys := false, apart := false }
def FnExactStartedSaid : Prop := fnExactStartedRow.holds Try.pinned (OpenSpec.ofChange fnExactStartedSpec)

/-- ITS FALSE NEIGHBOUR: 'it returns false'. Refute it at one input. -/
def fnExactStartedWrong : ChangeSpec := { name := "fnExactStarted", fn := fun _ => fun
  | [d] => { results := [.lit (.bool false)], args := [d] }
  | _ => none }
def FnExactStartedWrongFalsely : Prop := fnExactStartedRow.holds Try.pinned (OpenSpec.ofChange fnExactStartedWrong)

/- THE SECOND FORM. 'bulk': how many values and letters a reading holds, each counted each time it is reached (what is shared counts as often as it is met; a slice's spare places count too). A statement '..UptoSaid' is the law's where the arguments, and the package variables that the reading takes, are together of bulk at most 1048576: NARROWER than '..Said'. Prove '..Said' where nothing that the law and all that it calls make is longer than what came in: it says more and counts as full. Else prove '..UptoSaid'. A law counts once. -/
mutual
def uptoBulk {H : Type} : DataW H → Nat
  | .lit (.string bytes) => bytes.length + 1
  | .lit _ => 1
  | .nil => 1
  | .ptr d => uptoBulk d + 1
  | .slice elems spare => uptoBulkAll elems + uptoBulkAll spare + 1
  | .agg parts => uptoBulkAll parts + 1
  | .iface _ d => uptoBulk d + 1
  | .map entries => uptoBulkEntries entries + 1
  | .held _ => 1
def uptoBulkAll {H : Type} : List (DataW H) → Nat
  | [] => 0
  | d :: r => uptoBulk d + uptoBulkAll r
def uptoBulkEntries {H : Type} : List (Lit × DataW H) → Nat
  | [] => 0
  | x :: r => uptoBulkEntry x + uptoBulkEntries r
def uptoBulkEntry {H : Type} : Lit × DataW H → Nat
  | (.string bytes, d) => bytes.length + uptoBulk d + 1
  | (_, d) => uptoBulk d + 1
 end
def uptoSmall : (H : Type) → List (DataW H) → Bool := fun _ ds => decide (uptoBulkAll ds ≤ 1048576)
def OpenSpec.upto (s : _root_.Go.ChangeSpec) : _root_.Go.OpenSpec := { _root_.Go.OpenSpec.ofChange s with cond := some uptoSmall }

/-- 'laws.FnAfters', WHERE WHAT IT READS IS OF BULK AT MOST 1048576: true; the input reads as it did. -/
def fnAftersUptoRow : OpenClaim := { program := "ytnnbfcmbcjkpoaa", sum := "bff4604bab43da4001a003b40aae88fef024c6e3bf7a0873af1717af91ee11b4", func := "loop.example/g00673/laws.FnAfters", spec := "fnAfters", unfollowed := true, recurses := true, plainKeys := false, apart := false, narrowed := true }
def FnAftersUptoSaid : Prop := fnAftersUptoRow.holds Try.pinned (OpenSpec.upto fnAftersSpec)

/-- 'laws.FnExactAftersOk', WHERE WHAT IT READS IS OF BULK AT MOST 1048576: true; the input reads as it did. -/
def fnExactAftersOkUptoRow : OpenClaim := { program := "ytnnbfcmbcjkpoaa", sum := "bff4604bab43da4001a003b40aae88fef024c6e3bf7a0873af1717af91ee11b4", func := "loop.example/g00673/laws.FnExactAftersOk", spec := "fnExactAftersOk", plainKeys := false, apart := false, narrowed := true }
def FnExactAftersOkUptoSaid : Prop := fnExactAftersOkUptoRow.holds Try.pinned (OpenSpec.upto fnExactAftersOkSpec)

/-- 'laws.FnExactNewAfters', WHERE WHAT IT READS IS OF BULK AT MOST 1048576: true; the input reads as it did. -/
def fnExactNewAftersUptoRow : OpenClaim := { program := "ytnnbfcmbcjkpoaa", sum := "bff4604bab43da4001a003b40aae88fef024c6e3bf7a0873af1717af91ee11b4", func := "loop.example/g00673/laws.FnExactNewAfters", spec := "fnExactNewAfters", plainKeys := false, apart := false, narrowed := true }
def FnExactNewAftersUptoSaid : Prop := fnExactNewAftersUptoRow.holds Try.pinned (OpenSpec.upto fnExactNewAftersSpec)

/-- 'laws.FnExactRegistered', WHERE WHAT IT READS IS OF BULK AT MOST 1048576: true; the input reads as it did. -/
def fnExactRegisteredUptoRow : OpenClaim := { program := "ytnnbfcmbcjkpoaa", sum := "bff4604bab43da4001a003b40aae88fef024c6e3bf7a0873af1717af91ee11b4", func := "loop.example/g00673/laws.FnExactRegistered", spec := "fnExactRegistered", unfollowed := true, recurses := true, plainKeys := false, apart := false, narrowed := true }
def FnExactRegisteredUptoSaid : Prop := fnExactRegisteredUptoRow.holds Try.pinned (OpenSpec.upto fnExactRegisteredSpec)

/-- 'laws.FnExactCalledOff', WHERE WHAT IT READS IS OF BULK AT MOST 1048576: true; the input reads as it did. -/
def fnExactCalledOffUptoRow : OpenClaim := { program := "ytnnbfcmbcjkpoaa", sum := "bff4604bab43da4001a003b40aae88fef024c6e3bf7a0873af1717af91ee11b4", func := "loop.example/g00673/laws.FnExactCalledOff", spec := "fnExactCalledOff", unfollowed := true, recurses := true, plainKeys := false, apart := false, narrowed := true }
def FnExactCalledOffUptoSaid : Prop := fnExactCalledOffUptoRow.holds Try.pinned (OpenSpec.upto fnExactCalledOffSpec)

/-- 'laws.FnExactQueuedBy', WHERE WHAT IT READS IS OF BULK AT MOST 1048576: true; the input reads as it did. -/
def fnExactQueuedByUptoRow : OpenClaim := { program := "ytnnbfcmbcjkpoaa", sum := "bff4604bab43da4001a003b40aae88fef024c6e3bf7a0873af1717af91ee11b4", func := "loop.example/g00673/laws.FnExactQueuedBy", spec := "fnExactQueuedBy", unfollowed := true, recurses := true, plainKeys := false, apart := false, narrowed := true }
def FnExactQueuedByUptoSaid : Prop := fnExactQueuedByUptoRow.holds Try.pinned (OpenSpec.upto fnExactQueuedBySpec)

/-- 'laws.FnExactStarted', WHERE WHAT IT READS IS OF BULK AT MOST 1048576: true; the input reads as it did. -/
def fnExactStartedUptoRow : OpenClaim := { program := "ytnnbfcmbcjkpoaa", sum := "bff4604bab43da4001a003b40aae88fef024c6e3bf7a0873af1717af91ee11b4", func := "loop.example/g00673/laws.FnExactStarted", spec := "fnExactStarted", unfollowed := true, recurses := true, plainKeys := false, apart := false, narrowed := true }
def FnExactStartedUptoSaid : Prop := fnExactStartedUptoRow.holds Try.pinned (OpenSpec.upto fnExactStartedSpec)

end Rows
end Go.Proofs.Ytnnbfcmbcjkpoaa
