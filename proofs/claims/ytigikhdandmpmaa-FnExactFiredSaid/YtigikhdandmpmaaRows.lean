/-
  No cell of these rows narrows 'for every input' (looked for: loops, veiled, ifaces, maps, wideKeys, modest, calm, conditions, laid).
  DERIVED. THE GIVEN ROWS OF THIS SEAT. 9 by the template 'for every input the law returns true; each argument reads behind the call as it read before'; 0 by the template 'total and deterministic' (their statements: YtigikhdandmpmaaTotals.lean).
  GIVEN WITH THE SEED: the statements are not yours to turn. If you find one false, say at which input.
  Laid BY PROGRAM, IN A SANDBOX (cutbox-rows.mjs): the forced cells as the released guide's own fill.sh prints them over the translation 87a7d607a4a043d1… (all of the seat's roots in one cut). By AI agents, Wed Nov 11 2026. No macro, syntax, notation, axiom, sorry.
-/
import Derived.Test.YtigikhdandmpmaaChecked
import GoSem.Claim
import GoSem.ClaimJoined
import GoSem.ClaimMapViews
import Derived.JoinedTies
import Derived.KernelRfl
namespace Go.Proofs.Ytigikhdandmpmaa
/- THE CELL 'sum', in the pinned program and in every row, IS THE sha256 OF THE DUMP (.gsa) THAT YtigikhdandmpmaaProg.lean LOADS. Nothing in Lean hashes anything: it is a label: what it is worth is what the hold of that sum in a sandbox is worth. -/
noncomputable def Try.pinned : Pinned := { name := "ytigikhdandmpmaa", sum := "87a7d607a4a043d18009663e236e99e2fe4335d26c10b72192fa8213f464d452", checked := Try.checked }
namespace Rows
def none {H : Type} : Left H := { results := [], args := [] }

/-- 'laws.FnFiring': WHATEVER THE INPUT: true; the input reads as it did. -/
def fnFiringSpec : ChangeSpec := { name := "fnFiring", fn := fun _ => fun
  | [d] => { results := [.lit (.bool true)], args := [d] }
  | _ => none }
def fnFiringRow : OpenClaim := { program := "ytigikhdandmpmaa", sum := "87a7d607a4a043d18009663e236e99e2fe4335d26c10b72192fa8213f464d452", func := "loop.example/g00673/laws.FnFiring", spec := "fnFiring", unfollowed := true, recurses := true, apart := false }
def FnFiringSaid : Prop := fnFiringRow.holds Try.pinned (OpenSpec.ofChange fnFiringSpec)

/-- ITS FALSE NEIGHBOUR: 'it returns false'. Refute it at one input. -/
def fnFiringWrong : ChangeSpec := { name := "fnFiring", fn := fun _ => fun
  | [d] => { results := [.lit (.bool false)], args := [d] }
  | _ => none }
def FnFiringWrongFalsely : Prop := fnFiringRow.holds Try.pinned (OpenSpec.ofChange fnFiringWrong)

/-- 'laws.FnReset': WHATEVER THE INPUT: true; the input reads as it did. -/
def fnResetSpec : ChangeSpec := { name := "fnReset", fn := fun _ => fun
  | [d] => { results := [.lit (.bool true)], args := [d] }
  | _ => none }
def fnResetRow : OpenClaim := { program := "ytigikhdandmpmaa", sum := "87a7d607a4a043d18009663e236e99e2fe4335d26c10b72192fa8213f464d452", func := "loop.example/g00673/laws.FnReset", spec := "fnReset", unfollowed := true, recurses := true, apart := false }
def FnResetSaid : Prop := fnResetRow.holds Try.pinned (OpenSpec.ofChange fnResetSpec)

/-- ITS FALSE NEIGHBOUR: 'it returns false'. Refute it at one input. -/
def fnResetWrong : ChangeSpec := { name := "fnReset", fn := fun _ => fun
  | [d] => { results := [.lit (.bool false)], args := [d] }
  | _ => none }
def FnResetWrongFalsely : Prop := fnResetRow.holds Try.pinned (OpenSpec.ofChange fnResetWrong)

/-- 'laws.FnExactTimersOk': WHATEVER THE INPUT: true; the input reads as it did. -/
def fnExactTimersOkSpec : ChangeSpec := { name := "fnExactTimersOk", fn := fun _ => fun
  | [d] => { results := [.lit (.bool true)], args := [d] }
  | _ => none }
def fnExactTimersOkRow : OpenClaim := { program := "ytigikhdandmpmaa", sum := "87a7d607a4a043d18009663e236e99e2fe4335d26c10b72192fa8213f464d452", func := "loop.example/g00673/laws.FnExactTimersOk", spec := "fnExactTimersOk", recurses := true, apart := false }
def FnExactTimersOkSaid : Prop := fnExactTimersOkRow.holds Try.pinned (OpenSpec.ofChange fnExactTimersOkSpec)

/-- ITS FALSE NEIGHBOUR: 'it returns false'. Refute it at one input. -/
def fnExactTimersOkWrong : ChangeSpec := { name := "fnExactTimersOk", fn := fun _ => fun
  | [d] => { results := [.lit (.bool false)], args := [d] }
  | _ => none }
def FnExactTimersOkWrongFalsely : Prop := fnExactTimersOkRow.holds Try.pinned (OpenSpec.ofChange fnExactTimersOkWrong)

/-- 'laws.FnExactArmed': WHATEVER THE INPUT: true; the input reads as it did. -/
def fnExactArmedSpec : ChangeSpec := { name := "fnExactArmed", fn := fun _ => fun
  | [d1, d2, d3, d4] => { results := [.lit (.bool true)], args := [d1, d2, d3, d4] }
  | _ => none }
def fnExactArmedRow : OpenClaim := { program := "ytigikhdandmpmaa", sum := "87a7d607a4a043d18009663e236e99e2fe4335d26c10b72192fa8213f464d452", func := "loop.example/g00673/laws.FnExactArmed", spec := "fnExactArmed", recurses := true, apart := false }
def FnExactArmedSaid : Prop := fnExactArmedRow.holds Try.pinned (OpenSpec.ofChange fnExactArmedSpec)

/-- ITS FALSE NEIGHBOUR: 'it returns false'. Refute it at one input. -/
def fnExactArmedWrong : ChangeSpec := { name := "fnExactArmed", fn := fun _ => fun
  | [d1, d2, d3, d4] => { results := [.lit (.bool false)], args := [d1, d2, d3, d4] }
  | _ => none }
def FnExactArmedWrongFalsely : Prop := fnExactArmedRow.holds Try.pinned (OpenSpec.ofChange fnExactArmedWrong)

/-- 'laws.FnExactStopped': WHATEVER THE INPUT: true; the input reads as it did. -/
def fnExactStoppedSpec : ChangeSpec := { name := "fnExactStopped", fn := fun _ => fun
  | [d1, d2] => { results := [.lit (.bool true)], args := [d1, d2] }
  | _ => none }
def fnExactStoppedRow : OpenClaim := { program := "ytigikhdandmpmaa", sum := "87a7d607a4a043d18009663e236e99e2fe4335d26c10b72192fa8213f464d452", func := "loop.example/g00673/laws.FnExactStopped", spec := "fnExactStopped", unfollowed := true, recurses := true, apart := false }
def FnExactStoppedSaid : Prop := fnExactStoppedRow.holds Try.pinned (OpenSpec.ofChange fnExactStoppedSpec)

/-- ITS FALSE NEIGHBOUR: 'it returns false'. Refute it at one input. -/
def fnExactStoppedWrong : ChangeSpec := { name := "fnExactStopped", fn := fun _ => fun
  | [d1, d2] => { results := [.lit (.bool false)], args := [d1, d2] }
  | _ => none }
def FnExactStoppedWrongFalsely : Prop := fnExactStoppedRow.holds Try.pinned (OpenSpec.ofChange fnExactStoppedWrong)

/-- 'laws.FnExactReset': WHATEVER THE INPUT: true; the input reads as it did. -/
def fnExactResetSpec : ChangeSpec := { name := "fnExactReset", fn := fun _ => fun
  | [d1, d2, d3] => { results := [.lit (.bool true)], args := [d1, d2, d3] }
  | _ => none }
def fnExactResetRow : OpenClaim := { program := "ytigikhdandmpmaa", sum := "87a7d607a4a043d18009663e236e99e2fe4335d26c10b72192fa8213f464d452", func := "loop.example/g00673/laws.FnExactReset", spec := "fnExactReset", unfollowed := true, recurses := true, apart := false }
def FnExactResetSaid : Prop := fnExactResetRow.holds Try.pinned (OpenSpec.ofChange fnExactResetSpec)

/-- ITS FALSE NEIGHBOUR: 'it returns false'. Refute it at one input. -/
def fnExactResetWrong : ChangeSpec := { name := "fnExactReset", fn := fun _ => fun
  | [d1, d2, d3] => { results := [.lit (.bool false)], args := [d1, d2, d3] }
  | _ => none }
def FnExactResetWrongFalsely : Prop := fnExactResetRow.holds Try.pinned (OpenSpec.ofChange fnExactResetWrong)

/-- 'laws.FnExactFired': WHATEVER THE INPUT: true; the input reads as it did. -/
def fnExactFiredSpec : ChangeSpec := { name := "fnExactFired", fn := fun _ => fun
  | [d1, d2] => { results := [.lit (.bool true)], args := [d1, d2] }
  | _ => none }
def fnExactFiredRow : OpenClaim := { program := "ytigikhdandmpmaa", sum := "87a7d607a4a043d18009663e236e99e2fe4335d26c10b72192fa8213f464d452", func := "loop.example/g00673/laws.FnExactFired", spec := "fnExactFired", recurses := true, apart := false }
def FnExactFiredSaid : Prop := fnExactFiredRow.holds Try.pinned (OpenSpec.ofChange fnExactFiredSpec)

/-- ITS FALSE NEIGHBOUR: 'it returns false'. Refute it at one input. -/
def fnExactFiredWrong : ChangeSpec := { name := "fnExactFired", fn := fun _ => fun
  | [d1, d2] => { results := [.lit (.bool false)], args := [d1, d2] }
  | _ => none }
def FnExactFiredWrongFalsely : Prop := fnExactFiredRow.holds Try.pinned (OpenSpec.ofChange fnExactFiredWrong)

/-- 'laws.FnExactForgotten': WHATEVER THE INPUT: true; the input reads as it did. -/
def fnExactForgottenSpec : ChangeSpec := { name := "fnExactForgotten", fn := fun _ => fun
  | [d1, d2] => { results := [.lit (.bool true)], args := [d1, d2] }
  | _ => none }
def fnExactForgottenRow : OpenClaim := { program := "ytigikhdandmpmaa", sum := "87a7d607a4a043d18009663e236e99e2fe4335d26c10b72192fa8213f464d452", func := "loop.example/g00673/laws.FnExactForgotten", spec := "fnExactForgotten", unfollowed := true, recurses := true, apart := false }
def FnExactForgottenSaid : Prop := fnExactForgottenRow.holds Try.pinned (OpenSpec.ofChange fnExactForgottenSpec)

/-- ITS FALSE NEIGHBOUR: 'it returns false'. Refute it at one input. -/
def fnExactForgottenWrong : ChangeSpec := { name := "fnExactForgotten", fn := fun _ => fun
  | [d1, d2] => { results := [.lit (.bool false)], args := [d1, d2] }
  | _ => none }
def FnExactForgottenWrongFalsely : Prop := fnExactForgottenRow.holds Try.pinned (OpenSpec.ofChange fnExactForgottenWrong)

/-- 'laws.FnExactNextDue': WHATEVER THE INPUT: true; the input reads as it did. -/
def fnExactNextDueSpec : ChangeSpec := { name := "fnExactNextDue", fn := fun _ => fun
  | [d] => { results := [.lit (.bool true)], args := [d] }
  | _ => none }
def fnExactNextDueRow : OpenClaim := { program := "ytigikhdandmpmaa", sum := "87a7d607a4a043d18009663e236e99e2fe4335d26c10b72192fa8213f464d452", func := "loop.example/g00673/laws.FnExactNextDue", spec := "fnExactNextDue", recurses := true, apart := false }
def FnExactNextDueSaid : Prop := fnExactNextDueRow.holds Try.pinned (OpenSpec.ofChange fnExactNextDueSpec)

/-- ITS FALSE NEIGHBOUR: 'it returns false'. Refute it at one input. -/
def fnExactNextDueWrong : ChangeSpec := { name := "fnExactNextDue", fn := fun _ => fun
  | [d] => { results := [.lit (.bool false)], args := [d] }
  | _ => none }
def FnExactNextDueWrongFalsely : Prop := fnExactNextDueRow.holds Try.pinned (OpenSpec.ofChange fnExactNextDueWrong)

/- THE SECOND FORM. 'bulk': how many values and letters a reading holds, each counted each time it is reached (what is shared counts as often as it is met; a slice's spare places count too). A statement '..UptoSaid' is the law's where the arguments, and the package variables that the reading takes, are together of bulk at most 1048576: NARROWER than '..Said'. Prove '..Said' where nothing that the law and all that it calls make is longer than what came in: it says more and counts as full. Else prove '..UptoSaid'. A law counts once. -/
mutual
def uptoBulk {H : Type} : DataW H → Nat
  | .lit (.string bytes) => bytes.length + 1
  | .lit _ => 1
  | .nil => 1
  | .ptr d => uptoBulk d + 1
  | .slice elems spare => uptoBulkAll elems + uptoBulkAll spare + 1
  | .agg parts => uptoBulkAll parts + 1
  | .iface _ d => uptoBulk d + 1
  | .map entries => uptoBulkEntries entries + 1
  | .held _ => 1
def uptoBulkAll {H : Type} : List (DataW H) → Nat
  | [] => 0
  | d :: r => uptoBulk d + uptoBulkAll r
def uptoBulkEntries {H : Type} : List (Lit × DataW H) → Nat
  | [] => 0
  | x :: r => uptoBulkEntry x + uptoBulkEntries r
def uptoBulkEntry {H : Type} : Lit × DataW H → Nat
  | (.string bytes, d) => bytes.length + uptoBulk d + 1
  | (_, d) => uptoBulk d + 1
 end
def uptoSmall : (H : Type) → List (DataW H) → Bool := fun _ ds => decide (uptoBulkAll ds ≤ 1048576)
def OpenSpec.upto (s : _root_.Go.ChangeSpec) : _root_.Go.OpenSpec := { _root_.Go.OpenSpec.ofChange s with cond := some uptoSmall }

/-- 'laws.FnFiring', WHERE WHAT IT READS IS OF BULK AT MOST 1048576: true; the input reads as it did. -/
def fnFiringUptoRow : OpenClaim := { program := "ytigikhdandmpmaa", sum := "87a7d607a4a043d18009663e236e99e2fe4335d26c10b72192fa8213f464d452", func := "loop.example/g00673/laws.FnFiring", spec := "fnFiring", unfollowed := true, recurses := true, apart := false, narrowed := true }
def FnFiringUptoSaid : Prop := fnFiringUptoRow.holds Try.pinned (OpenSpec.upto fnFiringSpec)

/-- 'laws.FnReset', WHERE WHAT IT READS IS OF BULK AT MOST 1048576: true; the input reads as it did. -/
def fnResetUptoRow : OpenClaim := { program := "ytigikhdandmpmaa", sum := "87a7d607a4a043d18009663e236e99e2fe4335d26c10b72192fa8213f464d452", func := "loop.example/g00673/laws.FnReset", spec := "fnReset", unfollowed := true, recurses := true, apart := false, narrowed := true }
def FnResetUptoSaid : Prop := fnResetUptoRow.holds Try.pinned (OpenSpec.upto fnResetSpec)

/-- 'laws.FnExactTimersOk', WHERE WHAT IT READS IS OF BULK AT MOST 1048576: true; the input reads as it did. -/
def fnExactTimersOkUptoRow : OpenClaim := { program := "ytigikhdandmpmaa", sum := "87a7d607a4a043d18009663e236e99e2fe4335d26c10b72192fa8213f464d452", func := "loop.example/g00673/laws.FnExactTimersOk", spec := "fnExactTimersOk", recurses := true, apart := false, narrowed := true }
def FnExactTimersOkUptoSaid : Prop := fnExactTimersOkUptoRow.holds Try.pinned (OpenSpec.upto fnExactTimersOkSpec)

/-- 'laws.FnExactArmed', WHERE WHAT IT READS IS OF BULK AT MOST 1048576: true; the input reads as it did. -/
def fnExactArmedUptoRow : OpenClaim := { program := "ytigikhdandmpmaa", sum := "87a7d607a4a043d18009663e236e99e2fe4335d26c10b72192fa8213f464d452", func := "loop.example/g00673/laws.FnExactArmed", spec := "fnExactArmed", recurses := true, apart := false, narrowed := true }
def FnExactArmedUptoSaid : Prop := fnExactArmedUptoRow.holds Try.pinned (OpenSpec.upto fnExactArmedSpec)

/-- 'laws.FnExactStopped', WHERE WHAT IT READS IS OF BULK AT MOST 1048576: true; the input reads as it did. -/
def fnExactStoppedUptoRow : OpenClaim := { program := "ytigikhdandmpmaa", sum := "87a7d607a4a043d18009663e236e99e2fe4335d26c10b72192fa8213f464d452", func := "loop.example/g00673/laws.FnExactStopped", spec := "fnExactStopped", unfollowed := true, recurses := true, apart := false, narrowed := true }
def FnExactStoppedUptoSaid : Prop := fnExactStoppedUptoRow.holds Try.pinned (OpenSpec.upto fnExactStoppedSpec)

/-- 'laws.FnExactReset', WHERE WHAT IT READS IS OF BULK AT MOST 1048576: true; the input reads as it did. -/
def fnExactResetUptoRow : OpenClaim := { program := "ytigikhdandmpmaa", sum := "87a7d607a4a043d18009663e236e99e2fe4335d26c10b72192fa8213f464d452", func := "loop.example/g00673/laws.FnExactReset", spec := "fnExactReset", unfollowed := true, recurses := true, apart := false, narrowed := true }
def FnExactResetUptoSaid : Prop := fnExactResetUptoRow.holds Try.pinned (OpenSpec.upto fnExactResetSpec)

/-- 'laws.FnExactFired', WHERE WHAT IT READS IS OF BULK AT MOST 1048576: true; the input reads as it did. -/
def fnExactFiredUptoRow : OpenClaim := { program := "ytigikhdandmpmaa", sum := "87a7d607a4a043d18009663e236e99e2fe4335d26c10b72192fa8213f464d452", func := "loop.example/g00673/laws.FnExactFired", spec := "fnExactFired", recurses := true, apart := false, narrowed := true }
def FnExactFiredUptoSaid : Prop := fnExactFiredUptoRow.holds Try.pinned (OpenSpec.upto fnExactFiredSpec)

/-- 'laws.FnExactForgotten', WHERE WHAT IT READS IS OF BULK AT MOST 1048576: true; the input reads as it did. -/
def fnExactForgottenUptoRow : OpenClaim := { program := "ytigikhdandmpmaa", sum := "87a7d607a4a043d18009663e236e99e2fe4335d26c10b72192fa8213f464d452", func := "loop.example/g00673/laws.FnExactForgotten", spec := "fnExactForgotten", unfollowed := true, recurses := true, apart := false, narrowed := true }
def FnExactForgottenUptoSaid : Prop := fnExactForgottenUptoRow.holds Try.pinned (OpenSpec.upto fnExactForgottenSpec)

/-- 'laws.FnExactNextDue', WHERE WHAT IT READS IS OF BULK AT MOST 1048576: true; the input reads as it did. -/
def fnExactNextDueUptoRow : OpenClaim := { program := "ytigikhdandmpmaa", sum := "87a7d607a4a043d18009663e236e99e2fe4335d26c10b72192fa8213f464d452", func := "loop.example/g00673/laws.FnExactNextDue", spec := "fnExactNextDue", recurses := true, apart := false, narrowed := true }
def FnExactNextDueUptoSaid : Prop := fnExactNextDueUptoRow.holds Try.pinned (OpenSpec.upto fnExactNextDueSpec)

end Rows
end Go.Proofs.Ytigikhdandmpmaa
