/-
  DERIVED. GIVEN WITH THE SEED: THE CARDS: each row of YtoccbmmjcbjacaaDoorRows.lean that lists a variable, with what it lists TIED to the program's text (the seventh form; the later family's looks); each row that meets fmt, with fmt's text TOLD by the authors' own Lean function (tested against real Go, not proved from fmt's source: count such statements apart). THE CARD IS WHAT COUNTS. Prove the row's statement (the work); the ties are given (YtoccbmmjcbjacaaDoorTie.lean); close each card by the builder's one call (the guide's Derived/Test/ToyasCard.lean, 'card_holds'). Laid BY PROGRAM, IN A SANDBOX (cutbox-door.mjs). By AI agents, Wed Nov 11 2026. No macro, syntax, notation, axiom, sorry.
-/
import Derived.Test.YtoccbmmjcbjacaaDoorRows
import GoSem.ClaimSeven
namespace Go.Proofs.YtoccbmmjcbjacaaDoor
namespace Rows

/-- THE TIED CARD OF 'laws.FnProgBack'. -/
def fnProgBackCard : Claim7 := { stood := { row := fnProgBackRow, standIns := [], harness := (true, "029428f07671c0cc064611fb086576c83053b2c15373168d1fff071d9b0d6c94"), looks := true }, kinds := [], alts := [], laidByText := true, laidKinds := [.data, .data, .data, .data, .sentinel, .sentinel, .pinned], laidTests := true, laidLooks := .later }
def FnProgBackCardSaid : Prop := Claim7.holds Tryd.pinned (.plain (OpenSpec.ofChange fnProgBackSpec)) fnProgBackCard

/-- THE TIED CARD OF 'laws.FnExactShowProg'. -/
def fnExactShowProgCard : Claim7 := { stood := { row := fnExactShowProgRow, standIns := [], harness := (true, "029428f07671c0cc064611fb086576c83053b2c15373168d1fff071d9b0d6c94"), looks := true }, kinds := [], alts := [], laidByText := true, laidKinds := [.data, .data, .data], laidTests := true, laidLooks := .later }
def FnExactShowProgCardSaid : Prop := Claim7.holds Tryd.pinned (.plain (OpenSpec.ofChange fnExactShowProgSpec)) fnExactShowProgCard

/-- THE TIED CARD OF 'laws.FnExactReadProg'. -/
def fnExactReadProgCard : Claim7 := { stood := { row := fnExactReadProgRow, standIns := [], harness := (true, "029428f07671c0cc064611fb086576c83053b2c15373168d1fff071d9b0d6c94"), looks := true }, kinds := [], alts := [], laidByText := true, laidKinds := [.data, .data, .data, .data, .sentinel, .sentinel, .pinned], laidTests := true, laidLooks := .later }
def FnExactReadProgCardSaid : Prop := Claim7.holds Tryd.pinned (.plain (OpenSpec.ofChange fnExactReadProgSpec)) fnExactReadProgCard

/-- THE SECOND FORM's CARD OF 'laws.FnProgBack'. -/
def fnProgBackUptoCard : Claim7 := { stood := { row := fnProgBackUptoRow, standIns := [], harness := (true, "029428f07671c0cc064611fb086576c83053b2c15373168d1fff071d9b0d6c94"), looks := true }, kinds := [], alts := [], laidByText := true, laidKinds := [.data, .data, .data, .data, .sentinel, .sentinel, .pinned], laidTests := true, laidLooks := .later }
def FnProgBackUptoCardSaid : Prop := Claim7.holds Tryd.pinned (.plain (OpenSpec.upto fnProgBackSpec)) fnProgBackUptoCard

/-- THE SECOND FORM's CARD OF 'laws.FnExactShowProg'. -/
def fnExactShowProgUptoCard : Claim7 := { stood := { row := fnExactShowProgUptoRow, standIns := [], harness := (true, "029428f07671c0cc064611fb086576c83053b2c15373168d1fff071d9b0d6c94"), looks := true }, kinds := [], alts := [], laidByText := true, laidKinds := [.data, .data, .data], laidTests := true, laidLooks := .later }
def FnExactShowProgUptoCardSaid : Prop := Claim7.holds Tryd.pinned (.plain (OpenSpec.upto fnExactShowProgSpec)) fnExactShowProgUptoCard

/-- THE SECOND FORM's CARD OF 'laws.FnExactReadProg'. -/
def fnExactReadProgUptoCard : Claim7 := { stood := { row := fnExactReadProgUptoRow, standIns := [], harness := (true, "029428f07671c0cc064611fb086576c83053b2c15373168d1fff071d9b0d6c94"), looks := true }, kinds := [], alts := [], laidByText := true, laidKinds := [.data, .data, .data, .data, .sentinel, .sentinel, .pinned], laidTests := true, laidLooks := .later }
def FnExactReadProgUptoCardSaid : Prop := Claim7.holds Tryd.pinned (.plain (OpenSpec.upto fnExactReadProgSpec)) fnExactReadProgUptoCard
end Rows
end Go.Proofs.YtoccbmmjcbjacaaDoor
