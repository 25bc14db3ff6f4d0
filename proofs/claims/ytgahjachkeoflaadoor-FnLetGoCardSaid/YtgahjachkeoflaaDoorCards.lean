/-
  DERIVED. GIVEN WITH THE SEED: THE CARDS: each row of YtgahjachkeoflaaDoorRows.lean that lists a variable, with what it lists TIED to the program's text (the seventh form; the later family's looks); each row that meets fmt, with fmt's text TOLD by the authors' own Lean function (tested against real Go, not proved from fmt's source: count such statements apart). THE CARD IS WHAT COUNTS. Prove the row's statement (the work); the ties are given (YtgahjachkeoflaaDoorTie.lean); close each card by the builder's one call (the guide's Derived/Test/ToyasCard.lean, 'card_holds'). Laid BY PROGRAM, IN A SANDBOX (cutbox-door.mjs). By AI agents, Wed Nov 11 2026. No macro, syntax, notation, axiom, sorry.
-/
import Derived.Test.YtgahjachkeoflaaDoorRows
import GoSem.ClaimSeven
namespace Go.Proofs.YtgahjachkeoflaaDoor
namespace Rows

/-- THE TIED CARD OF 'laws.FnLetGo'. -/
def fnLetGoCard : Claim7 := { stood := { row := fnLetGoRow, standIns := [], harness := (true, "3ed5b67405e0838448bb961840d981e0b2559d8650f3650102f5858345c92e41"), looks := true }, kinds := [], alts := [], laidByText := true, laidKinds := [.handle, .sentinel, .sentinel], laidTests := true, laidLooks := .later }
def FnLetGoCardSaid : Prop := Claim7.holds Tryd.pinned (.plain (OpenSpec.ofChange fnLetGoSpec)) fnLetGoCard

/-- THE TIED CARD OF 'laws.FnExactEventsOk'. -/
def fnExactEventsOkCard : Claim7 := { stood := { row := fnExactEventsOkRow, standIns := [], harness := (true, "3ed5b67405e0838448bb961840d981e0b2559d8650f3650102f5858345c92e41"), looks := true }, kinds := [], alts := [], laidByText := true, laidKinds := [.sentinel, .sentinel], laidTests := true, laidLooks := .later }
def FnExactEventsOkCardSaid : Prop := Claim7.holds Tryd.pinned (.plain (OpenSpec.ofChange fnExactEventsOkSpec)) fnExactEventsOkCard

/-- THE TIED CARD OF 'laws.FnExactFirstOf'. -/
def fnExactFirstOfCard : Claim7 := { stood := { row := fnExactFirstOfRow, standIns := [], harness := (true, "3ed5b67405e0838448bb961840d981e0b2559d8650f3650102f5858345c92e41"), looks := true }, kinds := [], alts := [], laidByText := true, laidKinds := [.handle, .sentinel, .sentinel], laidTests := true, laidLooks := .later }
def FnExactFirstOfCardSaid : Prop := Claim7.holds Tryd.pinned (.plain (OpenSpec.ofChange fnExactFirstOfSpec)) fnExactFirstOfCard

/-- THE TIED CARD OF 'laws.FnExactErrOf'. -/
def fnExactErrOfCard : Claim7 := { stood := { row := fnExactErrOfRow, standIns := [], harness := (true, "3ed5b67405e0838448bb961840d981e0b2559d8650f3650102f5858345c92e41"), looks := true }, kinds := [], alts := [], laidByText := true, laidKinds := [.sentinel, .sentinel], laidTests := true, laidLooks := .later }
def FnExactErrOfCardSaid : Prop := Claim7.holds Tryd.pinned (.plain (OpenSpec.ofChange fnExactErrOfSpec)) fnExactErrOfCard

/-- THE TIED CARD OF 'laws.FnExactCauseOf'. -/
def fnExactCauseOfCard : Claim7 := { stood := { row := fnExactCauseOfRow, standIns := [], harness := (true, "3ed5b67405e0838448bb961840d981e0b2559d8650f3650102f5858345c92e41"), looks := true }, kinds := [], alts := [], laidByText := true, laidKinds := [.handle, .sentinel, .sentinel], laidTests := true, laidLooks := .later }
def FnExactCauseOfCardSaid : Prop := Claim7.holds Tryd.pinned (.plain (OpenSpec.ofChange fnExactCauseOfSpec)) fnExactCauseOfCard

/-- THE TIED CARD OF 'laws.FnExactLetGo'. -/
def fnExactLetGoCard : Claim7 := { stood := { row := fnExactLetGoRow, standIns := [], harness := (true, "3ed5b67405e0838448bb961840d981e0b2559d8650f3650102f5858345c92e41"), looks := true }, kinds := [], alts := [], laidByText := true, laidKinds := [.sentinel, .sentinel], laidTests := true, laidLooks := .later }
def FnExactLetGoCardSaid : Prop := Claim7.holds Tryd.pinned (.plain (OpenSpec.ofChange fnExactLetGoSpec)) fnExactLetGoCard

/-- THE TIED CARD OF 'laws.FnExactDoneBy'. -/
def fnExactDoneByCard : Claim7 := { stood := { row := fnExactDoneByRow, standIns := [], harness := (true, "3ed5b67405e0838448bb961840d981e0b2559d8650f3650102f5858345c92e41"), looks := true }, kinds := [], alts := [], laidByText := true, laidKinds := [.sentinel, .sentinel], laidTests := true, laidLooks := .later }
def FnExactDoneByCardSaid : Prop := Claim7.holds Tryd.pinned (.plain (OpenSpec.ofChange fnExactDoneBySpec)) fnExactDoneByCard

/-- THE SECOND FORM's CARD OF 'laws.FnLetGo'. -/
def fnLetGoUptoCard : Claim7 := { stood := { row := fnLetGoUptoRow, standIns := [], harness := (true, "3ed5b67405e0838448bb961840d981e0b2559d8650f3650102f5858345c92e41"), looks := true }, kinds := [], alts := [], laidByText := true, laidKinds := [.handle, .sentinel, .sentinel], laidTests := true, laidLooks := .later }
def FnLetGoUptoCardSaid : Prop := Claim7.holds Tryd.pinned (.plain (OpenSpec.upto fnLetGoSpec)) fnLetGoUptoCard

/-- THE SECOND FORM's CARD OF 'laws.FnExactEventsOk'. -/
def fnExactEventsOkUptoCard : Claim7 := { stood := { row := fnExactEventsOkUptoRow, standIns := [], harness := (true, "3ed5b67405e0838448bb961840d981e0b2559d8650f3650102f5858345c92e41"), looks := true }, kinds := [], alts := [], laidByText := true, laidKinds := [.sentinel, .sentinel], laidTests := true, laidLooks := .later }
def FnExactEventsOkUptoCardSaid : Prop := Claim7.holds Tryd.pinned (.plain (OpenSpec.upto fnExactEventsOkSpec)) fnExactEventsOkUptoCard

/-- THE SECOND FORM's CARD OF 'laws.FnExactFirstOf'. -/
def fnExactFirstOfUptoCard : Claim7 := { stood := { row := fnExactFirstOfUptoRow, standIns := [], harness := (true, "3ed5b67405e0838448bb961840d981e0b2559d8650f3650102f5858345c92e41"), looks := true }, kinds := [], alts := [], laidByText := true, laidKinds := [.handle, .sentinel, .sentinel], laidTests := true, laidLooks := .later }
def FnExactFirstOfUptoCardSaid : Prop := Claim7.holds Tryd.pinned (.plain (OpenSpec.upto fnExactFirstOfSpec)) fnExactFirstOfUptoCard

/-- THE SECOND FORM's CARD OF 'laws.FnExactErrOf'. -/
def fnExactErrOfUptoCard : Claim7 := { stood := { row := fnExactErrOfUptoRow, standIns := [], harness := (true, "3ed5b67405e0838448bb961840d981e0b2559d8650f3650102f5858345c92e41"), looks := true }, kinds := [], alts := [], laidByText := true, laidKinds := [.sentinel, .sentinel], laidTests := true, laidLooks := .later }
def FnExactErrOfUptoCardSaid : Prop := Claim7.holds Tryd.pinned (.plain (OpenSpec.upto fnExactErrOfSpec)) fnExactErrOfUptoCard

/-- THE SECOND FORM's CARD OF 'laws.FnExactCauseOf'. -/
def fnExactCauseOfUptoCard : Claim7 := { stood := { row := fnExactCauseOfUptoRow, standIns := [], harness := (true, "3ed5b67405e0838448bb961840d981e0b2559d8650f3650102f5858345c92e41"), looks := true }, kinds := [], alts := [], laidByText := true, laidKinds := [.handle, .sentinel, .sentinel], laidTests := true, laidLooks := .later }
def FnExactCauseOfUptoCardSaid : Prop := Claim7.holds Tryd.pinned (.plain (OpenSpec.upto fnExactCauseOfSpec)) fnExactCauseOfUptoCard

/-- THE SECOND FORM's CARD OF 'laws.FnExactLetGo'. -/
def fnExactLetGoUptoCard : Claim7 := { stood := { row := fnExactLetGoUptoRow, standIns := [], harness := (true, "3ed5b67405e0838448bb961840d981e0b2559d8650f3650102f5858345c92e41"), looks := true }, kinds := [], alts := [], laidByText := true, laidKinds := [.sentinel, .sentinel], laidTests := true, laidLooks := .later }
def FnExactLetGoUptoCardSaid : Prop := Claim7.holds Tryd.pinned (.plain (OpenSpec.upto fnExactLetGoSpec)) fnExactLetGoUptoCard

/-- THE SECOND FORM's CARD OF 'laws.FnExactDoneBy'. -/
def fnExactDoneByUptoCard : Claim7 := { stood := { row := fnExactDoneByUptoRow, standIns := [], harness := (true, "3ed5b67405e0838448bb961840d981e0b2559d8650f3650102f5858345c92e41"), looks := true }, kinds := [], alts := [], laidByText := true, laidKinds := [.sentinel, .sentinel], laidTests := true, laidLooks := .later }
def FnExactDoneByUptoCardSaid : Prop := Claim7.holds Tryd.pinned (.plain (OpenSpec.upto fnExactDoneBySpec)) fnExactDoneByUptoCard
end Rows
end Go.Proofs.YtgahjachkeoflaaDoor
