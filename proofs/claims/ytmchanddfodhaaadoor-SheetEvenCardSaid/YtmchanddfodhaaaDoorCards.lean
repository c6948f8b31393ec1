/-
  DERIVED. GIVEN WITH THE SEED: THE CARDS: each row of YtmchanddfodhaaaDoorRows.lean that lists a variable, with what it lists TIED to the program's text (the seventh form; the later family's looks); each row that meets fmt, with fmt's text TOLD by the authors' own Lean function (tested against real Go, not proved from fmt's source: count such statements apart). THE CARD IS WHAT COUNTS. Prove the row's statement (the work); the ties are given (YtmchanddfodhaaaDoorTie.lean); close each card by the builder's one call (the guide's Derived/Test/ToyasCard.lean, 'card_holds'). Laid BY PROGRAM, IN A SANDBOX (cutbox-door.mjs). By AI agents, Wed Nov 11 2026. No macro, syntax, notation, axiom, sorry.
-/
import Derived.Test.YtmchanddfodhaaaDoorRows
import GoSem.ClaimSeven
namespace Go.Proofs.YtmchanddfodhaaaDoor
namespace Rows

/-- THE TIED CARD OF 'paycyclelaw.SheetPrints'. -/
def sheetPrintsCard : Claim7 := { stood := { row := sheetPrintsRow, standIns := [], harness := (true, "1656f0733116003f65bf6a35667c36c0b5aa45678ba38bb59ed9d31cf630105f"), looks := false }, kinds := [], alts := [], laidByText := true, laidKinds := [.data, .data, .data], laidTests := true, laidLooks := .later }
def SheetPrintsCardSaid : Prop := Claim7.holds Tryd.pinned (.plain (OpenSpec.ofChange sheetPrintsSpec)) sheetPrintsCard

/-- THE TIED CARD OF 'paycyclelaw.SheetParses'. -/
def sheetParsesCard : Claim7 := { stood := { row := sheetParsesRow, standIns := [], harness := (true, "1656f0733116003f65bf6a35667c36c0b5aa45678ba38bb59ed9d31cf630105f"), looks := false }, kinds := [], alts := [], laidByText := true, laidKinds := [.data, .data, .data, .data, .pinned], laidTests := true, laidLooks := .later }
def SheetParsesCardSaid : Prop := Claim7.holds Tryd.pinned (.plain (OpenSpec.ofChange sheetParsesSpec)) sheetParsesCard

/-- THE TIED CARD OF 'paycyclelaw.SheetBack'. -/
def sheetBackCard : Claim7 := { stood := { row := sheetBackRow, standIns := [], harness := (true, "1656f0733116003f65bf6a35667c36c0b5aa45678ba38bb59ed9d31cf630105f"), looks := false }, kinds := [], alts := [], laidByText := true, laidKinds := [.data, .data, .data, .data, .pinned], laidTests := true, laidLooks := .later }
def SheetBackCardSaid : Prop := Claim7.holds Tryd.pinned (.plain (OpenSpec.ofChange sheetBackSpec)) sheetBackCard

/-- THE TIED CARD OF 'paycyclelaw.SheetBoxes'. -/
def sheetBoxesCard : Claim7 := { stood := { row := sheetBoxesRow, standIns := [], harness := (true, "1656f0733116003f65bf6a35667c36c0b5aa45678ba38bb59ed9d31cf630105f"), looks := false }, kinds := [], alts := [], laidByText := true, laidKinds := [.data, .data, .data], laidTests := true, laidLooks := .later }
def SheetBoxesCardSaid : Prop := Claim7.holds Tryd.pinned (.plain (OpenSpec.ofChange sheetBoxesSpec)) sheetBoxesCard

/-- THE TIED CARD OF 'paycyclelaw.SheetEven'. -/
def sheetEvenCard : Claim7 := { stood := { row := sheetEvenRow, standIns := [], harness := (true, "1656f0733116003f65bf6a35667c36c0b5aa45678ba38bb59ed9d31cf630105f"), looks := false }, kinds := [], alts := [], laidByText := true, laidKinds := [.data, .data, .data], laidTests := true, laidLooks := .later }
def SheetEvenCardSaid : Prop := Claim7.holds Tryd.pinned (.plain (OpenSpec.ofChange sheetEvenSpec)) sheetEvenCard

/-- THE SECOND FORM's CARD OF 'paycyclelaw.SheetPrints'. -/
def sheetPrintsUptoCard : Claim7 := { stood := { row := sheetPrintsUptoRow, standIns := [], harness := (true, "1656f0733116003f65bf6a35667c36c0b5aa45678ba38bb59ed9d31cf630105f"), looks := false }, kinds := [], alts := [], laidByText := true, laidKinds := [.data, .data, .data], laidTests := true, laidLooks := .later }
def SheetPrintsUptoCardSaid : Prop := Claim7.holds Tryd.pinned (.plain (OpenSpec.upto sheetPrintsSpec)) sheetPrintsUptoCard

/-- THE SECOND FORM's CARD OF 'paycyclelaw.SheetParses'. -/
def sheetParsesUptoCard : Claim7 := { stood := { row := sheetParsesUptoRow, standIns := [], harness := (true, "1656f0733116003f65bf6a35667c36c0b5aa45678ba38bb59ed9d31cf630105f"), looks := false }, kinds := [], alts := [], laidByText := true, laidKinds := [.data, .data, .data, .data, .pinned], laidTests := true, laidLooks := .later }
def SheetParsesUptoCardSaid : Prop := Claim7.holds Tryd.pinned (.plain (OpenSpec.upto sheetParsesSpec)) sheetParsesUptoCard

/-- THE SECOND FORM's CARD OF 'paycyclelaw.SheetBack'. -/
def sheetBackUptoCard : Claim7 := { stood := { row := sheetBackUptoRow, standIns := [], harness := (true, "1656f0733116003f65bf6a35667c36c0b5aa45678ba38bb59ed9d31cf630105f"), looks := false }, kinds := [], alts := [], laidByText := true, laidKinds := [.data, .data, .data, .data, .pinned], laidTests := true, laidLooks := .later }
def SheetBackUptoCardSaid : Prop := Claim7.holds Tryd.pinned (.plain (OpenSpec.upto sheetBackSpec)) sheetBackUptoCard

/-- THE SECOND FORM's CARD OF 'paycyclelaw.SheetBoxes'. -/
def sheetBoxesUptoCard : Claim7 := { stood := { row := sheetBoxesUptoRow, standIns := [], harness := (true, "1656f0733116003f65bf6a35667c36c0b5aa45678ba38bb59ed9d31cf630105f"), looks := false }, kinds := [], alts := [], laidByText := true, laidKinds := [.data, .data, .data], laidTests := true, laidLooks := .later }
def SheetBoxesUptoCardSaid : Prop := Claim7.holds Tryd.pinned (.plain (OpenSpec.upto sheetBoxesSpec)) sheetBoxesUptoCard

/-- THE SECOND FORM's CARD OF 'paycyclelaw.SheetEven'. -/
def sheetEvenUptoCard : Claim7 := { stood := { row := sheetEvenUptoRow, standIns := [], harness := (true, "1656f0733116003f65bf6a35667c36c0b5aa45678ba38bb59ed9d31cf630105f"), looks := false }, kinds := [], alts := [], laidByText := true, laidKinds := [.data, .data, .data], laidTests := true, laidLooks := .later }
def SheetEvenUptoCardSaid : Prop := Claim7.holds Tryd.pinned (.plain (OpenSpec.upto sheetEvenSpec)) sheetEvenUptoCard
end Rows
end Go.Proofs.YtmchanddfodhaaaDoor
