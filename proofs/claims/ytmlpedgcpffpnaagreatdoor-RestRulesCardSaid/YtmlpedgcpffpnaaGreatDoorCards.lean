/-
  DERIVED. GIVEN WITH THE SEED: THE CARDS: each row of YtmlpedgcpffpnaaGreatDoorRows.lean that lists a variable, with what it lists TIED to the program's text (the seventh form; the later family's looks); each row that meets fmt, with fmt's text TOLD by the authors' own Lean function (tested against real Go, not proved from fmt's source: count such statements apart). THE CARD IS WHAT COUNTS. Prove the row's statement (the work); the ties are given (YtmlpedgcpffpnaaGreatDoorTie.lean); close each card by the builder's one call (the guide's Derived/Test/ToyasCard.lean, 'card_holds'). Laid BY PROGRAM, IN A SANDBOX (cutbox-door.mjs). By AI agents, Wed Nov 11 2026. No macro, syntax, notation, axiom, sorry.
-/
import Derived.Test.YtmlpedgcpffpnaaGreatDoorRows
import GoSem.ClaimSeven
namespace Go.Proofs.YtmlpedgcpffpnaaGreatDoor
namespace Rows

/-- THE TIED CARD OF 'paycyclelaw.CodeMakes'. -/
def codeMakesCard : Claim7 := { stood := { row := codeMakesRow, standIns := [], harness := (true, "30dea3fb9e974d7b7c539d3b76cdad58f659e3019209caeb0dfde58d97de825c"), looks := true }, kinds := [], alts := [], laidByText := true, laidKinds := [.data, .data, .data], laidTests := true, laidLooks := .later }
def CodeMakesCardSaid : Prop := Claim7.holds Tryz.pinned (.plain (OpenSpec.ofChange codeMakesSpec)) codeMakesCard

/-- THE TIED CARD OF 'paycyclelaw.CodeSame'. -/
def codeSameCard : Claim7 := { stood := { row := codeSameRow, standIns := [], harness := (true, "30dea3fb9e974d7b7c539d3b76cdad58f659e3019209caeb0dfde58d97de825c"), looks := true }, kinds := [], alts := [], laidByText := true, laidKinds := [.data, .data, .data, .sentinel, .sentinel, .data, .data, .data, .data, .data], laidTests := true, laidLooks := .later }
def CodeSameCardSaid : Prop := Claim7.holds Tryz.pinned (.plain (OpenSpec.ofChange codeSameSpec)) codeSameCard

/-- THE TIED CARD OF 'paycyclelaw.RestRules'. -/
def restRulesCard : Claim7 := { stood := { row := restRulesRow, standIns := [], harness := (true, "30dea3fb9e974d7b7c539d3b76cdad58f659e3019209caeb0dfde58d97de825c"), looks := true }, kinds := [], alts := [], laidByText := true, laidKinds := [.data, .data, .data, .sentinel, .sentinel, .data, .data, .data, .data, .data], laidTests := true, laidLooks := .later }
def RestRulesCardSaid : Prop := Claim7.holds Tryz.pinned (.plain (OpenSpec.ofChange restRulesSpec)) restRulesCard

/-- THE SECOND FORM's CARD OF 'paycyclelaw.CodeMakes'. -/
def codeMakesUptoCard : Claim7 := { stood := { row := codeMakesUptoRow, standIns := [], harness := (true, "30dea3fb9e974d7b7c539d3b76cdad58f659e3019209caeb0dfde58d97de825c"), looks := true }, kinds := [], alts := [], laidByText := true, laidKinds := [.data, .data, .data], laidTests := true, laidLooks := .later }
def CodeMakesUptoCardSaid : Prop := Claim7.holds Tryz.pinned (.plain (OpenSpec.upto codeMakesSpec)) codeMakesUptoCard

/-- THE SECOND FORM's CARD OF 'paycyclelaw.CodeSame'. -/
def codeSameUptoCard : Claim7 := { stood := { row := codeSameUptoRow, standIns := [], harness := (true, "30dea3fb9e974d7b7c539d3b76cdad58f659e3019209caeb0dfde58d97de825c"), looks := true }, kinds := [], alts := [], laidByText := true, laidKinds := [.data, .data, .data, .sentinel, .sentinel, .data, .data, .data, .data, .data], laidTests := true, laidLooks := .later }
def CodeSameUptoCardSaid : Prop := Claim7.holds Tryz.pinned (.plain (OpenSpec.upto codeSameSpec)) codeSameUptoCard

/-- THE SECOND FORM's CARD OF 'paycyclelaw.RestRules'. -/
def restRulesUptoCard : Claim7 := { stood := { row := restRulesUptoRow, standIns := [], harness := (true, "30dea3fb9e974d7b7c539d3b76cdad58f659e3019209caeb0dfde58d97de825c"), looks := true }, kinds := [], alts := [], laidByText := true, laidKinds := [.data, .data, .data, .sentinel, .sentinel, .data, .data, .data, .data, .data], laidTests := true, laidLooks := .later }
def RestRulesUptoCardSaid : Prop := Claim7.holds Tryz.pinned (.plain (OpenSpec.upto restRulesSpec)) restRulesUptoCard
end Rows
end Go.Proofs.YtmlpedgcpffpnaaGreatDoor
