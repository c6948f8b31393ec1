/-
  DERIVED. GIVEN WITH THE SEED: THE CARDS: each row of YtdfgkngfpedgdaaDoorRows.lean that lists a variable, with what it lists TIED to the program's text (the seventh form; the later family's looks); each row that meets fmt, with fmt's text TOLD by the authors' own Lean function (tested against real Go, not proved from fmt's source: count such statements apart). THE CARD IS WHAT COUNTS. Prove the row's statement (the work); the ties are given (YtdfgkngfpedgdaaDoorTie.lean); close each card by the builder's one call (the guide's Derived/Test/ToyasCard.lean, 'card_holds'). Laid BY PROGRAM, IN A SANDBOX (cutbox-door.mjs). By AI agents, Wed Nov 11 2026. No macro, syntax, notation, axiom, sorry.
-/
import Derived.Test.YtdfgkngfpedgdaaDoorRows
import GoSem.ClaimSeven
namespace Go.Proofs.YtdfgkngfpedgdaaDoor
namespace Rows

/-- THE TIED CARD OF 'paycyclelaw.BankAccounts'. -/
def bankAccountsCard : Claim7 := { stood := { row := bankAccountsRow, standIns := [], harness := (true, "cd2bbb1a5f4f91dfbb9667fa3a0de62e3f3276d7dbd1a5fb9826384623ace5b6"), looks := true }, kinds := [], alts := [], laidByText := true, laidKinds := [.data, .data, .data], laidTests := true, laidLooks := .later }
def BankAccountsCardSaid : Prop := Claim7.holds Tryd.pinned (.plain (OpenSpec.ofChange bankAccountsSpec)) bankAccountsCard

/-- THE TIED CARD OF 'paycyclelaw.BankPrints'. -/
def bankPrintsCard : Claim7 := { stood := { row := bankPrintsRow, standIns := [], harness := (true, "cd2bbb1a5f4f91dfbb9667fa3a0de62e3f3276d7dbd1a5fb9826384623ace5b6"), looks := true }, kinds := [], alts := [], laidByText := true, laidKinds := [.data, .data, .data], laidTests := true, laidLooks := .later }
def BankPrintsCardSaid : Prop := Claim7.holds Tryd.pinned (.plain (OpenSpec.ofChange bankPrintsSpec)) bankPrintsCard

/-- THE TIED CARD OF 'paycyclelaw.BankParses'. -/
def bankParsesCard : Claim7 := { stood := { row := bankParsesRow, standIns := [], harness := (true, "cd2bbb1a5f4f91dfbb9667fa3a0de62e3f3276d7dbd1a5fb9826384623ace5b6"), looks := true }, kinds := [], alts := [], laidByText := true, laidKinds := [.data, .data, .data, .data, .pinned], laidTests := true, laidLooks := .later }
def BankParsesCardSaid : Prop := Claim7.holds Tryd.pinned (.plain (OpenSpec.ofChange bankParsesSpec)) bankParsesCard

/-- THE TIED CARD OF 'paycyclelaw.BankRejects'. -/
def bankRejectsCard : Claim7 := { stood := { row := bankRejectsRow, standIns := [], harness := (true, "cd2bbb1a5f4f91dfbb9667fa3a0de62e3f3276d7dbd1a5fb9826384623ace5b6"), looks := true }, kinds := [], alts := [], laidByText := true, laidKinds := [.data, .data, .data], laidTests := true, laidLooks := .later }
def BankRejectsCardSaid : Prop := Claim7.holds Tryd.pinned (.plain (OpenSpec.ofChange bankRejectsSpec)) bankRejectsCard

/-- THE TIED CARD OF 'paycyclelaw.BankBack'. -/
def bankBackCard : Claim7 := { stood := { row := bankBackRow, standIns := [], harness := (true, "cd2bbb1a5f4f91dfbb9667fa3a0de62e3f3276d7dbd1a5fb9826384623ace5b6"), looks := true }, kinds := [], alts := [], laidByText := true, laidKinds := [.data, .data, .data, .data, .pinned], laidTests := true, laidLooks := .later }
def BankBackCardSaid : Prop := Claim7.holds Tryd.pinned (.plain (OpenSpec.ofChange bankBackSpec)) bankBackCard

/-- THE TIED CARD OF 'paycyclelaw.BankGuards'. -/
def bankGuardsCard : Claim7 := { stood := { row := bankGuardsRow, standIns := [], harness := (true, "cd2bbb1a5f4f91dfbb9667fa3a0de62e3f3276d7dbd1a5fb9826384623ace5b6"), looks := true }, kinds := [], alts := [], laidByText := true, laidKinds := [.data, .data, .data, .data, .pinned], laidTests := true, laidLooks := .later }
def BankGuardsCardSaid : Prop := Claim7.holds Tryd.pinned (.plain (OpenSpec.ofChange bankGuardsSpec)) bankGuardsCard

/-- THE TIED CARD OF 'paycyclelaw.BankParts'. -/
def bankPartsCard : Claim7 := { stood := { row := bankPartsRow, standIns := [], harness := (true, "cd2bbb1a5f4f91dfbb9667fa3a0de62e3f3276d7dbd1a5fb9826384623ace5b6"), looks := true }, kinds := [], alts := [], laidByText := true, laidKinds := [.data, .data, .data], laidTests := true, laidLooks := .later }
def BankPartsCardSaid : Prop := Claim7.holds Tryd.pinned (.plain (OpenSpec.ofChange bankPartsSpec)) bankPartsCard

/-- THE SECOND FORM's CARD OF 'paycyclelaw.BankAccounts'. -/
def bankAccountsUptoCard : Claim7 := { stood := { row := bankAccountsUptoRow, standIns := [], harness := (true, "cd2bbb1a5f4f91dfbb9667fa3a0de62e3f3276d7dbd1a5fb9826384623ace5b6"), looks := true }, kinds := [], alts := [], laidByText := true, laidKinds := [.data, .data, .data], laidTests := true, laidLooks := .later }
def BankAccountsUptoCardSaid : Prop := Claim7.holds Tryd.pinned (.plain (OpenSpec.upto bankAccountsSpec)) bankAccountsUptoCard

/-- THE SECOND FORM's CARD OF 'paycyclelaw.BankPrints'. -/
def bankPrintsUptoCard : Claim7 := { stood := { row := bankPrintsUptoRow, standIns := [], harness := (true, "cd2bbb1a5f4f91dfbb9667fa3a0de62e3f3276d7dbd1a5fb9826384623ace5b6"), looks := true }, kinds := [], alts := [], laidByText := true, laidKinds := [.data, .data, .data], laidTests := true, laidLooks := .later }
def BankPrintsUptoCardSaid : Prop := Claim7.holds Tryd.pinned (.plain (OpenSpec.upto bankPrintsSpec)) bankPrintsUptoCard

/-- THE SECOND FORM's CARD OF 'paycyclelaw.BankParses'. -/
def bankParsesUptoCard : Claim7 := { stood := { row := bankParsesUptoRow, standIns := [], harness := (true, "cd2bbb1a5f4f91dfbb9667fa3a0de62e3f3276d7dbd1a5fb9826384623ace5b6"), looks := true }, kinds := [], alts := [], laidByText := true, laidKinds := [.data, .data, .data, .data, .pinned], laidTests := true, laidLooks := .later }
def BankParsesUptoCardSaid : Prop := Claim7.holds Tryd.pinned (.plain (OpenSpec.upto bankParsesSpec)) bankParsesUptoCard

/-- THE SECOND FORM's CARD OF 'paycyclelaw.BankRejects'. -/
def bankRejectsUptoCard : Claim7 := { stood := { row := bankRejectsUptoRow, standIns := [], harness := (true, "cd2bbb1a5f4f91dfbb9667fa3a0de62e3f3276d7dbd1a5fb9826384623ace5b6"), looks := true }, kinds := [], alts := [], laidByText := true, laidKinds := [.data, .data, .data], laidTests := true, laidLooks := .later }
def BankRejectsUptoCardSaid : Prop := Claim7.holds Tryd.pinned (.plain (OpenSpec.upto bankRejectsSpec)) bankRejectsUptoCard

/-- THE SECOND FORM's CARD OF 'paycyclelaw.BankBack'. -/
def bankBackUptoCard : Claim7 := { stood := { row := bankBackUptoRow, standIns := [], harness := (true, "cd2bbb1a5f4f91dfbb9667fa3a0de62e3f3276d7dbd1a5fb9826384623ace5b6"), looks := true }, kinds := [], alts := [], laidByText := true, laidKinds := [.data, .data, .data, .data, .pinned], laidTests := true, laidLooks := .later }
def BankBackUptoCardSaid : Prop := Claim7.holds Tryd.pinned (.plain (OpenSpec.upto bankBackSpec)) bankBackUptoCard

/-- THE SECOND FORM's CARD OF 'paycyclelaw.BankGuards'. -/
def bankGuardsUptoCard : Claim7 := { stood := { row := bankGuardsUptoRow, standIns := [], harness := (true, "cd2bbb1a5f4f91dfbb9667fa3a0de62e3f3276d7dbd1a5fb9826384623ace5b6"), looks := true }, kinds := [], alts := [], laidByText := true, laidKinds := [.data, .data, .data, .data, .pinned], laidTests := true, laidLooks := .later }
def BankGuardsUptoCardSaid : Prop := Claim7.holds Tryd.pinned (.plain (OpenSpec.upto bankGuardsSpec)) bankGuardsUptoCard

/-- THE SECOND FORM's CARD OF 'paycyclelaw.BankParts'. -/
def bankPartsUptoCard : Claim7 := { stood := { row := bankPartsUptoRow, standIns := [], harness := (true, "cd2bbb1a5f4f91dfbb9667fa3a0de62e3f3276d7dbd1a5fb9826384623ace5b6"), looks := true }, kinds := [], alts := [], laidByText := true, laidKinds := [.data, .data, .data], laidTests := true, laidLooks := .later }
def BankPartsUptoCardSaid : Prop := Claim7.holds Tryd.pinned (.plain (OpenSpec.upto bankPartsSpec)) bankPartsUptoCard
end Rows
end Go.Proofs.YtdfgkngfpedgdaaDoor
