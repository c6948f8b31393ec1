/-
  DERIVED. GIVEN WITH THE SEED: THE CARDS: each row of YtfmlbgcfildidaaDoorRows.lean that lists a variable, with what it lists TIED to the program's text (the seventh form; the later family's looks); each row that meets fmt, with fmt's text TOLD by the authors' own Lean function (tested against real Go, not proved from fmt's source: count such statements apart). THE CARD IS WHAT COUNTS. Prove the row's statement (the work); the ties are given (YtfmlbgcfildidaaDoorTie.lean); close each card by the builder's one call (the guide's Derived/Test/ToyasCard.lean, 'card_holds'). Laid BY PROGRAM, IN A SANDBOX (cutbox-door.mjs). By AI agents, Wed Nov 11 2026. No macro, syntax, notation, axiom, sorry.
-/
import Derived.Test.YtfmlbgcfildidaaDoorRows
import GoSem.ClaimSeven
namespace Go.Proofs.YtfmlbgcfildidaaDoor
namespace Rows

/-- THE TIED CARD OF 'paycyclelaw.BindKnown'. -/
def bindKnownCard : Claim7 := { stood := { row := bindKnownRow, standIns := [], harness := (true, "2d8f5a034c8be1c760de00c2506f21c2dffe254155736908d43ec3c716e63e8c"), looks := true }, kinds := [], alts := [], laidByText := true, laidKinds := [.data], laidTests := true, laidLooks := .later }
def BindKnownCardSaid : Prop := Claim7.holds Tryd.pinned (.plain (OpenSpec.ofChange bindKnownSpec)) bindKnownCard

/-- THE TIED CARD OF 'paycyclelaw.BindLines'. -/
def bindLinesCard : Claim7 := { stood := { row := bindLinesRow, standIns := [], harness := (true, "2d8f5a034c8be1c760de00c2506f21c2dffe254155736908d43ec3c716e63e8c"), looks := true }, kinds := [], alts := [], laidByText := true, laidKinds := [.data], laidTests := true, laidLooks := .later }
def BindLinesCardSaid : Prop := Claim7.holds Tryd.pinned (.plain (OpenSpec.ofChange bindLinesSpec)) bindLinesCard

/-- THE TIED CARD OF 'paycyclelaw.BindUses'. -/
def bindUsesCard : Claim7 := { stood := { row := bindUsesRow, standIns := [], harness := (true, "2d8f5a034c8be1c760de00c2506f21c2dffe254155736908d43ec3c716e63e8c"), looks := true }, kinds := [], alts := [], laidByText := true, laidKinds := [.data], laidTests := true, laidLooks := .later }
def BindUsesCardSaid : Prop := Claim7.holds Tryd.pinned (.plain (OpenSpec.ofChange bindUsesSpec)) bindUsesCard

/-- THE TIED CARD OF 'paycyclelaw.CodeChecks'. -/
def codeChecksCard : Claim7 := { stood := { row := codeChecksRow, standIns := [], harness := (true, "2d8f5a034c8be1c760de00c2506f21c2dffe254155736908d43ec3c716e63e8c"), looks := true }, kinds := [], alts := [], laidByText := true, laidKinds := [.data], laidTests := true, laidLooks := .later }
def CodeChecksCardSaid : Prop := Claim7.holds Tryd.pinned (.plain (OpenSpec.ofChange codeChecksSpec)) codeChecksCard

/-- THE TIED CARD OF 'paycyclelaw.CodeRuns'. -/
def codeRunsCard : Claim7 := { stood := { row := codeRunsRow, standIns := [], harness := (true, "2d8f5a034c8be1c760de00c2506f21c2dffe254155736908d43ec3c716e63e8c"), looks := true }, kinds := [], alts := [], laidByText := true, laidKinds := [.data], laidTests := true, laidLooks := .later }
def CodeRunsCardSaid : Prop := Claim7.holds Tryd.pinned (.plain (OpenSpec.ofChange codeRunsSpec)) codeRunsCard

/-- THE TIED CARD OF 'paycyclelaw.CodeEnds'. -/
def codeEndsCard : Claim7 := { stood := { row := codeEndsRow, standIns := [], harness := (true, "2d8f5a034c8be1c760de00c2506f21c2dffe254155736908d43ec3c716e63e8c"), looks := true }, kinds := [], alts := [], laidByText := true, laidKinds := [.data], laidTests := true, laidLooks := .later }
def CodeEndsCardSaid : Prop := Claim7.holds Tryd.pinned (.plain (OpenSpec.ofChange codeEndsSpec)) codeEndsCard

/-- THE SECOND FORM's CARD OF 'paycyclelaw.BindKnown'. -/
def bindKnownUptoCard : Claim7 := { stood := { row := bindKnownUptoRow, standIns := [], harness := (true, "2d8f5a034c8be1c760de00c2506f21c2dffe254155736908d43ec3c716e63e8c"), looks := true }, kinds := [], alts := [], laidByText := true, laidKinds := [.data], laidTests := true, laidLooks := .later }
def BindKnownUptoCardSaid : Prop := Claim7.holds Tryd.pinned (.plain (OpenSpec.upto bindKnownSpec)) bindKnownUptoCard

/-- THE SECOND FORM's CARD OF 'paycyclelaw.BindLines'. -/
def bindLinesUptoCard : Claim7 := { stood := { row := bindLinesUptoRow, standIns := [], harness := (true, "2d8f5a034c8be1c760de00c2506f21c2dffe254155736908d43ec3c716e63e8c"), looks := true }, kinds := [], alts := [], laidByText := true, laidKinds := [.data], laidTests := true, laidLooks := .later }
def BindLinesUptoCardSaid : Prop := Claim7.holds Tryd.pinned (.plain (OpenSpec.upto bindLinesSpec)) bindLinesUptoCard

/-- THE SECOND FORM's CARD OF 'paycyclelaw.BindUses'. -/
def bindUsesUptoCard : Claim7 := { stood := { row := bindUsesUptoRow, standIns := [], harness := (true, "2d8f5a034c8be1c760de00c2506f21c2dffe254155736908d43ec3c716e63e8c"), looks := true }, kinds := [], alts := [], laidByText := true, laidKinds := [.data], laidTests := true, laidLooks := .later }
def BindUsesUptoCardSaid : Prop := Claim7.holds Tryd.pinned (.plain (OpenSpec.upto bindUsesSpec)) bindUsesUptoCard

/-- THE SECOND FORM's CARD OF 'paycyclelaw.CodeChecks'. -/
def codeChecksUptoCard : Claim7 := { stood := { row := codeChecksUptoRow, standIns := [], harness := (true, "2d8f5a034c8be1c760de00c2506f21c2dffe254155736908d43ec3c716e63e8c"), looks := true }, kinds := [], alts := [], laidByText := true, laidKinds := [.data], laidTests := true, laidLooks := .later }
def CodeChecksUptoCardSaid : Prop := Claim7.holds Tryd.pinned (.plain (OpenSpec.upto codeChecksSpec)) codeChecksUptoCard

/-- THE SECOND FORM's CARD OF 'paycyclelaw.CodeRuns'. -/
def codeRunsUptoCard : Claim7 := { stood := { row := codeRunsUptoRow, standIns := [], harness := (true, "2d8f5a034c8be1c760de00c2506f21c2dffe254155736908d43ec3c716e63e8c"), looks := true }, kinds := [], alts := [], laidByText := true, laidKinds := [.data], laidTests := true, laidLooks := .later }
def CodeRunsUptoCardSaid : Prop := Claim7.holds Tryd.pinned (.plain (OpenSpec.upto codeRunsSpec)) codeRunsUptoCard

/-- THE SECOND FORM's CARD OF 'paycyclelaw.CodeEnds'. -/
def codeEndsUptoCard : Claim7 := { stood := { row := codeEndsUptoRow, standIns := [], harness := (true, "2d8f5a034c8be1c760de00c2506f21c2dffe254155736908d43ec3c716e63e8c"), looks := true }, kinds := [], alts := [], laidByText := true, laidKinds := [.data], laidTests := true, laidLooks := .later }
def CodeEndsUptoCardSaid : Prop := Claim7.holds Tryd.pinned (.plain (OpenSpec.upto codeEndsSpec)) codeEndsUptoCard
end Rows
end Go.Proofs.YtfmlbgcfildidaaDoor
