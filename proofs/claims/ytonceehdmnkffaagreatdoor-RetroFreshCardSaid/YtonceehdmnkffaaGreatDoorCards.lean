/-
  DERIVED. GIVEN WITH THE SEED: THE CARDS: each row of YtonceehdmnkffaaGreatDoorRows.lean that lists a variable, with what it lists TIED to the program's text (the seventh form; the later family's looks); each row that meets fmt, with fmt's text TOLD by the authors' own Lean function (tested against real Go, not proved from fmt's source: count such statements apart). THE CARD IS WHAT COUNTS. Prove the row's statement (the work); the ties are given (YtonceehdmnkffaaGreatDoorTie.lean); close each card by the builder's one call (the guide's Derived/Test/ToyasCard.lean, 'card_holds'). Laid BY PROGRAM, IN A SANDBOX (cutbox-door.mjs). By AI agents, Wed Nov 11 2026. No macro, syntax, notation, axiom, sorry.
-/
import Derived.Test.YtonceehdmnkffaaGreatDoorRows
import GoSem.ClaimSeven
namespace Go.Proofs.YtonceehdmnkffaaGreatDoor
namespace Rows

/-- THE TIED CARD OF 'paycyclelaw.RetroChecks'. -/
def retroChecksCard : Claim7 := { stood := { row := retroChecksRow, standIns := [], harness := (true, "7e272bfc58d0b85a2a7821a6077b77dc135ded5e55e4c543acae33d93de269ed"), looks := true }, kinds := [], alts := [], laidByText := true, laidKinds := [.data], laidTests := true, laidLooks := .later }
def RetroChecksCardSaid : Prop := Claim7.holds Tryz.pinned (.plain (OpenSpec.ofChange retroChecksSpec)) retroChecksCard

/-- THE TIED CARD OF 'paycyclelaw.RetroFresh'. -/
def retroFreshCard : Claim7 := { stood := { row := retroFreshRow, standIns := [], harness := (true, "7e272bfc58d0b85a2a7821a6077b77dc135ded5e55e4c543acae33d93de269ed"), looks := true }, kinds := [], alts := [], laidByText := true, laidKinds := [.data], laidTests := true, laidLooks := .later }
def RetroFreshCardSaid : Prop := Claim7.holds Tryz.pinned (.plain (OpenSpec.ofChange retroFreshSpec)) retroFreshCard

/-- THE TIED CARD OF 'paycyclelaw.RetroFirst'. -/
def retroFirstCard : Claim7 := { stood := { row := retroFirstRow, standIns := [], harness := (true, "7e272bfc58d0b85a2a7821a6077b77dc135ded5e55e4c543acae33d93de269ed"), looks := true }, kinds := [], alts := [], laidByText := true, laidKinds := [.data], laidTests := true, laidLooks := .later }
def RetroFirstCardSaid : Prop := Claim7.holds Tryz.pinned (.plain (OpenSpec.ofChange retroFirstSpec)) retroFirstCard

/-- THE TIED CARD OF 'paycyclelaw.RetroDelta'. -/
def retroDeltaCard : Claim7 := { stood := { row := retroDeltaRow, standIns := [], harness := (true, "7e272bfc58d0b85a2a7821a6077b77dc135ded5e55e4c543acae33d93de269ed"), looks := true }, kinds := [], alts := [], laidByText := true, laidKinds := [.data], laidTests := true, laidLooks := .later }
def RetroDeltaCardSaid : Prop := Claim7.holds Tryz.pinned (.plain (OpenSpec.ofChange retroDeltaSpec)) retroDeltaCard

/-- THE TIED CARD OF 'paycyclelaw.RetroMakes'. -/
def retroMakesCard : Claim7 := { stood := { row := retroMakesRow, standIns := [], harness := (true, "7e272bfc58d0b85a2a7821a6077b77dc135ded5e55e4c543acae33d93de269ed"), looks := true }, kinds := [], alts := [], laidByText := true, laidKinds := [.data], laidTests := true, laidLooks := .later }
def RetroMakesCardSaid : Prop := Claim7.holds Tryz.pinned (.plain (OpenSpec.ofChange retroMakesSpec)) retroMakesCard

/-- THE TIED CARD OF 'paycyclelaw.RetroAhead'. -/
def retroAheadCard : Claim7 := { stood := { row := retroAheadRow, standIns := [], harness := (true, "7e272bfc58d0b85a2a7821a6077b77dc135ded5e55e4c543acae33d93de269ed"), looks := true }, kinds := [], alts := [], laidByText := true, laidKinds := [.data], laidTests := true, laidLooks := .later }
def RetroAheadCardSaid : Prop := Claim7.holds Tryz.pinned (.plain (OpenSpec.ofChange retroAheadSpec)) retroAheadCard

/-- THE TIED CARD OF 'paycyclelaw.RetroOn'. -/
def retroOnCard : Claim7 := { stood := { row := retroOnRow, standIns := [], harness := (true, "7e272bfc58d0b85a2a7821a6077b77dc135ded5e55e4c543acae33d93de269ed"), looks := true }, kinds := [], alts := [], laidByText := true, laidKinds := [.data], laidTests := true, laidLooks := .later }
def RetroOnCardSaid : Prop := Claim7.holds Tryz.pinned (.plain (OpenSpec.ofChange retroOnSpec)) retroOnCard

/-- THE SECOND FORM's CARD OF 'paycyclelaw.RetroChecks'. -/
def retroChecksUptoCard : Claim7 := { stood := { row := retroChecksUptoRow, standIns := [], harness := (true, "7e272bfc58d0b85a2a7821a6077b77dc135ded5e55e4c543acae33d93de269ed"), looks := true }, kinds := [], alts := [], laidByText := true, laidKinds := [.data], laidTests := true, laidLooks := .later }
def RetroChecksUptoCardSaid : Prop := Claim7.holds Tryz.pinned (.plain (OpenSpec.upto retroChecksSpec)) retroChecksUptoCard

/-- THE SECOND FORM's CARD OF 'paycyclelaw.RetroFresh'. -/
def retroFreshUptoCard : Claim7 := { stood := { row := retroFreshUptoRow, standIns := [], harness := (true, "7e272bfc58d0b85a2a7821a6077b77dc135ded5e55e4c543acae33d93de269ed"), looks := true }, kinds := [], alts := [], laidByText := true, laidKinds := [.data], laidTests := true, laidLooks := .later }
def RetroFreshUptoCardSaid : Prop := Claim7.holds Tryz.pinned (.plain (OpenSpec.upto retroFreshSpec)) retroFreshUptoCard

/-- THE SECOND FORM's CARD OF 'paycyclelaw.RetroFirst'. -/
def retroFirstUptoCard : Claim7 := { stood := { row := retroFirstUptoRow, standIns := [], harness := (true, "7e272bfc58d0b85a2a7821a6077b77dc135ded5e55e4c543acae33d93de269ed"), looks := true }, kinds := [], alts := [], laidByText := true, laidKinds := [.data], laidTests := true, laidLooks := .later }
def RetroFirstUptoCardSaid : Prop := Claim7.holds Tryz.pinned (.plain (OpenSpec.upto retroFirstSpec)) retroFirstUptoCard

/-- THE SECOND FORM's CARD OF 'paycyclelaw.RetroDelta'. -/
def retroDeltaUptoCard : Claim7 := { stood := { row := retroDeltaUptoRow, standIns := [], harness := (true, "7e272bfc58d0b85a2a7821a6077b77dc135ded5e55e4c543acae33d93de269ed"), looks := true }, kinds := [], alts := [], laidByText := true, laidKinds := [.data], laidTests := true, laidLooks := .later }
def RetroDeltaUptoCardSaid : Prop := Claim7.holds Tryz.pinned (.plain (OpenSpec.upto retroDeltaSpec)) retroDeltaUptoCard

/-- THE SECOND FORM's CARD OF 'paycyclelaw.RetroMakes'. -/
def retroMakesUptoCard : Claim7 := { stood := { row := retroMakesUptoRow, standIns := [], harness := (true, "7e272bfc58d0b85a2a7821a6077b77dc135ded5e55e4c543acae33d93de269ed"), looks := true }, kinds := [], alts := [], laidByText := true, laidKinds := [.data], laidTests := true, laidLooks := .later }
def RetroMakesUptoCardSaid : Prop := Claim7.holds Tryz.pinned (.plain (OpenSpec.upto retroMakesSpec)) retroMakesUptoCard

/-- THE SECOND FORM's CARD OF 'paycyclelaw.RetroAhead'. -/
def retroAheadUptoCard : Claim7 := { stood := { row := retroAheadUptoRow, standIns := [], harness := (true, "7e272bfc58d0b85a2a7821a6077b77dc135ded5e55e4c543acae33d93de269ed"), looks := true }, kinds := [], alts := [], laidByText := true, laidKinds := [.data], laidTests := true, laidLooks := .later }
def RetroAheadUptoCardSaid : Prop := Claim7.holds Tryz.pinned (.plain (OpenSpec.upto retroAheadSpec)) retroAheadUptoCard

/-- THE SECOND FORM's CARD OF 'paycyclelaw.RetroOn'. -/
def retroOnUptoCard : Claim7 := { stood := { row := retroOnUptoRow, standIns := [], harness := (true, "7e272bfc58d0b85a2a7821a6077b77dc135ded5e55e4c543acae33d93de269ed"), looks := true }, kinds := [], alts := [], laidByText := true, laidKinds := [.data], laidTests := true, laidLooks := .later }
def RetroOnUptoCardSaid : Prop := Claim7.holds Tryz.pinned (.plain (OpenSpec.upto retroOnSpec)) retroOnUptoCard
end Rows
end Go.Proofs.YtonceehdmnkffaaGreatDoor
