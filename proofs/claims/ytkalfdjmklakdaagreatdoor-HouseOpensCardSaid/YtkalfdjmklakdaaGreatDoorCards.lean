/-
  DERIVED. GIVEN WITH THE SEED: THE CARDS: each row of YtkalfdjmklakdaaGreatDoorRows.lean that lists a variable, with what it lists TIED to the program's text (the seventh form; the later family's looks); each row that meets fmt, with fmt's text TOLD by the authors' own Lean function (tested against real Go, not proved from fmt's source: count such statements apart). THE CARD IS WHAT COUNTS. Prove the row's statement (the work); the ties are given (YtkalfdjmklakdaaGreatDoorTie.lean); close each card by the builder's one call (the guide's Derived/Test/ToyasCard.lean, 'card_holds'). Laid BY PROGRAM, IN A SANDBOX (cutbox-door.mjs). By AI agents, Wed Nov 11 2026. No macro, syntax, notation, axiom, sorry.
-/
import Derived.Test.YtkalfdjmklakdaaGreatDoorRows
import GoSem.ClaimSeven
namespace Go.Proofs.YtkalfdjmklakdaaGreatDoor
namespace Rows

/-- THE TIED CARD OF 'paycyclelaw.HouseChecks'. -/
def houseChecksCard : Claim7 := { stood := { row := houseChecksRow, standIns := [], harness := (true, "6f4c69c5b80c7377f4ea3d67ea847a3b422102e594ecdca478c92b7142fc8512"), looks := false }, kinds := [], alts := [], laidByText := true, laidKinds := [.data, .data, .data, .data], laidTests := true, laidLooks := .later }
def HouseChecksCardSaid : Prop := Claim7.holds Tryz.pinned (.plain (OpenSpec.ofChange houseChecksSpec)) houseChecksCard

/-- THE TIED CARD OF 'paycyclelaw.HouseOpens'. -/
def houseOpensCard : Claim7 := { stood := { row := houseOpensRow, standIns := [], harness := (true, "6f4c69c5b80c7377f4ea3d67ea847a3b422102e594ecdca478c92b7142fc8512"), looks := false }, kinds := [], alts := [], laidByText := true, laidKinds := [.data, .data, .data, .data], laidTests := true, laidLooks := .later }
def HouseOpensCardSaid : Prop := Claim7.holds Tryz.pinned (.plain (OpenSpec.ofChange houseOpensSpec)) houseOpensCard

/-- THE TIED CARD OF 'paycyclelaw.HouseVoids'. -/
def houseVoidsCard : Claim7 := { stood := { row := houseVoidsRow, standIns := [], harness := (true, "6f4c69c5b80c7377f4ea3d67ea847a3b422102e594ecdca478c92b7142fc8512"), looks := false }, kinds := [], alts := [], laidByText := true, laidKinds := [.data, .data, .data, .data], laidTests := true, laidLooks := .later }
def HouseVoidsCardSaid : Prop := Claim7.holds Tryz.pinned (.plain (OpenSpec.ofChange houseVoidsSpec)) houseVoidsCard

/-- THE TIED CARD OF 'paycyclelaw.HouseChanges'. -/
def houseChangesCard : Claim7 := { stood := { row := houseChangesRow, standIns := [], harness := (true, "6f4c69c5b80c7377f4ea3d67ea847a3b422102e594ecdca478c92b7142fc8512"), looks := false }, kinds := [], alts := [], laidByText := true, laidKinds := [.data, .data, .data, .data], laidTests := true, laidLooks := .later }
def HouseChangesCardSaid : Prop := Claim7.holds Tryz.pinned (.plain (OpenSpec.ofChange houseChangesSpec)) houseChangesCard

/-- THE SECOND FORM's CARD OF 'paycyclelaw.HouseChecks'. -/
def houseChecksUptoCard : Claim7 := { stood := { row := houseChecksUptoRow, standIns := [], harness := (true, "6f4c69c5b80c7377f4ea3d67ea847a3b422102e594ecdca478c92b7142fc8512"), looks := false }, kinds := [], alts := [], laidByText := true, laidKinds := [.data, .data, .data, .data], laidTests := true, laidLooks := .later }
def HouseChecksUptoCardSaid : Prop := Claim7.holds Tryz.pinned (.plain (OpenSpec.upto houseChecksSpec)) houseChecksUptoCard

/-- THE SECOND FORM's CARD OF 'paycyclelaw.HouseOpens'. -/
def houseOpensUptoCard : Claim7 := { stood := { row := houseOpensUptoRow, standIns := [], harness := (true, "6f4c69c5b80c7377f4ea3d67ea847a3b422102e594ecdca478c92b7142fc8512"), looks := false }, kinds := [], alts := [], laidByText := true, laidKinds := [.data, .data, .data, .data], laidTests := true, laidLooks := .later }
def HouseOpensUptoCardSaid : Prop := Claim7.holds Tryz.pinned (.plain (OpenSpec.upto houseOpensSpec)) houseOpensUptoCard

/-- THE SECOND FORM's CARD OF 'paycyclelaw.HouseVoids'. -/
def houseVoidsUptoCard : Claim7 := { stood := { row := houseVoidsUptoRow, standIns := [], harness := (true, "6f4c69c5b80c7377f4ea3d67ea847a3b422102e594ecdca478c92b7142fc8512"), looks := false }, kinds := [], alts := [], laidByText := true, laidKinds := [.data, .data, .data, .data], laidTests := true, laidLooks := .later }
def HouseVoidsUptoCardSaid : Prop := Claim7.holds Tryz.pinned (.plain (OpenSpec.upto houseVoidsSpec)) houseVoidsUptoCard

/-- THE SECOND FORM's CARD OF 'paycyclelaw.HouseChanges'. -/
def houseChangesUptoCard : Claim7 := { stood := { row := houseChangesUptoRow, standIns := [], harness := (true, "6f4c69c5b80c7377f4ea3d67ea847a3b422102e594ecdca478c92b7142fc8512"), looks := false }, kinds := [], alts := [], laidByText := true, laidKinds := [.data, .data, .data, .data], laidTests := true, laidLooks := .later }
def HouseChangesUptoCardSaid : Prop := Claim7.holds Tryz.pinned (.plain (OpenSpec.upto houseChangesSpec)) houseChangesUptoCard
end Rows
end Go.Proofs.YtkalfdjmklakdaaGreatDoor
