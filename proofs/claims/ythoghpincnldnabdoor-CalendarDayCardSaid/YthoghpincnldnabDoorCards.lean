/-
  DERIVED. GIVEN WITH THE SEED: THE CARDS: each row of YthoghpincnldnabDoorRows.lean that lists a variable, with what it lists TIED to the program's text (the seventh form; the later family's looks); each row that meets fmt, with fmt's text TOLD by the authors' own Lean function (tested against real Go, not proved from fmt's source: count such statements apart). THE CARD IS WHAT COUNTS. Prove the row's statement (the work); the ties are given (YthoghpincnldnabDoorTie.lean); close each card by the builder's one call (the guide's Derived/Test/ToyasCard.lean, 'card_holds'). Laid BY PROGRAM, IN A SANDBOX (cutbox-door.mjs). By AI agents, Wed Nov 11 2026. No macro, syntax, notation, axiom, sorry.
-/
import Derived.Test.YthoghpincnldnabDoorRows
import GoSem.ClaimSeven
namespace Go.Proofs.YthoghpincnldnabDoor
namespace Rows

/-- THE TIED CARD OF 'paycyclelaw.MoneyWhole'. -/
def moneyWholeCard : Claim7 := { stood := { row := moneyWholeRow, standIns := [], harness := (true, "fca5b5f2653a4784495f196fc5a2107816f1e6a317d3dfff3c858a86b912918a"), looks := false }, kinds := [], alts := [], laidByText := true, laidKinds := [.data, .data, .data], laidTests := true, laidLooks := .later }
def MoneyWholeCardSaid : Prop := Claim7.holds Tryd.pinned (.plain (OpenSpec.ofChange moneyWholeSpec)) moneyWholeCard

/-- THE TIED CARD OF 'paycyclelaw.MoneyBack'. -/
def moneyBackCard : Claim7 := { stood := { row := moneyBackRow, standIns := [], harness := (true, "fca5b5f2653a4784495f196fc5a2107816f1e6a317d3dfff3c858a86b912918a"), looks := false }, kinds := [], alts := [], laidByText := true, laidKinds := [.data, .data, .data], laidTests := true, laidLooks := .later }
def MoneyBackCardSaid : Prop := Claim7.holds Tryd.pinned (.plain (OpenSpec.ofChange moneyBackSpec)) moneyBackCard

/-- THE TIED CARD OF 'paycyclelaw.CalendarCivil'. -/
def calendarCivilCard : Claim7 := { stood := { row := calendarCivilRow, standIns := [], harness := (true, "fca5b5f2653a4784495f196fc5a2107816f1e6a317d3dfff3c858a86b912918a"), looks := false }, kinds := [], alts := [], laidByText := true, laidKinds := [.data, .data, .data], laidTests := true, laidLooks := .later }
def CalendarCivilCardSaid : Prop := Claim7.holds Tryd.pinned (.plain (OpenSpec.ofChange calendarCivilSpec)) calendarCivilCard

/-- THE TIED CARD OF 'paycyclelaw.CalendarDay'. -/
def calendarDayCard : Claim7 := { stood := { row := calendarDayRow, standIns := [], harness := (true, "fca5b5f2653a4784495f196fc5a2107816f1e6a317d3dfff3c858a86b912918a"), looks := false }, kinds := [], alts := [], laidByText := true, laidKinds := [.data, .data, .data], laidTests := true, laidLooks := .later }
def CalendarDayCardSaid : Prop := Claim7.holds Tryd.pinned (.plain (OpenSpec.ofChange calendarDaySpec)) calendarDayCard

/-- THE TIED CARD OF 'paycyclelaw.CalendarPrints'. -/
def calendarPrintsCard : Claim7 := { stood := { row := calendarPrintsRow, standIns := [], harness := (true, "fca5b5f2653a4784495f196fc5a2107816f1e6a317d3dfff3c858a86b912918a"), looks := false }, kinds := [], alts := [], laidByText := true, laidKinds := [.data, .data, .data], laidTests := true, laidLooks := .later }
def CalendarPrintsCardSaid : Prop := Claim7.holds Tryd.pinned (.plain (OpenSpec.ofChange calendarPrintsSpec)) calendarPrintsCard

/-- THE TIED CARD OF 'paycyclelaw.CalendarReads'. -/
def calendarReadsCard : Claim7 := { stood := { row := calendarReadsRow, standIns := [], harness := (true, "fca5b5f2653a4784495f196fc5a2107816f1e6a317d3dfff3c858a86b912918a"), looks := false }, kinds := [], alts := [], laidByText := true, laidKinds := [.data, .data, .data], laidTests := true, laidLooks := .later }
def CalendarReadsCardSaid : Prop := Claim7.holds Tryd.pinned (.plain (OpenSpec.ofChange calendarReadsSpec)) calendarReadsCard

/-- THE SECOND FORM's CARD OF 'paycyclelaw.MoneyWhole'. -/
def moneyWholeUptoCard : Claim7 := { stood := { row := moneyWholeUptoRow, standIns := [], harness := (true, "fca5b5f2653a4784495f196fc5a2107816f1e6a317d3dfff3c858a86b912918a"), looks := false }, kinds := [], alts := [], laidByText := true, laidKinds := [.data, .data, .data], laidTests := true, laidLooks := .later }
def MoneyWholeUptoCardSaid : Prop := Claim7.holds Tryd.pinned (.plain (OpenSpec.upto moneyWholeSpec)) moneyWholeUptoCard

/-- THE SECOND FORM's CARD OF 'paycyclelaw.MoneyBack'. -/
def moneyBackUptoCard : Claim7 := { stood := { row := moneyBackUptoRow, standIns := [], harness := (true, "fca5b5f2653a4784495f196fc5a2107816f1e6a317d3dfff3c858a86b912918a"), looks := false }, kinds := [], alts := [], laidByText := true, laidKinds := [.data, .data, .data], laidTests := true, laidLooks := .later }
def MoneyBackUptoCardSaid : Prop := Claim7.holds Tryd.pinned (.plain (OpenSpec.upto moneyBackSpec)) moneyBackUptoCard

/-- THE SECOND FORM's CARD OF 'paycyclelaw.CalendarCivil'. -/
def calendarCivilUptoCard : Claim7 := { stood := { row := calendarCivilUptoRow, standIns := [], harness := (true, "fca5b5f2653a4784495f196fc5a2107816f1e6a317d3dfff3c858a86b912918a"), looks := false }, kinds := [], alts := [], laidByText := true, laidKinds := [.data, .data, .data], laidTests := true, laidLooks := .later }
def CalendarCivilUptoCardSaid : Prop := Claim7.holds Tryd.pinned (.plain (OpenSpec.upto calendarCivilSpec)) calendarCivilUptoCard

/-- THE SECOND FORM's CARD OF 'paycyclelaw.CalendarDay'. -/
def calendarDayUptoCard : Claim7 := { stood := { row := calendarDayUptoRow, standIns := [], harness := (true, "fca5b5f2653a4784495f196fc5a2107816f1e6a317d3dfff3c858a86b912918a"), looks := false }, kinds := [], alts := [], laidByText := true, laidKinds := [.data, .data, .data], laidTests := true, laidLooks := .later }
def CalendarDayUptoCardSaid : Prop := Claim7.holds Tryd.pinned (.plain (OpenSpec.upto calendarDaySpec)) calendarDayUptoCard

/-- THE SECOND FORM's CARD OF 'paycyclelaw.CalendarPrints'. -/
def calendarPrintsUptoCard : Claim7 := { stood := { row := calendarPrintsUptoRow, standIns := [], harness := (true, "fca5b5f2653a4784495f196fc5a2107816f1e6a317d3dfff3c858a86b912918a"), looks := false }, kinds := [], alts := [], laidByText := true, laidKinds := [.data, .data, .data], laidTests := true, laidLooks := .later }
def CalendarPrintsUptoCardSaid : Prop := Claim7.holds Tryd.pinned (.plain (OpenSpec.upto calendarPrintsSpec)) calendarPrintsUptoCard

/-- THE SECOND FORM's CARD OF 'paycyclelaw.CalendarReads'. -/
def calendarReadsUptoCard : Claim7 := { stood := { row := calendarReadsUptoRow, standIns := [], harness := (true, "fca5b5f2653a4784495f196fc5a2107816f1e6a317d3dfff3c858a86b912918a"), looks := false }, kinds := [], alts := [], laidByText := true, laidKinds := [.data, .data, .data], laidTests := true, laidLooks := .later }
def CalendarReadsUptoCardSaid : Prop := Claim7.holds Tryd.pinned (.plain (OpenSpec.upto calendarReadsSpec)) calendarReadsUptoCard
end Rows
end Go.Proofs.YthoghpincnldnabDoor
