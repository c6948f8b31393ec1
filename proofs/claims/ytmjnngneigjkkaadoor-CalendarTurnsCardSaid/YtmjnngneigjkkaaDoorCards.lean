/-
  DERIVED. GIVEN WITH THE SEED: THE CARDS: each row of YtmjnngneigjkkaaDoorRows.lean that lists a variable, with what it lists TIED to the program's text (the seventh form; the later family's looks); each row that meets fmt, with fmt's text TOLD by the authors' own Lean function (tested against real Go, not proved from fmt's source: count such statements apart). THE CARD IS WHAT COUNTS. Prove the row's statement (the work); the ties are given (YtmjnngneigjkkaaDoorTie.lean); close each card by the builder's one call (the guide's Derived/Test/ToyasCard.lean, 'card_holds'). Laid BY PROGRAM, IN A SANDBOX (cutbox-door.mjs). By AI agents, Wed Nov 11 2026. No macro, syntax, notation, axiom, sorry.
-/
import Derived.Test.YtmjnngneigjkkaaDoorRows
import GoSem.ClaimSeven
namespace Go.Proofs.YtmjnngneigjkkaaDoor
namespace Rows

/-- THE TIED CARD OF 'paycyclelaw.CalendarCivil'. -/
def calendarCivilCard : Claim7 := { stood := { row := calendarCivilRow, standIns := [], harness := (true, "c21a9894961fa0dbe265321b17f58053a7f4378c625e2c0cf7161bee0c18dae0"), looks := false }, kinds := [], alts := [], laidByText := true, laidKinds := [.data, .data, .data], laidTests := true, laidLooks := .later }
def CalendarCivilCardSaid : Prop := Claim7.holds Tryd.pinned (.plain (OpenSpec.ofChange calendarCivilSpec)) calendarCivilCard

/-- THE TIED CARD OF 'paycyclelaw.CalendarDay'. -/
def calendarDayCard : Claim7 := { stood := { row := calendarDayRow, standIns := [], harness := (true, "c21a9894961fa0dbe265321b17f58053a7f4378c625e2c0cf7161bee0c18dae0"), looks := false }, kinds := [], alts := [], laidByText := true, laidKinds := [.data, .data, .data], laidTests := true, laidLooks := .later }
def CalendarDayCardSaid : Prop := Claim7.holds Tryd.pinned (.plain (OpenSpec.ofChange calendarDaySpec)) calendarDayCard

/-- THE TIED CARD OF 'paycyclelaw.CalendarPrints'. -/
def calendarPrintsCard : Claim7 := { stood := { row := calendarPrintsRow, standIns := [], harness := (true, "c21a9894961fa0dbe265321b17f58053a7f4378c625e2c0cf7161bee0c18dae0"), looks := false }, kinds := [], alts := [], laidByText := true, laidKinds := [.data, .data, .data], laidTests := true, laidLooks := .later }
def CalendarPrintsCardSaid : Prop := Claim7.holds Tryd.pinned (.plain (OpenSpec.ofChange calendarPrintsSpec)) calendarPrintsCard

/-- THE TIED CARD OF 'paycyclelaw.CalendarReads'. -/
def calendarReadsCard : Claim7 := { stood := { row := calendarReadsRow, standIns := [], harness := (true, "c21a9894961fa0dbe265321b17f58053a7f4378c625e2c0cf7161bee0c18dae0"), looks := false }, kinds := [], alts := [], laidByText := true, laidKinds := [.data, .data, .data], laidTests := true, laidLooks := .later }
def CalendarReadsCardSaid : Prop := Claim7.holds Tryd.pinned (.plain (OpenSpec.ofChange calendarReadsSpec)) calendarReadsCard

/-- THE TIED CARD OF 'paycyclelaw.CalendarMonths'. -/
def calendarMonthsCard : Claim7 := { stood := { row := calendarMonthsRow, standIns := [], harness := (true, "c21a9894961fa0dbe265321b17f58053a7f4378c625e2c0cf7161bee0c18dae0"), looks := false }, kinds := [], alts := [], laidByText := true, laidKinds := [.data, .data, .data], laidTests := true, laidLooks := .later }
def CalendarMonthsCardSaid : Prop := Claim7.holds Tryd.pinned (.plain (OpenSpec.ofChange calendarMonthsSpec)) calendarMonthsCard

/-- THE TIED CARD OF 'paycyclelaw.CalendarWorkdays'. -/
def calendarWorkdaysCard : Claim7 := { stood := { row := calendarWorkdaysRow, standIns := [], harness := (true, "c21a9894961fa0dbe265321b17f58053a7f4378c625e2c0cf7161bee0c18dae0"), looks := false }, kinds := [], alts := [], laidByText := true, laidKinds := [.data, .data, .data], laidTests := true, laidLooks := .later }
def CalendarWorkdaysCardSaid : Prop := Claim7.holds Tryd.pinned (.plain (OpenSpec.ofChange calendarWorkdaysSpec)) calendarWorkdaysCard

/-- THE TIED CARD OF 'paycyclelaw.CalendarSeeks'. -/
def calendarSeeksCard : Claim7 := { stood := { row := calendarSeeksRow, standIns := [], harness := (true, "c21a9894961fa0dbe265321b17f58053a7f4378c625e2c0cf7161bee0c18dae0"), looks := false }, kinds := [], alts := [], laidByText := true, laidKinds := [.data, .data, .data], laidTests := true, laidLooks := .later }
def CalendarSeeksCardSaid : Prop := Claim7.holds Tryd.pinned (.plain (OpenSpec.ofChange calendarSeeksSpec)) calendarSeeksCard

/-- THE TIED CARD OF 'paycyclelaw.CalendarTurns'. -/
def calendarTurnsCard : Claim7 := { stood := { row := calendarTurnsRow, standIns := [], harness := (true, "c21a9894961fa0dbe265321b17f58053a7f4378c625e2c0cf7161bee0c18dae0"), looks := false }, kinds := [], alts := [], laidByText := true, laidKinds := [.data, .data, .data], laidTests := true, laidLooks := .later }
def CalendarTurnsCardSaid : Prop := Claim7.holds Tryd.pinned (.plain (OpenSpec.ofChange calendarTurnsSpec)) calendarTurnsCard

/-- THE TIED CARD OF 'paycyclelaw.CalendarAdds'. -/
def calendarAddsCard : Claim7 := { stood := { row := calendarAddsRow, standIns := [], harness := (true, "c21a9894961fa0dbe265321b17f58053a7f4378c625e2c0cf7161bee0c18dae0"), looks := false }, kinds := [], alts := [], laidByText := true, laidKinds := [.data, .data, .data], laidTests := true, laidLooks := .later }
def CalendarAddsCardSaid : Prop := Claim7.holds Tryd.pinned (.plain (OpenSpec.ofChange calendarAddsSpec)) calendarAddsCard

/-- THE TIED CARD OF 'paycyclelaw.CalendarSteps'. -/
def calendarStepsCard : Claim7 := { stood := { row := calendarStepsRow, standIns := [], harness := (true, "c21a9894961fa0dbe265321b17f58053a7f4378c625e2c0cf7161bee0c18dae0"), looks := false }, kinds := [], alts := [], laidByText := true, laidKinds := [.data, .data, .data], laidTests := true, laidLooks := .later }
def CalendarStepsCardSaid : Prop := Claim7.holds Tryd.pinned (.plain (OpenSpec.ofChange calendarStepsSpec)) calendarStepsCard

/-- THE SECOND FORM's CARD OF 'paycyclelaw.CalendarCivil'. -/
def calendarCivilUptoCard : Claim7 := { stood := { row := calendarCivilUptoRow, standIns := [], harness := (true, "c21a9894961fa0dbe265321b17f58053a7f4378c625e2c0cf7161bee0c18dae0"), looks := false }, kinds := [], alts := [], laidByText := true, laidKinds := [.data, .data, .data], laidTests := true, laidLooks := .later }
def CalendarCivilUptoCardSaid : Prop := Claim7.holds Tryd.pinned (.plain (OpenSpec.upto calendarCivilSpec)) calendarCivilUptoCard

/-- THE SECOND FORM's CARD OF 'paycyclelaw.CalendarDay'. -/
def calendarDayUptoCard : Claim7 := { stood := { row := calendarDayUptoRow, standIns := [], harness := (true, "c21a9894961fa0dbe265321b17f58053a7f4378c625e2c0cf7161bee0c18dae0"), looks := false }, kinds := [], alts := [], laidByText := true, laidKinds := [.data, .data, .data], laidTests := true, laidLooks := .later }
def CalendarDayUptoCardSaid : Prop := Claim7.holds Tryd.pinned (.plain (OpenSpec.upto calendarDaySpec)) calendarDayUptoCard

/-- THE SECOND FORM's CARD OF 'paycyclelaw.CalendarPrints'. -/
def calendarPrintsUptoCard : Claim7 := { stood := { row := calendarPrintsUptoRow, standIns := [], harness := (true, "c21a9894961fa0dbe265321b17f58053a7f4378c625e2c0cf7161bee0c18dae0"), looks := false }, kinds := [], alts := [], laidByText := true, laidKinds := [.data, .data, .data], laidTests := true, laidLooks := .later }
def CalendarPrintsUptoCardSaid : Prop := Claim7.holds Tryd.pinned (.plain (OpenSpec.upto calendarPrintsSpec)) calendarPrintsUptoCard

/-- THE SECOND FORM's CARD OF 'paycyclelaw.CalendarReads'. -/
def calendarReadsUptoCard : Claim7 := { stood := { row := calendarReadsUptoRow, standIns := [], harness := (true, "c21a9894961fa0dbe265321b17f58053a7f4378c625e2c0cf7161bee0c18dae0"), looks := false }, kinds := [], alts := [], laidByText := true, laidKinds := [.data, .data, .data], laidTests := true, laidLooks := .later }
def CalendarReadsUptoCardSaid : Prop := Claim7.holds Tryd.pinned (.plain (OpenSpec.upto calendarReadsSpec)) calendarReadsUptoCard

/-- THE SECOND FORM's CARD OF 'paycyclelaw.CalendarMonths'. -/
def calendarMonthsUptoCard : Claim7 := { stood := { row := calendarMonthsUptoRow, standIns := [], harness := (true, "c21a9894961fa0dbe265321b17f58053a7f4378c625e2c0cf7161bee0c18dae0"), looks := false }, kinds := [], alts := [], laidByText := true, laidKinds := [.data, .data, .data], laidTests := true, laidLooks := .later }
def CalendarMonthsUptoCardSaid : Prop := Claim7.holds Tryd.pinned (.plain (OpenSpec.upto calendarMonthsSpec)) calendarMonthsUptoCard

/-- THE SECOND FORM's CARD OF 'paycyclelaw.CalendarWorkdays'. -/
def calendarWorkdaysUptoCard : Claim7 := { stood := { row := calendarWorkdaysUptoRow, standIns := [], harness := (true, "c21a9894961fa0dbe265321b17f58053a7f4378c625e2c0cf7161bee0c18dae0"), looks := false }, kinds := [], alts := [], laidByText := true, laidKinds := [.data, .data, .data], laidTests := true, laidLooks := .later }
def CalendarWorkdaysUptoCardSaid : Prop := Claim7.holds Tryd.pinned (.plain (OpenSpec.upto calendarWorkdaysSpec)) calendarWorkdaysUptoCard

/-- THE SECOND FORM's CARD OF 'paycyclelaw.CalendarSeeks'. -/
def calendarSeeksUptoCard : Claim7 := { stood := { row := calendarSeeksUptoRow, standIns := [], harness := (true, "c21a9894961fa0dbe265321b17f58053a7f4378c625e2c0cf7161bee0c18dae0"), looks := false }, kinds := [], alts := [], laidByText := true, laidKinds := [.data, .data, .data], laidTests := true, laidLooks := .later }
def CalendarSeeksUptoCardSaid : Prop := Claim7.holds Tryd.pinned (.plain (OpenSpec.upto calendarSeeksSpec)) calendarSeeksUptoCard

/-- THE SECOND FORM's CARD OF 'paycyclelaw.CalendarTurns'. -/
def calendarTurnsUptoCard : Claim7 := { stood := { row := calendarTurnsUptoRow, standIns := [], harness := (true, "c21a9894961fa0dbe265321b17f58053a7f4378c625e2c0cf7161bee0c18dae0"), looks := false }, kinds := [], alts := [], laidByText := true, laidKinds := [.data, .data, .data], laidTests := true, laidLooks := .later }
def CalendarTurnsUptoCardSaid : Prop := Claim7.holds Tryd.pinned (.plain (OpenSpec.upto calendarTurnsSpec)) calendarTurnsUptoCard

/-- THE SECOND FORM's CARD OF 'paycyclelaw.CalendarAdds'. -/
def calendarAddsUptoCard : Claim7 := { stood := { row := calendarAddsUptoRow, standIns := [], harness := (true, "c21a9894961fa0dbe265321b17f58053a7f4378c625e2c0cf7161bee0c18dae0"), looks := false }, kinds := [], alts := [], laidByText := true, laidKinds := [.data, .data, .data], laidTests := true, laidLooks := .later }
def CalendarAddsUptoCardSaid : Prop := Claim7.holds Tryd.pinned (.plain (OpenSpec.upto calendarAddsSpec)) calendarAddsUptoCard

/-- THE SECOND FORM's CARD OF 'paycyclelaw.CalendarSteps'. -/
def calendarStepsUptoCard : Claim7 := { stood := { row := calendarStepsUptoRow, standIns := [], harness := (true, "c21a9894961fa0dbe265321b17f58053a7f4378c625e2c0cf7161bee0c18dae0"), looks := false }, kinds := [], alts := [], laidByText := true, laidKinds := [.data, .data, .data], laidTests := true, laidLooks := .later }
def CalendarStepsUptoCardSaid : Prop := Claim7.holds Tryd.pinned (.plain (OpenSpec.upto calendarStepsSpec)) calendarStepsUptoCard
end Rows
end Go.Proofs.YtmjnngneigjkkaaDoor
