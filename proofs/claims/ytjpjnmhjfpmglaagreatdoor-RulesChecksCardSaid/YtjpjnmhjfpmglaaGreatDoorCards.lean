/-
  DERIVED. GIVEN WITH THE SEED: THE CARDS: each row of YtjpjnmhjfpmglaaGreatDoorRows.lean that lists a variable, with what it lists TIED to the program's text (the seventh form; the later family's looks); each row that meets fmt, with fmt's text TOLD by the authors' own Lean function (tested against real Go, not proved from fmt's source: count such statements apart). THE CARD IS WHAT COUNTS. Prove the row's statement (the work); the ties are given (YtjpjnmhjfpmglaaGreatDoorTie.lean); close each card by the builder's one call (the guide's Derived/Test/ToyasCard.lean, 'card_holds'). Laid BY PROGRAM, IN A SANDBOX (cutbox-door.mjs). By AI agents, Wed Nov 11 2026. No macro, syntax, notation, axiom, sorry.
-/
import Derived.Test.YtjpjnmhjfpmglaaGreatDoorRows
import GoSem.ClaimSeven
namespace Go.Proofs.YtjpjnmhjfpmglaaGreatDoor
namespace Rows

/-- THE TIED CARD OF 'paycyclelaw.RulesChecks'. -/
def rulesChecksCard : Claim7 := { stood := { row := rulesChecksRow, standIns := [], harness := (true, "afdfd6aab90f78788904a5605c98ef65bf8ecd32289b9910070ac09ca16e9a47"), looks := true }, kinds := [], alts := [], laidByText := true, laidKinds := [.data, .data, .data, .sentinel, .sentinel, .data, .data, .data], laidTests := true, laidLooks := .later }
def RulesChecksCardSaid : Prop := Claim7.holds Tryz.pinned (.plain (OpenSpec.ofChange rulesChecksSpec)) rulesChecksCard

/-- THE TIED CARD OF 'paycyclelaw.ValueLines'. -/
def valueLinesCard : Claim7 := { stood := { row := valueLinesRow, standIns := [], harness := (true, "afdfd6aab90f78788904a5605c98ef65bf8ecd32289b9910070ac09ca16e9a47"), looks := true }, kinds := [], alts := [], laidByText := true, laidKinds := [.data, .data, .data, .sentinel, .sentinel, .data, .data, .data], laidTests := true, laidLooks := .later }
def ValueLinesCardSaid : Prop := Claim7.holds Tryz.pinned (.plain (OpenSpec.ofChange valueLinesSpec)) valueLinesCard

/-- THE TIED CARD OF 'paycyclelaw.ValueHangs'. -/
def valueHangsCard : Claim7 := { stood := { row := valueHangsRow, standIns := [], harness := (true, "afdfd6aab90f78788904a5605c98ef65bf8ecd32289b9910070ac09ca16e9a47"), looks := true }, kinds := [], alts := [], laidByText := true, laidKinds := [.data, .data, .data, .sentinel, .sentinel, .data, .data, .data], laidTests := true, laidLooks := .later }
def ValueHangsCardSaid : Prop := Claim7.holds Tryz.pinned (.plain (OpenSpec.ofChange valueHangsSpec)) valueHangsCard

/-- THE TIED CARD OF 'paycyclelaw.ValueAhead'. -/
def valueAheadCard : Claim7 := { stood := { row := valueAheadRow, standIns := [], harness := (true, "afdfd6aab90f78788904a5605c98ef65bf8ecd32289b9910070ac09ca16e9a47"), looks := true }, kinds := [], alts := [], laidByText := true, laidKinds := [.data, .data, .data, .sentinel, .sentinel, .data, .data, .data], laidTests := true, laidLooks := .later }
def ValueAheadCardSaid : Prop := Claim7.holds Tryz.pinned (.plain (OpenSpec.ofChange valueAheadSpec)) valueAheadCard

/-- THE SECOND FORM's CARD OF 'paycyclelaw.RulesChecks'. -/
def rulesChecksUptoCard : Claim7 := { stood := { row := rulesChecksUptoRow, standIns := [], harness := (true, "afdfd6aab90f78788904a5605c98ef65bf8ecd32289b9910070ac09ca16e9a47"), looks := true }, kinds := [], alts := [], laidByText := true, laidKinds := [.data, .data, .data, .sentinel, .sentinel, .data, .data, .data], laidTests := true, laidLooks := .later }
def RulesChecksUptoCardSaid : Prop := Claim7.holds Tryz.pinned (.plain (OpenSpec.upto rulesChecksSpec)) rulesChecksUptoCard

/-- THE SECOND FORM's CARD OF 'paycyclelaw.ValueLines'. -/
def valueLinesUptoCard : Claim7 := { stood := { row := valueLinesUptoRow, standIns := [], harness := (true, "afdfd6aab90f78788904a5605c98ef65bf8ecd32289b9910070ac09ca16e9a47"), looks := true }, kinds := [], alts := [], laidByText := true, laidKinds := [.data, .data, .data, .sentinel, .sentinel, .data, .data, .data], laidTests := true, laidLooks := .later }
def ValueLinesUptoCardSaid : Prop := Claim7.holds Tryz.pinned (.plain (OpenSpec.upto valueLinesSpec)) valueLinesUptoCard

/-- THE SECOND FORM's CARD OF 'paycyclelaw.ValueHangs'. -/
def valueHangsUptoCard : Claim7 := { stood := { row := valueHangsUptoRow, standIns := [], harness := (true, "afdfd6aab90f78788904a5605c98ef65bf8ecd32289b9910070ac09ca16e9a47"), looks := true }, kinds := [], alts := [], laidByText := true, laidKinds := [.data, .data, .data, .sentinel, .sentinel, .data, .data, .data], laidTests := true, laidLooks := .later }
def ValueHangsUptoCardSaid : Prop := Claim7.holds Tryz.pinned (.plain (OpenSpec.upto valueHangsSpec)) valueHangsUptoCard

/-- THE SECOND FORM's CARD OF 'paycyclelaw.ValueAhead'. -/
def valueAheadUptoCard : Claim7 := { stood := { row := valueAheadUptoRow, standIns := [], harness := (true, "afdfd6aab90f78788904a5605c98ef65bf8ecd32289b9910070ac09ca16e9a47"), looks := true }, kinds := [], alts := [], laidByText := true, laidKinds := [.data, .data, .data, .sentinel, .sentinel, .data, .data, .data], laidTests := true, laidLooks := .later }
def ValueAheadUptoCardSaid : Prop := Claim7.holds Tryz.pinned (.plain (OpenSpec.upto valueAheadSpec)) valueAheadUptoCard
end Rows
end Go.Proofs.YtjpjnmhjfpmglaaGreatDoor
