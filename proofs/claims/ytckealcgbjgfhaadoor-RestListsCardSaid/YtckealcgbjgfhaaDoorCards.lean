/-
  DERIVED. GIVEN WITH THE SEED: THE CARDS: each row of YtckealcgbjgfhaaDoorRows.lean that lists a variable, with what it lists TIED to the program's text (the seventh form; the later family's looks); each row that meets fmt, with fmt's text TOLD by the authors' own Lean function (tested against real Go, not proved from fmt's source: count such statements apart). THE CARD IS WHAT COUNTS. Prove the row's statement (the work); the ties are given (YtckealcgbjgfhaaDoorTie.lean); close each card by the builder's one call (the guide's Derived/Test/ToyasCard.lean, 'card_holds'). Laid BY PROGRAM, IN A SANDBOX (cutbox-door.mjs). By AI agents, Wed Nov 11 2026. No macro, syntax, notation, axiom, sorry.
-/
import Derived.Test.YtckealcgbjgfhaaDoorRows
import GoSem.ClaimSeven
namespace Go.Proofs.YtckealcgbjgfhaaDoor
namespace Rows

/-- THE TIED CARD OF 'paycyclelaw.RestLists'. -/
def restListsCard : Claim7 := { stood := { row := restListsRow, standIns := [], harness := (true, "44337f13dd619efda65d9a511fd5c8c6dabb52d5350b106c3c33c260fb3c42c4"), looks := false }, kinds := [], alts := [], laidByText := true, laidKinds := [.data, .data, .data], laidTests := true, laidLooks := .later }
def RestListsCardSaid : Prop := Claim7.holds Tryd.pinned (.plain (OpenSpec.ofChange restListsSpec)) restListsCard

/-- THE SECOND FORM's CARD OF 'paycyclelaw.RestLists'. -/
def restListsUptoCard : Claim7 := { stood := { row := restListsUptoRow, standIns := [], harness := (true, "44337f13dd619efda65d9a511fd5c8c6dabb52d5350b106c3c33c260fb3c42c4"), looks := false }, kinds := [], alts := [], laidByText := true, laidKinds := [.data, .data, .data], laidTests := true, laidLooks := .later }
def RestListsUptoCardSaid : Prop := Claim7.holds Tryd.pinned (.plain (OpenSpec.upto restListsSpec)) restListsUptoCard
end Rows
end Go.Proofs.YtckealcgbjgfhaaDoor
