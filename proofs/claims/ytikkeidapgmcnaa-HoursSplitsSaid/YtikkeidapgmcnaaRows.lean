/-
  No cell of these rows narrows 'for every input' (looked for: loops, veiled, ifaces, maps, wideKeys, modest, calm, conditions, laid).
  DERIVED. THE GIVEN ROWS OF THIS SEAT. 7 by the template 'for every input the law returns true; each argument reads behind the call as it read before'; 0 by the template 'total and deterministic' (their statements: YtikkeidapgmcnaaTotals.lean).
  GIVEN WITH THE SEED: the statements are not yours to turn. If you find one false, say at which input.
  Laid BY PROGRAM, IN A SANDBOX (cutbox-rows.mjs): the forced cells as the released guide's own fill.sh prints them over the translation 240671f0e865a82c… (all of the seat's roots in one cut). By AI agents, Wed Nov 11 2026. No macro, syntax, notation, axiom, sorry.
-/
import Derived.Test.YtikkeidapgmcnaaChecked
import GoSem.Claim
import GoSem.ClaimJoined
import GoSem.ClaimMapViews
import Derived.JoinedTies
import Derived.KernelRfl
namespace Go.Proofs.Ytikkeidapgmcnaa
/- THE CELL 'sum', in the pinned program and in every row, IS THE sha256 OF THE DUMP (.gsa) THAT YtikkeidapgmcnaaProg.lean LOADS. Nothing in Lean hashes anything: it is a label: what it is worth is what the hold of that sum in a sandbox is worth. -/
noncomputable def Try.pinned : Pinned := { name := "ytikkeidapgmcnaa", sum := "240671f0e865a82c9530f322d0e50f665e8b5afd3249609aee8ef9cb682c9fcc", checked := Try.checked }
namespace Rows
def none {H : Type} : Left H := { results := [], args := [] }

/-- 'paycyclelaw.HoursPairs': WHATEVER THE INPUT: true; the input reads as it did. -/
def hoursPairsSpec : ChangeSpec := { name := "hoursPairs", fn := fun _ => fun
  | [d] => { results := [.lit (.bool true)], args := [d] }
  | _ => none }
def hoursPairsRow : OpenClaim := { program := "ytikkeidapgmcnaa", sum := "240671f0e865a82c9530f322d0e50f665e8b5afd3249609aee8ef9cb682c9fcc", func := "paycycle/paycyclelaw.HoursPairs", spec := "hoursPairs", unfollowed := true, recurses := true, apart := false }
def HoursPairsSaid : Prop := hoursPairsRow.holds Try.pinned (OpenSpec.ofChange hoursPairsSpec)

/-- ITS FALSE NEIGHBOUR: 'it returns false'. Refute it at one input. -/
def hoursPairsWrong : ChangeSpec := { name := "hoursPairs", fn := fun _ => fun
  | [d] => { results := [.lit (.bool false)], args := [d] }
  | _ => none }
def HoursPairsWrongFalsely : Prop := hoursPairsRow.holds Try.pinned (OpenSpec.ofChange hoursPairsWrong)

/-- 'paycyclelaw.HoursWorked': WHATEVER THE INPUT: true; the input reads as it did. -/
def hoursWorkedSpec : ChangeSpec := { name := "hoursWorked", fn := fun _ => fun
  | [d1, d2, d3] => { results := [.lit (.bool true)], args := [d1, d2, d3] }
  | _ => none }
def hoursWorkedRow : OpenClaim := { program := "ytikkeidapgmcnaa", sum := "240671f0e865a82c9530f322d0e50f665e8b5afd3249609aee8ef9cb682c9fcc", func := "paycycle/paycyclelaw.HoursWorked", spec := "hoursWorked", unfollowed := true, recurses := true, apart := false }
def HoursWorkedSaid : Prop := hoursWorkedRow.holds Try.pinned (OpenSpec.ofChange hoursWorkedSpec)

/-- ITS FALSE NEIGHBOUR: 'it returns false'. Refute it at one input. -/
def hoursWorkedWrong : ChangeSpec := { name := "hoursWorked", fn := fun _ => fun
  | [d1, d2, d3] => { results := [.lit (.bool false)], args := [d1, d2, d3] }
  | _ => none }
def HoursWorkedWrongFalsely : Prop := hoursWorkedRow.holds Try.pinned (OpenSpec.ofChange hoursWorkedWrong)

/-- 'paycyclelaw.HoursWithin': WHATEVER THE INPUT: true; the input reads as it did. -/
def hoursWithinSpec : ChangeSpec := { name := "hoursWithin", fn := fun _ => fun
  | [d1, d2, d3] => { results := [.lit (.bool true)], args := [d1, d2, d3] }
  | _ => none }
def hoursWithinRow : OpenClaim := { program := "ytikkeidapgmcnaa", sum := "240671f0e865a82c9530f322d0e50f665e8b5afd3249609aee8ef9cb682c9fcc", func := "paycycle/paycyclelaw.HoursWithin", spec := "hoursWithin", unfollowed := true, recurses := true, apart := false }
def HoursWithinSaid : Prop := hoursWithinRow.holds Try.pinned (OpenSpec.ofChange hoursWithinSpec)

/-- ITS FALSE NEIGHBOUR: 'it returns false'. Refute it at one input. -/
def hoursWithinWrong : ChangeSpec := { name := "hoursWithin", fn := fun _ => fun
  | [d1, d2, d3] => { results := [.lit (.bool false)], args := [d1, d2, d3] }
  | _ => none }
def HoursWithinWrongFalsely : Prop := hoursWithinRow.holds Try.pinned (OpenSpec.ofChange hoursWithinWrong)

/-- 'paycyclelaw.HoursSplits': WHATEVER THE INPUT: true; the input reads as it did. -/
def hoursSplitsSpec : ChangeSpec := { name := "hoursSplits", fn := fun _ => fun
  | [d1, d2] => { results := [.lit (.bool true)], args := [d1, d2] }
  | _ => none }
def hoursSplitsRow : OpenClaim := { program := "ytikkeidapgmcnaa", sum := "240671f0e865a82c9530f322d0e50f665e8b5afd3249609aee8ef9cb682c9fcc", func := "paycycle/paycyclelaw.HoursSplits", spec := "hoursSplits", unfollowed := true, recurses := true, apart := false }
def HoursSplitsSaid : Prop := hoursSplitsRow.holds Try.pinned (OpenSpec.ofChange hoursSplitsSpec)

/-- ITS FALSE NEIGHBOUR: 'it returns false'. Refute it at one input. -/
def hoursSplitsWrong : ChangeSpec := { name := "hoursSplits", fn := fun _ => fun
  | [d1, d2] => { results := [.lit (.bool false)], args := [d1, d2] }
  | _ => none }
def HoursSplitsWrongFalsely : Prop := hoursSplitsRow.holds Try.pinned (OpenSpec.ofChange hoursSplitsWrong)

/-- 'paycyclelaw.HoursWhole': WHATEVER THE INPUT: true; the input reads as it did. -/
def hoursWholeSpec : ChangeSpec := { name := "hoursWhole", fn := fun _ => fun
  | [d1, d2] => { results := [.lit (.bool true)], args := [d1, d2] }
  | _ => none }
def hoursWholeRow : OpenClaim := { program := "ytikkeidapgmcnaa", sum := "240671f0e865a82c9530f322d0e50f665e8b5afd3249609aee8ef9cb682c9fcc", func := "paycycle/paycyclelaw.HoursWhole", spec := "hoursWhole", unfollowed := true, recurses := true, apart := false }
def HoursWholeSaid : Prop := hoursWholeRow.holds Try.pinned (OpenSpec.ofChange hoursWholeSpec)

/-- ITS FALSE NEIGHBOUR: 'it returns false'. Refute it at one input. -/
def hoursWholeWrong : ChangeSpec := { name := "hoursWhole", fn := fun _ => fun
  | [d1, d2] => { results := [.lit (.bool false)], args := [d1, d2] }
  | _ => none }
def HoursWholeWrongFalsely : Prop := hoursWholeRow.holds Try.pinned (OpenSpec.ofChange hoursWholeWrong)

/-- 'paycyclelaw.HoursMore': WHATEVER THE INPUT: true; the input reads as it did. -/
def hoursMoreSpec : ChangeSpec := { name := "hoursMore", fn := fun _ => fun
  | [d1, d2, d3, d4] => { results := [.lit (.bool true)], args := [d1, d2, d3, d4] }
  | _ => none }
def hoursMoreRow : OpenClaim := { program := "ytikkeidapgmcnaa", sum := "240671f0e865a82c9530f322d0e50f665e8b5afd3249609aee8ef9cb682c9fcc", func := "paycycle/paycyclelaw.HoursMore", spec := "hoursMore", unfollowed := true, recurses := true, apart := false }
def HoursMoreSaid : Prop := hoursMoreRow.holds Try.pinned (OpenSpec.ofChange hoursMoreSpec)

/-- ITS FALSE NEIGHBOUR: 'it returns false'. Refute it at one input. -/
def hoursMoreWrong : ChangeSpec := { name := "hoursMore", fn := fun _ => fun
  | [d1, d2, d3, d4] => { results := [.lit (.bool false)], args := [d1, d2, d3, d4] }
  | _ => none }
def HoursMoreWrongFalsely : Prop := hoursMoreRow.holds Try.pinned (OpenSpec.ofChange hoursMoreWrong)

/-- 'paycyclelaw.HoursParts': WHATEVER THE INPUT: true; the input reads as it did. -/
def hoursPartsSpec : ChangeSpec := { name := "hoursParts", fn := fun _ => fun
  | [d1, d2, d3, d4] => { results := [.lit (.bool true)], args := [d1, d2, d3, d4] }
  | _ => none }
def hoursPartsRow : OpenClaim := { program := "ytikkeidapgmcnaa", sum := "240671f0e865a82c9530f322d0e50f665e8b5afd3249609aee8ef9cb682c9fcc", func := "paycycle/paycyclelaw.HoursParts", spec := "hoursParts", unfollowed := true, recurses := true, apart := false }
def HoursPartsSaid : Prop := hoursPartsRow.holds Try.pinned (OpenSpec.ofChange hoursPartsSpec)

/-- ITS FALSE NEIGHBOUR: 'it returns false'. Refute it at one input. -/
def hoursPartsWrong : ChangeSpec := { name := "hoursParts", fn := fun _ => fun
  | [d1, d2, d3, d4] => { results := [.lit (.bool false)], args := [d1, d2, d3, d4] }
  | _ => none }
def HoursPartsWrongFalsely : Prop := hoursPartsRow.holds Try.pinned (OpenSpec.ofChange hoursPartsWrong)

/- THE SECOND FORM. 'bulk': how many values and letters a reading holds, each counted each time it is reached (what is shared counts as often as it is met; a slice's spare places count too). A statement '..UptoSaid' is the law's where the arguments, and the package variables that the reading takes, are together of bulk at most 1048576: NARROWER than '..Said'. Prove '..Said' where nothing that the law and all that it calls make is longer than what came in: it says more and counts as full. Else prove '..UptoSaid'. A law counts once. -/
mutual
def uptoBulk {H : Type} : DataW H → Nat
  | .lit (.string bytes) => bytes.length + 1
  | .lit _ => 1
  | .nil => 1
  | .ptr d => uptoBulk d + 1
  | .slice elems spare => uptoBulkAll elems + uptoBulkAll spare + 1
  | .agg parts => uptoBulkAll parts + 1
  | .iface _ d => uptoBulk d + 1
  | .map entries => uptoBulkEntries entries + 1
  | .held _ => 1
def uptoBulkAll {H : Type} : List (DataW H) → Nat
  | [] => 0
  | d :: r => uptoBulk d + uptoBulkAll r
def uptoBulkEntries {H : Type} : List (Lit × DataW H) → Nat
  | [] => 0
  | x :: r => uptoBulkEntry x + uptoBulkEntries r
def uptoBulkEntry {H : Type} : Lit × DataW H → Nat
  | (.string bytes, d) => bytes.length + uptoBulk d + 1
  | (_, d) => uptoBulk d + 1
 end
def uptoSmall : (H : Type) → List (DataW H) → Bool := fun _ ds => decide (uptoBulkAll ds ≤ 1048576)
def OpenSpec.upto (s : _root_.Go.ChangeSpec) : _root_.Go.OpenSpec := { _root_.Go.OpenSpec.ofChange s with cond := some uptoSmall }

/-- 'paycyclelaw.HoursPairs', WHERE WHAT IT READS IS OF BULK AT MOST 1048576: true; the input reads as it did. -/
def hoursPairsUptoRow : OpenClaim := { program := "ytikkeidapgmcnaa", sum := "240671f0e865a82c9530f322d0e50f665e8b5afd3249609aee8ef9cb682c9fcc", func := "paycycle/paycyclelaw.HoursPairs", spec := "hoursPairs", unfollowed := true, recurses := true, apart := false, narrowed := true }
def HoursPairsUptoSaid : Prop := hoursPairsUptoRow.holds Try.pinned (OpenSpec.upto hoursPairsSpec)

/-- 'paycyclelaw.HoursWorked', WHERE WHAT IT READS IS OF BULK AT MOST 1048576: true; the input reads as it did. -/
def hoursWorkedUptoRow : OpenClaim := { program := "ytikkeidapgmcnaa", sum := "240671f0e865a82c9530f322d0e50f665e8b5afd3249609aee8ef9cb682c9fcc", func := "paycycle/paycyclelaw.HoursWorked", spec := "hoursWorked", unfollowed := true, recurses := true, apart := false, narrowed := true }
def HoursWorkedUptoSaid : Prop := hoursWorkedUptoRow.holds Try.pinned (OpenSpec.upto hoursWorkedSpec)

/-- 'paycyclelaw.HoursWithin', WHERE WHAT IT READS IS OF BULK AT MOST 1048576: true; the input reads as it did. -/
def hoursWithinUptoRow : OpenClaim := { program := "ytikkeidapgmcnaa", sum := "240671f0e865a82c9530f322d0e50f665e8b5afd3249609aee8ef9cb682c9fcc", func := "paycycle/paycyclelaw.HoursWithin", spec := "hoursWithin", unfollowed := true, recurses := true, apart := false, narrowed := true }
def HoursWithinUptoSaid : Prop := hoursWithinUptoRow.holds Try.pinned (OpenSpec.upto hoursWithinSpec)

/-- 'paycyclelaw.HoursSplits', WHERE WHAT IT READS IS OF BULK AT MOST 1048576: true; the input reads as it did. -/
def hoursSplitsUptoRow : OpenClaim := { program := "ytikkeidapgmcnaa", sum := "240671f0e865a82c9530f322d0e50f665e8b5afd3249609aee8ef9cb682c9fcc", func := "paycycle/paycyclelaw.HoursSplits", spec := "hoursSplits", unfollowed := true, recurses := true, apart := false, narrowed := true }
def HoursSplitsUptoSaid : Prop := hoursSplitsUptoRow.holds Try.pinned (OpenSpec.upto hoursSplitsSpec)

/-- 'paycyclelaw.HoursWhole', WHERE WHAT IT READS IS OF BULK AT MOST 1048576: true; the input reads as it did. -/
def hoursWholeUptoRow : OpenClaim := { program := "ytikkeidapgmcnaa", sum := "240671f0e865a82c9530f322d0e50f665e8b5afd3249609aee8ef9cb682c9fcc", func := "paycycle/paycyclelaw.HoursWhole", spec := "hoursWhole", unfollowed := true, recurses := true, apart := false, narrowed := true }
def HoursWholeUptoSaid : Prop := hoursWholeUptoRow.holds Try.pinned (OpenSpec.upto hoursWholeSpec)

/-- 'paycyclelaw.HoursMore', WHERE WHAT IT READS IS OF BULK AT MOST 1048576: true; the input reads as it did. -/
def hoursMoreUptoRow : OpenClaim := { program := "ytikkeidapgmcnaa", sum := "240671f0e865a82c9530f322d0e50f665e8b5afd3249609aee8ef9cb682c9fcc", func := "paycycle/paycyclelaw.HoursMore", spec := "hoursMore", unfollowed := true, recurses := true, apart := false, narrowed := true }
def HoursMoreUptoSaid : Prop := hoursMoreUptoRow.holds Try.pinned (OpenSpec.upto hoursMoreSpec)

/-- 'paycyclelaw.HoursParts', WHERE WHAT IT READS IS OF BULK AT MOST 1048576: true; the input reads as it did. -/
def hoursPartsUptoRow : OpenClaim := { program := "ytikkeidapgmcnaa", sum := "240671f0e865a82c9530f322d0e50f665e8b5afd3249609aee8ef9cb682c9fcc", func := "paycycle/paycyclelaw.HoursParts", spec := "hoursParts", unfollowed := true, recurses := true, apart := false, narrowed := true }
def HoursPartsUptoSaid : Prop := hoursPartsUptoRow.holds Try.pinned (OpenSpec.upto hoursPartsSpec)

end Rows
end Go.Proofs.Ytikkeidapgmcnaa
