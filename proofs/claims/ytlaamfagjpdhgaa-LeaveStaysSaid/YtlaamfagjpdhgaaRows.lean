/-
  No cell of these rows narrows 'for every input' (looked for: loops, veiled, ifaces, maps, wideKeys, modest, calm, conditions, laid).
  DERIVED. THE GIVEN ROWS OF THIS SEAT. 11 by the template 'for every input the law returns true; each argument reads behind the call as it read before'; 0 by the template 'total and deterministic' (their statements: YtlaamfagjpdhgaaTotals.lean).
  GIVEN WITH THE SEED: the statements are not yours to turn. If you find one false, say at which input.
  Laid BY PROGRAM, IN A SANDBOX (cutbox-rows.mjs): the forced cells as the released guide's own fill.sh prints them over the translation 3da7bf849d78455a… (all of the seat's roots in one cut). By AI agents, Wed Nov 11 2026. No macro, syntax, notation, axiom, sorry.
-/
import Derived.Test.YtlaamfagjpdhgaaChecked
import GoSem.Claim
import GoSem.ClaimJoined
import GoSem.ClaimMapViews
import Derived.JoinedTies
import Derived.KernelRfl
namespace Go.Proofs.Ytlaamfagjpdhgaa
/- THE CELL 'sum', in the pinned program and in every row, IS THE sha256 OF THE DUMP (.gsa) THAT YtlaamfagjpdhgaaProg.lean LOADS. Nothing in Lean hashes anything: it is a label: what it is worth is what the hold of that sum in a sandbox is worth. -/
noncomputable def Try.pinned : Pinned := { name := "ytlaamfagjpdhgaa", sum := "3da7bf849d78455ab1867c9e05570cbef47f3d1b955ee4cd77a9f3d6894ee634", checked := Try.checked }
namespace Rows
def none {H : Type} : Left H := { results := [], args := [] }

/-- 'paycyclelaw.PeriodChecks': WHATEVER THE INPUT: true; the input reads as it did. -/
def periodChecksSpec : ChangeSpec := { name := "periodChecks", fn := fun _ => fun
  | [d] => { results := [.lit (.bool true)], args := [d] }
  | _ => none }
def periodChecksRow : OpenClaim := { program := "ytlaamfagjpdhgaa", sum := "3da7bf849d78455ab1867c9e05570cbef47f3d1b955ee4cd77a9f3d6894ee634", func := "paycycle/paycyclelaw.PeriodChecks", spec := "periodChecks", apart := false }
def PeriodChecksSaid : Prop := periodChecksRow.holds Try.pinned (OpenSpec.ofChange periodChecksSpec)

/-- ITS FALSE NEIGHBOUR: 'it returns false'. Refute it at one input. -/
def periodChecksWrong : ChangeSpec := { name := "periodChecks", fn := fun _ => fun
  | [d] => { results := [.lit (.bool false)], args := [d] }
  | _ => none }
def PeriodChecksWrongFalsely : Prop := periodChecksRow.holds Try.pinned (OpenSpec.ofChange periodChecksWrong)

/-- 'paycyclelaw.PeriodAt': WHATEVER THE INPUT: true; the input reads as it did. -/
def periodAtSpec : ChangeSpec := { name := "periodAt", fn := fun _ => fun
  | [d1, d2] => { results := [.lit (.bool true)], args := [d1, d2] }
  | _ => none }
def periodAtRow : OpenClaim := { program := "ytlaamfagjpdhgaa", sum := "3da7bf849d78455ab1867c9e05570cbef47f3d1b955ee4cd77a9f3d6894ee634", func := "paycycle/paycyclelaw.PeriodAt", spec := "periodAt", apart := false }
def PeriodAtSaid : Prop := periodAtRow.holds Try.pinned (OpenSpec.ofChange periodAtSpec)

/-- ITS FALSE NEIGHBOUR: 'it returns false'. Refute it at one input. -/
def periodAtWrong : ChangeSpec := { name := "periodAt", fn := fun _ => fun
  | [d1, d2] => { results := [.lit (.bool false)], args := [d1, d2] }
  | _ => none }
def PeriodAtWrongFalsely : Prop := periodAtRow.holds Try.pinned (OpenSpec.ofChange periodAtWrong)

/-- 'paycyclelaw.PeriodWhich': WHATEVER THE INPUT: true; the input reads as it did. -/
def periodWhichSpec : ChangeSpec := { name := "periodWhich", fn := fun _ => fun
  | [d1, d2] => { results := [.lit (.bool true)], args := [d1, d2] }
  | _ => none }
def periodWhichRow : OpenClaim := { program := "ytlaamfagjpdhgaa", sum := "3da7bf849d78455ab1867c9e05570cbef47f3d1b955ee4cd77a9f3d6894ee634", func := "paycycle/paycyclelaw.PeriodWhich", spec := "periodWhich", apart := false }
def PeriodWhichSaid : Prop := periodWhichRow.holds Try.pinned (OpenSpec.ofChange periodWhichSpec)

/-- ITS FALSE NEIGHBOUR: 'it returns false'. Refute it at one input. -/
def periodWhichWrong : ChangeSpec := { name := "periodWhich", fn := fun _ => fun
  | [d1, d2] => { results := [.lit (.bool false)], args := [d1, d2] }
  | _ => none }
def PeriodWhichWrongFalsely : Prop := periodWhichRow.holds Try.pinned (OpenSpec.ofChange periodWhichWrong)

/-- 'paycyclelaw.PeriodPaid': WHATEVER THE INPUT: true; the input reads as it did. -/
def periodPaidSpec : ChangeSpec := { name := "periodPaid", fn := fun _ => fun
  | [d1, d2, d3] => { results := [.lit (.bool true)], args := [d1, d2, d3] }
  | _ => none }
def periodPaidRow : OpenClaim := { program := "ytlaamfagjpdhgaa", sum := "3da7bf849d78455ab1867c9e05570cbef47f3d1b955ee4cd77a9f3d6894ee634", func := "paycycle/paycyclelaw.PeriodPaid", spec := "periodPaid", apart := false }
def PeriodPaidSaid : Prop := periodPaidRow.holds Try.pinned (OpenSpec.ofChange periodPaidSpec)

/-- ITS FALSE NEIGHBOUR: 'it returns false'. Refute it at one input. -/
def periodPaidWrong : ChangeSpec := { name := "periodPaid", fn := fun _ => fun
  | [d1, d2, d3] => { results := [.lit (.bool false)], args := [d1, d2, d3] }
  | _ => none }
def PeriodPaidWrongFalsely : Prop := periodPaidRow.holds Try.pinned (OpenSpec.ofChange periodPaidWrong)

/-- 'paycyclelaw.PeriodOverlaps': WHATEVER THE INPUT: true; the input reads as it did. -/
def periodOverlapsSpec : ChangeSpec := { name := "periodOverlaps", fn := fun _ => fun
  | [d1, d2, d3] => { results := [.lit (.bool true)], args := [d1, d2, d3] }
  | _ => none }
def periodOverlapsRow : OpenClaim := { program := "ytlaamfagjpdhgaa", sum := "3da7bf849d78455ab1867c9e05570cbef47f3d1b955ee4cd77a9f3d6894ee634", func := "paycycle/paycyclelaw.PeriodOverlaps", spec := "periodOverlaps", apart := false }
def PeriodOverlapsSaid : Prop := periodOverlapsRow.holds Try.pinned (OpenSpec.ofChange periodOverlapsSpec)

/-- ITS FALSE NEIGHBOUR: 'it returns false'. Refute it at one input. -/
def periodOverlapsWrong : ChangeSpec := { name := "periodOverlaps", fn := fun _ => fun
  | [d1, d2, d3] => { results := [.lit (.bool false)], args := [d1, d2, d3] }
  | _ => none }
def PeriodOverlapsWrongFalsely : Prop := periodOverlapsRow.holds Try.pinned (OpenSpec.ofChange periodOverlapsWrong)

/-- 'paycyclelaw.PeriodProrates': WHATEVER THE INPUT: true; the input reads as it did. -/
def periodProratesSpec : ChangeSpec := { name := "periodProrates", fn := fun _ => fun
  | [d1, d2, d3, d4, d5] => { results := [.lit (.bool true)], args := [d1, d2, d3, d4, d5] }
  | _ => none }
def periodProratesRow : OpenClaim := { program := "ytlaamfagjpdhgaa", sum := "3da7bf849d78455ab1867c9e05570cbef47f3d1b955ee4cd77a9f3d6894ee634", func := "paycycle/paycyclelaw.PeriodProrates", spec := "periodProrates", apart := false }
def PeriodProratesSaid : Prop := periodProratesRow.holds Try.pinned (OpenSpec.ofChange periodProratesSpec)

/-- ITS FALSE NEIGHBOUR: 'it returns false'. Refute it at one input. -/
def periodProratesWrong : ChangeSpec := { name := "periodProrates", fn := fun _ => fun
  | [d1, d2, d3, d4, d5] => { results := [.lit (.bool false)], args := [d1, d2, d3, d4, d5] }
  | _ => none }
def PeriodProratesWrongFalsely : Prop := periodProratesRow.holds Try.pinned (OpenSpec.ofChange periodProratesWrong)

/-- 'paycyclelaw.PeriodSplits': WHATEVER THE INPUT: true; the input reads as it did. -/
def periodSplitsSpec : ChangeSpec := { name := "periodSplits", fn := fun _ => fun
  | [d1, d2, d3] => { results := [.lit (.bool true)], args := [d1, d2, d3] }
  | _ => none }
def periodSplitsRow : OpenClaim := { program := "ytlaamfagjpdhgaa", sum := "3da7bf849d78455ab1867c9e05570cbef47f3d1b955ee4cd77a9f3d6894ee634", func := "paycycle/paycyclelaw.PeriodSplits", spec := "periodSplits", apart := false }
def PeriodSplitsSaid : Prop := periodSplitsRow.holds Try.pinned (OpenSpec.ofChange periodSplitsSpec)

/-- ITS FALSE NEIGHBOUR: 'it returns false'. Refute it at one input. -/
def periodSplitsWrong : ChangeSpec := { name := "periodSplits", fn := fun _ => fun
  | [d1, d2, d3] => { results := [.lit (.bool false)], args := [d1, d2, d3] }
  | _ => none }
def PeriodSplitsWrongFalsely : Prop := periodSplitsRow.holds Try.pinned (OpenSpec.ofChange periodSplitsWrong)

/-- 'paycyclelaw.PeriodParts': WHATEVER THE INPUT: true; the input reads as it did. -/
def periodPartsSpec : ChangeSpec := { name := "periodParts", fn := fun _ => fun
  | [d1, d2, d3] => { results := [.lit (.bool true)], args := [d1, d2, d3] }
  | _ => none }
def periodPartsRow : OpenClaim := { program := "ytlaamfagjpdhgaa", sum := "3da7bf849d78455ab1867c9e05570cbef47f3d1b955ee4cd77a9f3d6894ee634", func := "paycycle/paycyclelaw.PeriodParts", spec := "periodParts", apart := false }
def PeriodPartsSaid : Prop := periodPartsRow.holds Try.pinned (OpenSpec.ofChange periodPartsSpec)

/-- ITS FALSE NEIGHBOUR: 'it returns false'. Refute it at one input. -/
def periodPartsWrong : ChangeSpec := { name := "periodParts", fn := fun _ => fun
  | [d1, d2, d3] => { results := [.lit (.bool false)], args := [d1, d2, d3] }
  | _ => none }
def PeriodPartsWrongFalsely : Prop := periodPartsRow.holds Try.pinned (OpenSpec.ofChange periodPartsWrong)

/-- 'paycyclelaw.PeriodWhole': WHATEVER THE INPUT: true; the input reads as it did. -/
def periodWholeSpec : ChangeSpec := { name := "periodWhole", fn := fun _ => fun
  | [d1, d2, d3, d4, d5] => { results := [.lit (.bool true)], args := [d1, d2, d3, d4, d5] }
  | _ => none }
def periodWholeRow : OpenClaim := { program := "ytlaamfagjpdhgaa", sum := "3da7bf849d78455ab1867c9e05570cbef47f3d1b955ee4cd77a9f3d6894ee634", func := "paycycle/paycyclelaw.PeriodWhole", spec := "periodWhole", apart := false }
def PeriodWholeSaid : Prop := periodWholeRow.holds Try.pinned (OpenSpec.ofChange periodWholeSpec)

/-- ITS FALSE NEIGHBOUR: 'it returns false'. Refute it at one input. -/
def periodWholeWrong : ChangeSpec := { name := "periodWhole", fn := fun _ => fun
  | [d1, d2, d3, d4, d5] => { results := [.lit (.bool false)], args := [d1, d2, d3, d4, d5] }
  | _ => none }
def PeriodWholeWrongFalsely : Prop := periodWholeRow.holds Try.pinned (OpenSpec.ofChange periodWholeWrong)

/-- 'paycyclelaw.LeaveStays': WHATEVER THE INPUT: true; the input reads as it did. -/
def leaveStaysSpec : ChangeSpec := { name := "leaveStays", fn := fun _ => fun
  | [d1, d2, d3, d4] => { results := [.lit (.bool true)], args := [d1, d2, d3, d4] }
  | _ => none }
def leaveStaysRow : OpenClaim := { program := "ytlaamfagjpdhgaa", sum := "3da7bf849d78455ab1867c9e05570cbef47f3d1b955ee4cd77a9f3d6894ee634", func := "paycycle/paycyclelaw.LeaveStays", spec := "leaveStays", apart := false }
def LeaveStaysSaid : Prop := leaveStaysRow.holds Try.pinned (OpenSpec.ofChange leaveStaysSpec)

/-- ITS FALSE NEIGHBOUR: 'it returns false'. Refute it at one input. -/
def leaveStaysWrong : ChangeSpec := { name := "leaveStays", fn := fun _ => fun
  | [d1, d2, d3, d4] => { results := [.lit (.bool false)], args := [d1, d2, d3, d4] }
  | _ => none }
def LeaveStaysWrongFalsely : Prop := leaveStaysRow.holds Try.pinned (OpenSpec.ofChange leaveStaysWrong)

/-- 'paycyclelaw.LeaveUsed': WHATEVER THE INPUT: true; the input reads as it did. -/
def leaveUsedSpec : ChangeSpec := { name := "leaveUsed", fn := fun _ => fun
  | [d1, d2, d3, d4] => { results := [.lit (.bool true)], args := [d1, d2, d3, d4] }
  | _ => none }
def leaveUsedRow : OpenClaim := { program := "ytlaamfagjpdhgaa", sum := "3da7bf849d78455ab1867c9e05570cbef47f3d1b955ee4cd77a9f3d6894ee634", func := "paycycle/paycyclelaw.LeaveUsed", spec := "leaveUsed", apart := false }
def LeaveUsedSaid : Prop := leaveUsedRow.holds Try.pinned (OpenSpec.ofChange leaveUsedSpec)

/-- ITS FALSE NEIGHBOUR: 'it returns false'. Refute it at one input. -/
def leaveUsedWrong : ChangeSpec := { name := "leaveUsed", fn := fun _ => fun
  | [d1, d2, d3, d4] => { results := [.lit (.bool false)], args := [d1, d2, d3, d4] }
  | _ => none }
def LeaveUsedWrongFalsely : Prop := leaveUsedRow.holds Try.pinned (OpenSpec.ofChange leaveUsedWrong)

/- THE SECOND FORM. 'bulk': how many values and letters a reading holds, each counted each time it is reached (what is shared counts as often as it is met; a slice's spare places count too). A statement '..UptoSaid' is the law's where the arguments, and the package variables that the reading takes, are together of bulk at most 1048576: NARROWER than '..Said'. Prove '..Said' where nothing that the law and all that it calls make is longer than what came in: it says more and counts as full. Else prove '..UptoSaid'. A law counts once. -/
mutual
def uptoBulk {H : Type} : DataW H → Nat
  | .lit (.string bytes) => bytes.length + 1
  | .lit _ => 1
  | .nil => 1
  | .ptr d => uptoBulk d + 1
  | .slice elems spare => uptoBulkAll elems + uptoBulkAll spare + 1
  | .agg parts => uptoBulkAll parts + 1
  | .iface _ d => uptoBulk d + 1
  | .map entries => uptoBulkEntries entries + 1
  | .held _ => 1
def uptoBulkAll {H : Type} : List (DataW H) → Nat
  | [] => 0
  | d :: r => uptoBulk d + uptoBulkAll r
def uptoBulkEntries {H : Type} : List (Lit × DataW H) → Nat
  | [] => 0
  | x :: r => uptoBulkEntry x + uptoBulkEntries r
def uptoBulkEntry {H : Type} : Lit × DataW H → Nat
  | (.string bytes, d) => bytes.length + uptoBulk d + 1
  | (_, d) => uptoBulk d + 1
 end
def uptoSmall : (H : Type) → List (DataW H) → Bool := fun _ ds => decide (uptoBulkAll ds ≤ 1048576)
def OpenSpec.upto (s : _root_.Go.ChangeSpec) : _root_.Go.OpenSpec := { _root_.Go.OpenSpec.ofChange s with cond := some uptoSmall }

/-- 'paycyclelaw.PeriodChecks', WHERE WHAT IT READS IS OF BULK AT MOST 1048576: true; the input reads as it did. -/
def periodChecksUptoRow : OpenClaim := { program := "ytlaamfagjpdhgaa", sum := "3da7bf849d78455ab1867c9e05570cbef47f3d1b955ee4cd77a9f3d6894ee634", func := "paycycle/paycyclelaw.PeriodChecks", spec := "periodChecks", apart := false, narrowed := true }
def PeriodChecksUptoSaid : Prop := periodChecksUptoRow.holds Try.pinned (OpenSpec.upto periodChecksSpec)

/-- 'paycyclelaw.PeriodAt', WHERE WHAT IT READS IS OF BULK AT MOST 1048576: true; the input reads as it did. -/
def periodAtUptoRow : OpenClaim := { program := "ytlaamfagjpdhgaa", sum := "3da7bf849d78455ab1867c9e05570cbef47f3d1b955ee4cd77a9f3d6894ee634", func := "paycycle/paycyclelaw.PeriodAt", spec := "periodAt", apart := false, narrowed := true }
def PeriodAtUptoSaid : Prop := periodAtUptoRow.holds Try.pinned (OpenSpec.upto periodAtSpec)

/-- 'paycyclelaw.PeriodWhich', WHERE WHAT IT READS IS OF BULK AT MOST 1048576: true; the input reads as it did. -/
def periodWhichUptoRow : OpenClaim := { program := "ytlaamfagjpdhgaa", sum := "3da7bf849d78455ab1867c9e05570cbef47f3d1b955ee4cd77a9f3d6894ee634", func := "paycycle/paycyclelaw.PeriodWhich", spec := "periodWhich", apart := false, narrowed := true }
def PeriodWhichUptoSaid : Prop := periodWhichUptoRow.holds Try.pinned (OpenSpec.upto periodWhichSpec)

/-- 'paycyclelaw.PeriodPaid', WHERE WHAT IT READS IS OF BULK AT MOST 1048576: true; the input reads as it did. -/
def periodPaidUptoRow : OpenClaim := { program := "ytlaamfagjpdhgaa", sum := "3da7bf849d78455ab1867c9e05570cbef47f3d1b955ee4cd77a9f3d6894ee634", func := "paycycle/paycyclelaw.PeriodPaid", spec := "periodPaid", apart := false, narrowed := true }
def PeriodPaidUptoSaid : Prop := periodPaidUptoRow.holds Try.pinned (OpenSpec.upto periodPaidSpec)

/-- 'paycyclelaw.PeriodOverlaps', WHERE WHAT IT READS IS OF BULK AT MOST 1048576: true; the input reads as it did. -/
def periodOverlapsUptoRow : OpenClaim := { program := "ytlaamfagjpdhgaa", sum := "3da7bf849d78455ab1867c9e05570cbef47f3d1b955ee4cd77a9f3d6894ee634", func := "paycycle/paycyclelaw.PeriodOverlaps", spec := "periodOverlaps", apart := false, narrowed := true }
def PeriodOverlapsUptoSaid : Prop := periodOverlapsUptoRow.holds Try.pinned (OpenSpec.upto periodOverlapsSpec)

/-- 'paycyclelaw.PeriodProrates', WHERE WHAT IT READS IS OF BULK AT MOST 1048576: true; the input reads as it did. -/
def periodProratesUptoRow : OpenClaim := { program := "ytlaamfagjpdhgaa", sum := "3da7bf849d78455ab1867c9e05570cbef47f3d1b955ee4cd77a9f3d6894ee634", func := "paycycle/paycyclelaw.PeriodProrates", spec := "periodProrates", apart := false, narrowed := true }
def PeriodProratesUptoSaid : Prop := periodProratesUptoRow.holds Try.pinned (OpenSpec.upto periodProratesSpec)

/-- 'paycyclelaw.PeriodSplits', WHERE WHAT IT READS IS OF BULK AT MOST 1048576: true; the input reads as it did. -/
def periodSplitsUptoRow : OpenClaim := { program := "ytlaamfagjpdhgaa", sum := "3da7bf849d78455ab1867c9e05570cbef47f3d1b955ee4cd77a9f3d6894ee634", func := "paycycle/paycyclelaw.PeriodSplits", spec := "periodSplits", apart := false, narrowed := true }
def PeriodSplitsUptoSaid : Prop := periodSplitsUptoRow.holds Try.pinned (OpenSpec.upto periodSplitsSpec)

/-- 'paycyclelaw.PeriodParts', WHERE WHAT IT READS IS OF BULK AT MOST 1048576: true; the input reads as it did. -/
def periodPartsUptoRow : OpenClaim := { program := "ytlaamfagjpdhgaa", sum := "3da7bf849d78455ab1867c9e05570cbef47f3d1b955ee4cd77a9f3d6894ee634", func := "paycycle/paycyclelaw.PeriodParts", spec := "periodParts", apart := false, narrowed := true }
def PeriodPartsUptoSaid : Prop := periodPartsUptoRow.holds Try.pinned (OpenSpec.upto periodPartsSpec)

/-- 'paycyclelaw.PeriodWhole', WHERE WHAT IT READS IS OF BULK AT MOST 1048576: true; the input reads as it did. -/
def periodWholeUptoRow : OpenClaim := { program := "ytlaamfagjpdhgaa", sum := "3da7bf849d78455ab1867c9e05570cbef47f3d1b955ee4cd77a9f3d6894ee634", func := "paycycle/paycyclelaw.PeriodWhole", spec := "periodWhole", apart := false, narrowed := true }
def PeriodWholeUptoSaid : Prop := periodWholeUptoRow.holds Try.pinned (OpenSpec.upto periodWholeSpec)

/-- 'paycyclelaw.LeaveStays', WHERE WHAT IT READS IS OF BULK AT MOST 1048576: true; the input reads as it did. -/
def leaveStaysUptoRow : OpenClaim := { program := "ytlaamfagjpdhgaa", sum := "3da7bf849d78455ab1867c9e05570cbef47f3d1b955ee4cd77a9f3d6894ee634", func := "paycycle/paycyclelaw.LeaveStays", spec := "leaveStays", apart := false, narrowed := true }
def LeaveStaysUptoSaid : Prop := leaveStaysUptoRow.holds Try.pinned (OpenSpec.upto leaveStaysSpec)

/-- 'paycyclelaw.LeaveUsed', WHERE WHAT IT READS IS OF BULK AT MOST 1048576: true; the input reads as it did. -/
def leaveUsedUptoRow : OpenClaim := { program := "ytlaamfagjpdhgaa", sum := "3da7bf849d78455ab1867c9e05570cbef47f3d1b955ee4cd77a9f3d6894ee634", func := "paycycle/paycyclelaw.LeaveUsed", spec := "leaveUsed", apart := false, narrowed := true }
def LeaveUsedUptoSaid : Prop := leaveUsedUptoRow.holds Try.pinned (OpenSpec.upto leaveUsedSpec)

end Rows
end Go.Proofs.Ytlaamfagjpdhgaa
