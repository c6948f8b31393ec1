/-
  No cell of these rows narrows 'for every input' (looked for: loops, veiled, ifaces, maps, wideKeys, modest, calm, conditions, laid).
  DERIVED. THE GIVEN ROWS OF THIS SEAT. 9 by the template 'for every input the law returns true; each argument reads behind the call as it read before'; 0 by the template 'total and deterministic' (their statements: YtmiijmgidbbmhaaTotals.lean).
  GIVEN WITH THE SEED: the statements are not yours to turn. If you find one false, say at which input.
  Laid BY PROGRAM, IN A SANDBOX (cutbox-rows.mjs): the forced cells as the released guide's own fill.sh prints them over the translation 2bd63c2acb34cf2f… (all of the seat's roots in one cut). By AI agents, Wed Nov 11 2026. No macro, syntax, notation, axiom, sorry.
-/
import Derived.Test.YtmiijmgidbbmhaaChecked
import GoSem.Claim
import GoSem.ClaimJoined
import GoSem.ClaimMapViews
import Derived.JoinedTies
import Derived.KernelRfl
namespace Go.Proofs.Ytmiijmgidbbmhaa
/- THE CELL 'sum', in the pinned program and in every row, IS THE sha256 OF THE DUMP (.gsa) THAT YtmiijmgidbbmhaaProg.lean LOADS. Nothing in Lean hashes anything: it is a label: what it is worth is what the hold of that sum in a sandbox is worth. -/
noncomputable def Try.pinned : Pinned := { name := "ytmiijmgidbbmhaa", sum := "2bd63c2acb34cf2ff87a9684e2a3deeed0f4db03c97e0837b8a020dd6c1014b4", checked := Try.checked }
namespace Rows
def none {H : Type} : Left H := { results := [], args := [] }

/-- 'paycyclelaw.BracketChecks': WHATEVER THE INPUT: true; the input reads as it did. -/
def bracketChecksSpec : ChangeSpec := { name := "bracketChecks", fn := fun _ => fun
  | [d] => { results := [.lit (.bool true)], args := [d] }
  | _ => none }
def bracketChecksRow : OpenClaim := { program := "ytmiijmgidbbmhaa", sum := "2bd63c2acb34cf2ff87a9684e2a3deeed0f4db03c97e0837b8a020dd6c1014b4", func := "paycycle/paycyclelaw.BracketChecks", spec := "bracketChecks", unfollowed := true, recurses := true, apart := false }
def BracketChecksSaid : Prop := bracketChecksRow.holds Try.pinned (OpenSpec.ofChange bracketChecksSpec)

/-- ITS FALSE NEIGHBOUR: 'it returns false'. Refute it at one input. -/
def bracketChecksWrong : ChangeSpec := { name := "bracketChecks", fn := fun _ => fun
  | [d] => { results := [.lit (.bool false)], args := [d] }
  | _ => none }
def BracketChecksWrongFalsely : Prop := bracketChecksRow.holds Try.pinned (OpenSpec.ofChange bracketChecksWrong)

/-- 'paycyclelaw.BracketTaxes': WHATEVER THE INPUT: true; the input reads as it did. -/
def bracketTaxesSpec : ChangeSpec := { name := "bracketTaxes", fn := fun _ => fun
  | [d1, d2] => { results := [.lit (.bool true)], args := [d1, d2] }
  | _ => none }
def bracketTaxesRow : OpenClaim := { program := "ytmiijmgidbbmhaa", sum := "2bd63c2acb34cf2ff87a9684e2a3deeed0f4db03c97e0837b8a020dd6c1014b4", func := "paycycle/paycyclelaw.BracketTaxes", spec := "bracketTaxes", unfollowed := true, recurses := true, apart := false }
def BracketTaxesSaid : Prop := bracketTaxesRow.holds Try.pinned (OpenSpec.ofChange bracketTaxesSpec)

/-- ITS FALSE NEIGHBOUR: 'it returns false'. Refute it at one input. -/
def bracketTaxesWrong : ChangeSpec := { name := "bracketTaxes", fn := fun _ => fun
  | [d1, d2] => { results := [.lit (.bool false)], args := [d1, d2] }
  | _ => none }
def BracketTaxesWrongFalsely : Prop := bracketTaxesRow.holds Try.pinned (OpenSpec.ofChange bracketTaxesWrong)

/-- 'paycyclelaw.BracketRates': WHATEVER THE INPUT: true; the input reads as it did. -/
def bracketRatesSpec : ChangeSpec := { name := "bracketRates", fn := fun _ => fun
  | [d1, d2] => { results := [.lit (.bool true)], args := [d1, d2] }
  | _ => none }
def bracketRatesRow : OpenClaim := { program := "ytmiijmgidbbmhaa", sum := "2bd63c2acb34cf2ff87a9684e2a3deeed0f4db03c97e0837b8a020dd6c1014b4", func := "paycycle/paycyclelaw.BracketRates", spec := "bracketRates", unfollowed := true, recurses := true, apart := false }
def BracketRatesSaid : Prop := bracketRatesRow.holds Try.pinned (OpenSpec.ofChange bracketRatesSpec)

/-- ITS FALSE NEIGHBOUR: 'it returns false'. Refute it at one input. -/
def bracketRatesWrong : ChangeSpec := { name := "bracketRates", fn := fun _ => fun
  | [d1, d2] => { results := [.lit (.bool false)], args := [d1, d2] }
  | _ => none }
def BracketRatesWrongFalsely : Prop := bracketRatesRow.holds Try.pinned (OpenSpec.ofChange bracketRatesWrong)

/-- 'paycyclelaw.BracketGross': WHATEVER THE INPUT: true; the input reads as it did. -/
def bracketGrossSpec : ChangeSpec := { name := "bracketGross", fn := fun _ => fun
  | [d1, d2] => { results := [.lit (.bool true)], args := [d1, d2] }
  | _ => none }
def bracketGrossRow : OpenClaim := { program := "ytmiijmgidbbmhaa", sum := "2bd63c2acb34cf2ff87a9684e2a3deeed0f4db03c97e0837b8a020dd6c1014b4", func := "paycycle/paycyclelaw.BracketGross", spec := "bracketGross", unfollowed := true, recurses := true, apart := false }
def BracketGrossSaid : Prop := bracketGrossRow.holds Try.pinned (OpenSpec.ofChange bracketGrossSpec)

/-- ITS FALSE NEIGHBOUR: 'it returns false'. Refute it at one input. -/
def bracketGrossWrong : ChangeSpec := { name := "bracketGross", fn := fun _ => fun
  | [d1, d2] => { results := [.lit (.bool false)], args := [d1, d2] }
  | _ => none }
def BracketGrossWrongFalsely : Prop := bracketGrossRow.holds Try.pinned (OpenSpec.ofChange bracketGrossWrong)

/-- 'paycyclelaw.BracketBoth': WHATEVER THE INPUT: true; the input reads as it did. -/
def bracketBothSpec : ChangeSpec := { name := "bracketBoth", fn := fun _ => fun
  | [d1, d2] => { results := [.lit (.bool true)], args := [d1, d2] }
  | _ => none }
def bracketBothRow : OpenClaim := { program := "ytmiijmgidbbmhaa", sum := "2bd63c2acb34cf2ff87a9684e2a3deeed0f4db03c97e0837b8a020dd6c1014b4", func := "paycycle/paycyclelaw.BracketBoth", spec := "bracketBoth", unfollowed := true, recurses := true, apart := false }
def BracketBothSaid : Prop := bracketBothRow.holds Try.pinned (OpenSpec.ofChange bracketBothSpec)

/-- ITS FALSE NEIGHBOUR: 'it returns false'. Refute it at one input. -/
def bracketBothWrong : ChangeSpec := { name := "bracketBoth", fn := fun _ => fun
  | [d1, d2] => { results := [.lit (.bool false)], args := [d1, d2] }
  | _ => none }
def BracketBothWrongFalsely : Prop := bracketBothRow.holds Try.pinned (OpenSpec.ofChange bracketBothWrong)

/-- 'paycyclelaw.BracketSteps': WHATEVER THE INPUT: true; the input reads as it did. -/
def bracketStepsSpec : ChangeSpec := { name := "bracketSteps", fn := fun _ => fun
  | [d1, d2] => { results := [.lit (.bool true)], args := [d1, d2] }
  | _ => none }
def bracketStepsRow : OpenClaim := { program := "ytmiijmgidbbmhaa", sum := "2bd63c2acb34cf2ff87a9684e2a3deeed0f4db03c97e0837b8a020dd6c1014b4", func := "paycycle/paycyclelaw.BracketSteps", spec := "bracketSteps", unfollowed := true, recurses := true, apart := false }
def BracketStepsSaid : Prop := bracketStepsRow.holds Try.pinned (OpenSpec.ofChange bracketStepsSpec)

/-- ITS FALSE NEIGHBOUR: 'it returns false'. Refute it at one input. -/
def bracketStepsWrong : ChangeSpec := { name := "bracketSteps", fn := fun _ => fun
  | [d1, d2] => { results := [.lit (.bool false)], args := [d1, d2] }
  | _ => none }
def BracketStepsWrongFalsely : Prop := bracketStepsRow.holds Try.pinned (OpenSpec.ofChange bracketStepsWrong)

/-- 'paycyclelaw.BracketLeast': WHATEVER THE INPUT: true; the input reads as it did. -/
def bracketLeastSpec : ChangeSpec := { name := "bracketLeast", fn := fun _ => fun
  | [d1, d2, d3] => { results := [.lit (.bool true)], args := [d1, d2, d3] }
  | _ => none }
def bracketLeastRow : OpenClaim := { program := "ytmiijmgidbbmhaa", sum := "2bd63c2acb34cf2ff87a9684e2a3deeed0f4db03c97e0837b8a020dd6c1014b4", func := "paycycle/paycyclelaw.BracketLeast", spec := "bracketLeast", unfollowed := true, recurses := true, apart := false }
def BracketLeastSaid : Prop := bracketLeastRow.holds Try.pinned (OpenSpec.ofChange bracketLeastSpec)

/-- ITS FALSE NEIGHBOUR: 'it returns false'. Refute it at one input. -/
def bracketLeastWrong : ChangeSpec := { name := "bracketLeast", fn := fun _ => fun
  | [d1, d2, d3] => { results := [.lit (.bool false)], args := [d1, d2, d3] }
  | _ => none }
def BracketLeastWrongFalsely : Prop := bracketLeastRow.holds Try.pinned (OpenSpec.ofChange bracketLeastWrong)

/-- 'paycyclelaw.BracketTogether': WHATEVER THE INPUT: true; the input reads as it did. -/
def bracketTogetherSpec : ChangeSpec := { name := "bracketTogether", fn := fun _ => fun
  | [d1, d2, d3] => { results := [.lit (.bool true)], args := [d1, d2, d3] }
  | _ => none }
def bracketTogetherRow : OpenClaim := { program := "ytmiijmgidbbmhaa", sum := "2bd63c2acb34cf2ff87a9684e2a3deeed0f4db03c97e0837b8a020dd6c1014b4", func := "paycycle/paycyclelaw.BracketTogether", spec := "bracketTogether", unfollowed := true, recurses := true, apart := false }
def BracketTogetherSaid : Prop := bracketTogetherRow.holds Try.pinned (OpenSpec.ofChange bracketTogetherSpec)

/-- ITS FALSE NEIGHBOUR: 'it returns false'. Refute it at one input. -/
def bracketTogetherWrong : ChangeSpec := { name := "bracketTogether", fn := fun _ => fun
  | [d1, d2, d3] => { results := [.lit (.bool false)], args := [d1, d2, d3] }
  | _ => none }
def BracketTogetherWrongFalsely : Prop := bracketTogetherRow.holds Try.pinned (OpenSpec.ofChange bracketTogetherWrong)

/-- 'paycyclelaw.BracketBends': WHATEVER THE INPUT: true; the input reads as it did. -/
def bracketBendsSpec : ChangeSpec := { name := "bracketBends", fn := fun _ => fun
  | [d1, d2, d3] => { results := [.lit (.bool true)], args := [d1, d2, d3] }
  | _ => none }
def bracketBendsRow : OpenClaim := { program := "ytmiijmgidbbmhaa", sum := "2bd63c2acb34cf2ff87a9684e2a3deeed0f4db03c97e0837b8a020dd6c1014b4", func := "paycycle/paycyclelaw.BracketBends", spec := "bracketBends", unfollowed := true, recurses := true, apart := false }
def BracketBendsSaid : Prop := bracketBendsRow.holds Try.pinned (OpenSpec.ofChange bracketBendsSpec)

/-- ITS FALSE NEIGHBOUR: 'it returns false'. Refute it at one input. -/
def bracketBendsWrong : ChangeSpec := { name := "bracketBends", fn := fun _ => fun
  | [d1, d2, d3] => { results := [.lit (.bool false)], args := [d1, d2, d3] }
  | _ => none }
def BracketBendsWrongFalsely : Prop := bracketBendsRow.holds Try.pinned (OpenSpec.ofChange bracketBendsWrong)

/- THE SECOND FORM. 'bulk': how many values and letters a reading holds, each counted each time it is reached (what is shared counts as often as it is met; a slice's spare places count too). A statement '..UptoSaid' is the law's where the arguments, and the package variables that the reading takes, are together of bulk at most 1048576: NARROWER than '..Said'. Prove '..Said' where nothing that the law and all that it calls make is longer than what came in: it says more and counts as full. Else prove '..UptoSaid'. A law counts once. -/
mutual
def uptoBulk {H : Type} : DataW H → Nat
  | .lit (.string bytes) => bytes.length + 1
  | .lit _ => 1
  | .nil => 1
  | .ptr d => uptoBulk d + 1
  | .slice elems spare => uptoBulkAll elems + uptoBulkAll spare + 1
  | .agg parts => uptoBulkAll parts + 1
  | .iface _ d => uptoBulk d + 1
  | .map entries => uptoBulkEntries entries + 1
  | .held _ => 1
def uptoBulkAll {H : Type} : List (DataW H) → Nat
  | [] => 0
  | d :: r => uptoBulk d + uptoBulkAll r
def uptoBulkEntries {H : Type} : List (Lit × DataW H) → Nat
  | [] => 0
  | x :: r => uptoBulkEntry x + uptoBulkEntries r
def uptoBulkEntry {H : Type} : Lit × DataW H → Nat
  | (.string bytes, d) => bytes.length + uptoBulk d + 1
  | (_, d) => uptoBulk d + 1
 end
def uptoSmall : (H : Type) → List (DataW H) → Bool := fun _ ds => decide (uptoBulkAll ds ≤ 1048576)
def OpenSpec.upto (s : _root_.Go.ChangeSpec) : _root_.Go.OpenSpec := { _root_.Go.OpenSpec.ofChange s with cond := some uptoSmall }

/-- 'paycyclelaw.BracketChecks', WHERE WHAT IT READS IS OF BULK AT MOST 1048576: true; the input reads as it did. -/
def bracketChecksUptoRow : OpenClaim := { program := "ytmiijmgidbbmhaa", sum := "2bd63c2acb34cf2ff87a9684e2a3deeed0f4db03c97e0837b8a020dd6c1014b4", func := "paycycle/paycyclelaw.BracketChecks", spec := "bracketChecks", unfollowed := true, recurses := true, apart := false, narrowed := true }
def BracketChecksUptoSaid : Prop := bracketChecksUptoRow.holds Try.pinned (OpenSpec.upto bracketChecksSpec)

/-- 'paycyclelaw.BracketTaxes', WHERE WHAT IT READS IS OF BULK AT MOST 1048576: true; the input reads as it did. -/
def bracketTaxesUptoRow : OpenClaim := { program := "ytmiijmgidbbmhaa", sum := "2bd63c2acb34cf2ff87a9684e2a3deeed0f4db03c97e0837b8a020dd6c1014b4", func := "paycycle/paycyclelaw.BracketTaxes", spec := "bracketTaxes", unfollowed := true, recurses := true, apart := false, narrowed := true }
def BracketTaxesUptoSaid : Prop := bracketTaxesUptoRow.holds Try.pinned (OpenSpec.upto bracketTaxesSpec)

/-- 'paycyclelaw.BracketRates', WHERE WHAT IT READS IS OF BULK AT MOST 1048576: true; the input reads as it did. -/
def bracketRatesUptoRow : OpenClaim := { program := "ytmiijmgidbbmhaa", sum := "2bd63c2acb34cf2ff87a9684e2a3deeed0f4db03c97e0837b8a020dd6c1014b4", func := "paycycle/paycyclelaw.BracketRates", spec := "bracketRates", unfollowed := true, recurses := true, apart := false, narrowed := true }
def BracketRatesUptoSaid : Prop := bracketRatesUptoRow.holds Try.pinned (OpenSpec.upto bracketRatesSpec)

/-- 'paycyclelaw.BracketGross', WHERE WHAT IT READS IS OF BULK AT MOST 1048576: true; the input reads as it did. -/
def bracketGrossUptoRow : OpenClaim := { program := "ytmiijmgidbbmhaa", sum := "2bd63c2acb34cf2ff87a9684e2a3deeed0f4db03c97e0837b8a020dd6c1014b4", func := "paycycle/paycyclelaw.BracketGross", spec := "bracketGross", unfollowed := true, recurses := true, apart := false, narrowed := true }
def BracketGrossUptoSaid : Prop := bracketGrossUptoRow.holds Try.pinned (OpenSpec.upto bracketGrossSpec)

/-- 'paycyclelaw.BracketBoth', WHERE WHAT IT READS IS OF BULK AT MOST 1048576: true; the input reads as it did. -/
def bracketBothUptoRow : OpenClaim := { program := "ytmiijmgidbbmhaa", sum := "2bd63c2acb34cf2ff87a9684e2a3deeed0f4db03c97e0837b8a020dd6c1014b4", func := "paycycle/paycyclelaw.BracketBoth", spec := "bracketBoth", unfollowed := true, recurses := true, apart := false, narrowed := true }
def BracketBothUptoSaid : Prop := bracketBothUptoRow.holds Try.pinned (OpenSpec.upto bracketBothSpec)

/-- 'paycyclelaw.BracketSteps', WHERE WHAT IT READS IS OF BULK AT MOST 1048576: true; the input reads as it did. -/
def bracketStepsUptoRow : OpenClaim := { program := "ytmiijmgidbbmhaa", sum := "2bd63c2acb34cf2ff87a9684e2a3deeed0f4db03c97e0837b8a020dd6c1014b4", func := "paycycle/paycyclelaw.BracketSteps", spec := "bracketSteps", unfollowed := true, recurses := true, apart := false, narrowed := true }
def BracketStepsUptoSaid : Prop := bracketStepsUptoRow.holds Try.pinned (OpenSpec.upto bracketStepsSpec)

/-- 'paycyclelaw.BracketLeast', WHERE WHAT IT READS IS OF BULK AT MOST 1048576: true; the input reads as it did. -/
def bracketLeastUptoRow : OpenClaim := { program := "ytmiijmgidbbmhaa", sum := "2bd63c2acb34cf2ff87a9684e2a3deeed0f4db03c97e0837b8a020dd6c1014b4", func := "paycycle/paycyclelaw.BracketLeast", spec := "bracketLeast", unfollowed := true, recurses := true, apart := false, narrowed := true }
def BracketLeastUptoSaid : Prop := bracketLeastUptoRow.holds Try.pinned (OpenSpec.upto bracketLeastSpec)

/-- 'paycyclelaw.BracketTogether', WHERE WHAT IT READS IS OF BULK AT MOST 1048576: true; the input reads as it did. -/
def bracketTogetherUptoRow : OpenClaim := { program := "ytmiijmgidbbmhaa", sum := "2bd63c2acb34cf2ff87a9684e2a3deeed0f4db03c97e0837b8a020dd6c1014b4", func := "paycycle/paycyclelaw.BracketTogether", spec := "bracketTogether", unfollowed := true, recurses := true, apart := false, narrowed := true }
def BracketTogetherUptoSaid : Prop := bracketTogetherUptoRow.holds Try.pinned (OpenSpec.upto bracketTogetherSpec)

/-- 'paycyclelaw.BracketBends', WHERE WHAT IT READS IS OF BULK AT MOST 1048576: true; the input reads as it did. -/
def bracketBendsUptoRow : OpenClaim := { program := "ytmiijmgidbbmhaa", sum := "2bd63c2acb34cf2ff87a9684e2a3deeed0f4db03c97e0837b8a020dd6c1014b4", func := "paycycle/paycyclelaw.BracketBends", spec := "bracketBends", unfollowed := true, recurses := true, apart := false, narrowed := true }
def BracketBendsUptoSaid : Prop := bracketBendsUptoRow.holds Try.pinned (OpenSpec.upto bracketBendsSpec)

end Rows
end Go.Proofs.Ytmiijmgidbbmhaa
