/-
  No cell of these rows narrows 'for every input' (looked for: loops, veiled, ifaces, maps, wideKeys, modest, calm, conditions, laid).
  DERIVED. THE GIVEN ROWS OF THIS SEAT. 6 by the template 'for every input the law returns true; each argument reads behind the call as it read before'; 0 by the template 'total and deterministic' (their statements: YtfdhjdbefikjmaaTotals.lean).
  GIVEN WITH THE SEED: the statements are not yours to turn. If you find one false, say at which input.
  Laid BY PROGRAM, IN A SANDBOX (cutbox-rows.mjs): the forced cells as the released guide's own fill.sh prints them over the translation 87e9b1e67b4b79fa… (all of the seat's roots in one cut). By AI agents, Wed Nov 11 2026. No macro, syntax, notation, axiom, sorry.
-/
import Derived.Test.YtfdhjdbefikjmaaChecked
import GoSem.Claim
import GoSem.ClaimJoined
import GoSem.ClaimMapViews
import Derived.JoinedTies
import Derived.KernelRfl
namespace Go.Proofs.Ytfdhjdbefikjmaa
/- THE CELL 'sum', in the pinned program and in every row, IS THE sha256 OF THE DUMP (.gsa) THAT YtfdhjdbefikjmaaProg.lean LOADS. Nothing in Lean hashes anything: it is a label: what it is worth is what the hold of that sum in a sandbox is worth. -/
noncomputable def Try.pinned : Pinned := { name := "ytfdhjdbefikjmaa", sum := "87e9b1e67b4b79faecc302d7752ecdda8e3e715bdcadaa2e6fd9309c140d4590", checked := Try.checked }
namespace Rows
def none {H : Type} : Left H := { results := [], args := [] }

/-- 'paycyclelaw.RunChecks': WHATEVER THE INPUT: true; the input reads as it did. -/
def runChecksSpec : ChangeSpec := { name := "runChecks", fn := fun _ => fun
  | [d] => { results := [.lit (.bool true)], args := [d] }
  | _ => none }
def runChecksRow : OpenClaim := { program := "ytfdhjdbefikjmaa", sum := "87e9b1e67b4b79faecc302d7752ecdda8e3e715bdcadaa2e6fd9309c140d4590", func := "paycycle/paycyclelaw.RunChecks", spec := "runChecks", apart := false }
def RunChecksSaid : Prop := runChecksRow.holds Try.pinned (OpenSpec.ofChange runChecksSpec)

/-- ITS FALSE NEIGHBOUR: 'it returns false'. Refute it at one input. -/
def runChecksWrong : ChangeSpec := { name := "runChecks", fn := fun _ => fun
  | [d] => { results := [.lit (.bool false)], args := [d] }
  | _ => none }
def RunChecksWrongFalsely : Prop := runChecksRow.holds Try.pinned (OpenSpec.ofChange runChecksWrong)

/-- 'paycyclelaw.RunSteps': WHATEVER THE INPUT: true; the input reads as it did. -/
def runStepsSpec : ChangeSpec := { name := "runSteps", fn := fun _ => fun
  | [d1, d2] => { results := [.lit (.bool true)], args := [d1, d2] }
  | _ => none }
def runStepsRow : OpenClaim := { program := "ytfdhjdbefikjmaa", sum := "87e9b1e67b4b79faecc302d7752ecdda8e3e715bdcadaa2e6fd9309c140d4590", func := "paycycle/paycyclelaw.RunSteps", spec := "runSteps", apart := false }
def RunStepsSaid : Prop := runStepsRow.holds Try.pinned (OpenSpec.ofChange runStepsSpec)

/-- ITS FALSE NEIGHBOUR: 'it returns false'. Refute it at one input. -/
def runStepsWrong : ChangeSpec := { name := "runSteps", fn := fun _ => fun
  | [d1, d2] => { results := [.lit (.bool false)], args := [d1, d2] }
  | _ => none }
def RunStepsWrongFalsely : Prop := runStepsRow.holds Try.pinned (OpenSpec.ofChange runStepsWrong)

/-- 'paycyclelaw.RunMay': WHATEVER THE INPUT: true; the input reads as it did. -/
def runMaySpec : ChangeSpec := { name := "runMay", fn := fun _ => fun
  | [d1, d2] => { results := [.lit (.bool true)], args := [d1, d2] }
  | _ => none }
def runMayRow : OpenClaim := { program := "ytfdhjdbefikjmaa", sum := "87e9b1e67b4b79faecc302d7752ecdda8e3e715bdcadaa2e6fd9309c140d4590", func := "paycycle/paycyclelaw.RunMay", spec := "runMay", apart := false }
def RunMaySaid : Prop := runMayRow.holds Try.pinned (OpenSpec.ofChange runMaySpec)

/-- ITS FALSE NEIGHBOUR: 'it returns false'. Refute it at one input. -/
def runMayWrong : ChangeSpec := { name := "runMay", fn := fun _ => fun
  | [d1, d2] => { results := [.lit (.bool false)], args := [d1, d2] }
  | _ => none }
def RunMayWrongFalsely : Prop := runMayRow.holds Try.pinned (OpenSpec.ofChange runMayWrong)

/-- 'paycyclelaw.RunPlays': WHATEVER THE INPUT: true; the input reads as it did. -/
def runPlaysSpec : ChangeSpec := { name := "runPlays", fn := fun _ => fun
  | [d] => { results := [.lit (.bool true)], args := [d] }
  | _ => none }
def runPlaysRow : OpenClaim := { program := "ytfdhjdbefikjmaa", sum := "87e9b1e67b4b79faecc302d7752ecdda8e3e715bdcadaa2e6fd9309c140d4590", func := "paycycle/paycyclelaw.RunPlays", spec := "runPlays", apart := false }
def RunPlaysSaid : Prop := runPlaysRow.holds Try.pinned (OpenSpec.ofChange runPlaysSpec)

/-- ITS FALSE NEIGHBOUR: 'it returns false'. Refute it at one input. -/
def runPlaysWrong : ChangeSpec := { name := "runPlays", fn := fun _ => fun
  | [d] => { results := [.lit (.bool false)], args := [d] }
  | _ => none }
def RunPlaysWrongFalsely : Prop := runPlaysRow.holds Try.pinned (OpenSpec.ofChange runPlaysWrong)

/-- 'paycyclelaw.RunEyes': WHATEVER THE INPUT: true; the input reads as it did. -/
def runEyesSpec : ChangeSpec := { name := "runEyes", fn := fun _ => fun
  | [d] => { results := [.lit (.bool true)], args := [d] }
  | _ => none }
def runEyesRow : OpenClaim := { program := "ytfdhjdbefikjmaa", sum := "87e9b1e67b4b79faecc302d7752ecdda8e3e715bdcadaa2e6fd9309c140d4590", func := "paycycle/paycyclelaw.RunEyes", spec := "runEyes", apart := false }
def RunEyesSaid : Prop := runEyesRow.holds Try.pinned (OpenSpec.ofChange runEyesSpec)

/-- ITS FALSE NEIGHBOUR: 'it returns false'. Refute it at one input. -/
def runEyesWrong : ChangeSpec := { name := "runEyes", fn := fun _ => fun
  | [d] => { results := [.lit (.bool false)], args := [d] }
  | _ => none }
def RunEyesWrongFalsely : Prop := runEyesRow.holds Try.pinned (OpenSpec.ofChange runEyesWrong)

/-- 'paycyclelaw.RunOnly': WHATEVER THE INPUT: true; the input reads as it did. -/
def runOnlySpec : ChangeSpec := { name := "runOnly", fn := fun _ => fun
  | [d1, d2] => { results := [.lit (.bool true)], args := [d1, d2] }
  | _ => none }
def runOnlyRow : OpenClaim := { program := "ytfdhjdbefikjmaa", sum := "87e9b1e67b4b79faecc302d7752ecdda8e3e715bdcadaa2e6fd9309c140d4590", func := "paycycle/paycyclelaw.RunOnly", spec := "runOnly", apart := false }
def RunOnlySaid : Prop := runOnlyRow.holds Try.pinned (OpenSpec.ofChange runOnlySpec)

/-- ITS FALSE NEIGHBOUR: 'it returns false'. Refute it at one input. -/
def runOnlyWrong : ChangeSpec := { name := "runOnly", fn := fun _ => fun
  | [d1, d2] => { results := [.lit (.bool false)], args := [d1, d2] }
  | _ => none }
def RunOnlyWrongFalsely : Prop := runOnlyRow.holds Try.pinned (OpenSpec.ofChange runOnlyWrong)

/- THE SECOND FORM. 'bulk': how many values and letters a reading holds, each counted each time it is reached (what is shared counts as often as it is met; a slice's spare places count too). A statement '..UptoSaid' is the law's where the arguments, and the package variables that the reading takes, are together of bulk at most 1048576: NARROWER than '..Said'. Prove '..Said' where nothing that the law and all that it calls make is longer than what came in: it says more and counts as full. Else prove '..UptoSaid'. A law counts once. -/
mutual
def uptoBulk {H : Type} : DataW H → Nat
  | .lit (.string bytes) => bytes.length + 1
  | .lit _ => 1
  | .nil => 1
  | .ptr d => uptoBulk d + 1
  | .slice elems spare => uptoBulkAll elems + uptoBulkAll spare + 1
  | .agg parts => uptoBulkAll parts + 1
  | .iface _ d => uptoBulk d + 1
  | .map entries => uptoBulkEntries entries + 1
  | .held _ => 1
def uptoBulkAll {H : Type} : List (DataW H) → Nat
  | [] => 0
  | d :: r => uptoBulk d + uptoBulkAll r
def uptoBulkEntries {H : Type} : List (Lit × DataW H) → Nat
  | [] => 0
  | x :: r => uptoBulkEntry x + uptoBulkEntries r
def uptoBulkEntry {H : Type} : Lit × DataW H → Nat
  | (.string bytes, d) => bytes.length + uptoBulk d + 1
  | (_, d) => uptoBulk d + 1
 end
def uptoSmall : (H : Type) → List (DataW H) → Bool := fun _ ds => decide (uptoBulkAll ds ≤ 1048576)
def OpenSpec.upto (s : _root_.Go.ChangeSpec) : _root_.Go.OpenSpec := { _root_.Go.OpenSpec.ofChange s with cond := some uptoSmall }

/-- 'paycyclelaw.RunChecks', WHERE WHAT IT READS IS OF BULK AT MOST 1048576: true; the input reads as it did. -/
def runChecksUptoRow : OpenClaim := { program := "ytfdhjdbefikjmaa", sum := "87e9b1e67b4b79faecc302d7752ecdda8e3e715bdcadaa2e6fd9309c140d4590", func := "paycycle/paycyclelaw.RunChecks", spec := "runChecks", apart := false, narrowed := true }
def RunChecksUptoSaid : Prop := runChecksUptoRow.holds Try.pinned (OpenSpec.upto runChecksSpec)

/-- 'paycyclelaw.RunSteps', WHERE WHAT IT READS IS OF BULK AT MOST 1048576: true; the input reads as it did. -/
def runStepsUptoRow : OpenClaim := { program := "ytfdhjdbefikjmaa", sum := "87e9b1e67b4b79faecc302d7752ecdda8e3e715bdcadaa2e6fd9309c140d4590", func := "paycycle/paycyclelaw.RunSteps", spec := "runSteps", apart := false, narrowed := true }
def RunStepsUptoSaid : Prop := runStepsUptoRow.holds Try.pinned (OpenSpec.upto runStepsSpec)

/-- 'paycyclelaw.RunMay', WHERE WHAT IT READS IS OF BULK AT MOST 1048576: true; the input reads as it did. -/
def runMayUptoRow : OpenClaim := { program := "ytfdhjdbefikjmaa", sum := "87e9b1e67b4b79faecc302d7752ecdda8e3e715bdcadaa2e6fd9309c140d4590", func := "paycycle/paycyclelaw.RunMay", spec := "runMay", apart := false, narrowed := true }
def RunMayUptoSaid : Prop := runMayUptoRow.holds Try.pinned (OpenSpec.upto runMaySpec)

/-- 'paycyclelaw.RunPlays', WHERE WHAT IT READS IS OF BULK AT MOST 1048576: true; the input reads as it did. -/
def runPlaysUptoRow : OpenClaim := { program := "ytfdhjdbefikjmaa", sum := "87e9b1e67b4b79faecc302d7752ecdda8e3e715bdcadaa2e6fd9309c140d4590", func := "paycycle/paycyclelaw.RunPlays", spec := "runPlays", apart := false, narrowed := true }
def RunPlaysUptoSaid : Prop := runPlaysUptoRow.holds Try.pinned (OpenSpec.upto runPlaysSpec)

/-- 'paycyclelaw.RunEyes', WHERE WHAT IT READS IS OF BULK AT MOST 1048576: true; the input reads as it did. -/
def runEyesUptoRow : OpenClaim := { program := "ytfdhjdbefikjmaa", sum := "87e9b1e67b4b79faecc302d7752ecdda8e3e715bdcadaa2e6fd9309c140d4590", func := "paycycle/paycyclelaw.RunEyes", spec := "runEyes", apart := false, narrowed := true }
def RunEyesUptoSaid : Prop := runEyesUptoRow.holds Try.pinned (OpenSpec.upto runEyesSpec)

/-- 'paycyclelaw.RunOnly', WHERE WHAT IT READS IS OF BULK AT MOST 1048576: true; the input reads as it did. -/
def runOnlyUptoRow : OpenClaim := { program := "ytfdhjdbefikjmaa", sum := "87e9b1e67b4b79faecc302d7752ecdda8e3e715bdcadaa2e6fd9309c140d4590", func := "paycycle/paycyclelaw.RunOnly", spec := "runOnly", apart := false, narrowed := true }
def RunOnlyUptoSaid : Prop := runOnlyUptoRow.holds Try.pinned (OpenSpec.upto runOnlySpec)

end Rows
end Go.Proofs.Ytfdhjdbefikjmaa
