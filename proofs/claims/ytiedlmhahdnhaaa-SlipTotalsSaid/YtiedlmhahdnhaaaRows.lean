/-
  No cell of these rows narrows 'for every input' (looked for: loops, veiled, ifaces, maps, wideKeys, modest, calm, conditions, laid).
  DERIVED. THE GIVEN ROWS OF THIS SEAT. 7 by the template 'for every input the law returns true; each argument reads behind the call as it read before'; 0 by the template 'total and deterministic' (their statements: YtiedlmhahdnhaaaTotals.lean).
  GIVEN WITH THE SEED: the statements are not yours to turn. If you find one false, say at which input.
  Laid BY PROGRAM, IN A SANDBOX (cutbox-rows.mjs): the forced cells as the released guide's own fill.sh prints them over the translation 1726caa69c0d818e… (all of the seat's roots in one cut). By AI agents, Wed Nov 11 2026. No macro, syntax, notation, axiom, sorry.
-/
import Derived.Test.YtiedlmhahdnhaaaChecked
import GoSem.Claim
import GoSem.ClaimJoined
import GoSem.ClaimMapViews
import Derived.JoinedTies
import Derived.KernelRfl
namespace Go.Proofs.Ytiedlmhahdnhaaa
/- THE CELL 'sum', in the pinned program and in every row, IS THE sha256 OF THE DUMP (.gsa) THAT YtiedlmhahdnhaaaProg.lean LOADS. Nothing in Lean hashes anything: it is a label: what it is worth is what the hold of that sum in a sandbox is worth. -/
noncomputable def Try.pinned : Pinned := { name := "ytiedlmhahdnhaaa", sum := "1726caa69c0d818eb720bc1caac8b5dda00a387fc6edfb2d5d9e9b594b8b9d3b", checked := Try.checked }
namespace Rows
def none {H : Type} : Left H := { results := [], args := [] }

/-- 'paycyclelaw.SlipChecks': WHATEVER THE INPUT: true; the input reads as it did. -/
def slipChecksSpec : ChangeSpec := { name := "slipChecks", fn := fun _ => fun
  | [d] => { results := [.lit (.bool true)], args := [d] }
  | _ => none }
def slipChecksRow : OpenClaim := { program := "ytiedlmhahdnhaaa", sum := "1726caa69c0d818eb720bc1caac8b5dda00a387fc6edfb2d5d9e9b594b8b9d3b", func := "paycycle/paycyclelaw.SlipChecks", spec := "slipChecks", unfollowed := true, recurses := true, apart := false }
def SlipChecksSaid : Prop := slipChecksRow.holds Try.pinned (OpenSpec.ofChange slipChecksSpec)

/-- ITS FALSE NEIGHBOUR: 'it returns false'. Refute it at one input. -/
def slipChecksWrong : ChangeSpec := { name := "slipChecks", fn := fun _ => fun
  | [d] => { results := [.lit (.bool false)], args := [d] }
  | _ => none }
def SlipChecksWrongFalsely : Prop := slipChecksRow.holds Try.pinned (OpenSpec.ofChange slipChecksWrong)

/-- 'paycyclelaw.SlipTotals': WHATEVER THE INPUT: true; the input reads as it did. -/
def slipTotalsSpec : ChangeSpec := { name := "slipTotals", fn := fun _ => fun
  | [d1, d2] => { results := [.lit (.bool true)], args := [d1, d2] }
  | _ => none }
def slipTotalsRow : OpenClaim := { program := "ytiedlmhahdnhaaa", sum := "1726caa69c0d818eb720bc1caac8b5dda00a387fc6edfb2d5d9e9b594b8b9d3b", func := "paycycle/paycyclelaw.SlipTotals", spec := "slipTotals", unfollowed := true, recurses := true, apart := false }
def SlipTotalsSaid : Prop := slipTotalsRow.holds Try.pinned (OpenSpec.ofChange slipTotalsSpec)

/-- ITS FALSE NEIGHBOUR: 'it returns false'. Refute it at one input. -/
def slipTotalsWrong : ChangeSpec := { name := "slipTotals", fn := fun _ => fun
  | [d1, d2] => { results := [.lit (.bool false)], args := [d1, d2] }
  | _ => none }
def SlipTotalsWrongFalsely : Prop := slipTotalsRow.holds Try.pinned (OpenSpec.ofChange slipTotalsWrong)

/-- 'paycyclelaw.SlipVoids': WHATEVER THE INPUT: true; the input reads as it did. -/
def slipVoidsSpec : ChangeSpec := { name := "slipVoids", fn := fun _ => fun
  | [d1, d2, d3] => { results := [.lit (.bool true)], args := [d1, d2, d3] }
  | _ => none }
def slipVoidsRow : OpenClaim := { program := "ytiedlmhahdnhaaa", sum := "1726caa69c0d818eb720bc1caac8b5dda00a387fc6edfb2d5d9e9b594b8b9d3b", func := "paycycle/paycyclelaw.SlipVoids", spec := "slipVoids", unfollowed := true, recurses := true, apart := false }
def SlipVoidsSaid : Prop := slipVoidsRow.holds Try.pinned (OpenSpec.ofChange slipVoidsSpec)

/-- ITS FALSE NEIGHBOUR: 'it returns false'. Refute it at one input. -/
def slipVoidsWrong : ChangeSpec := { name := "slipVoids", fn := fun _ => fun
  | [d1, d2, d3] => { results := [.lit (.bool false)], args := [d1, d2, d3] }
  | _ => none }
def SlipVoidsWrongFalsely : Prop := slipVoidsRow.holds Try.pinned (OpenSpec.ofChange slipVoidsWrong)

/-- 'paycyclelaw.SlipRuns': WHATEVER THE INPUT: true; the input reads as it did. -/
def slipRunsSpec : ChangeSpec := { name := "slipRuns", fn := fun _ => fun
  | [d1, d2] => { results := [.lit (.bool true)], args := [d1, d2] }
  | _ => none }
def slipRunsRow : OpenClaim := { program := "ytiedlmhahdnhaaa", sum := "1726caa69c0d818eb720bc1caac8b5dda00a387fc6edfb2d5d9e9b594b8b9d3b", func := "paycycle/paycyclelaw.SlipRuns", spec := "slipRuns", unfollowed := true, recurses := true, apart := false }
def SlipRunsSaid : Prop := slipRunsRow.holds Try.pinned (OpenSpec.ofChange slipRunsSpec)

/-- ITS FALSE NEIGHBOUR: 'it returns false'. Refute it at one input. -/
def slipRunsWrong : ChangeSpec := { name := "slipRuns", fn := fun _ => fun
  | [d1, d2] => { results := [.lit (.bool false)], args := [d1, d2] }
  | _ => none }
def SlipRunsWrongFalsely : Prop := slipRunsRow.holds Try.pinned (OpenSpec.ofChange slipRunsWrong)

/-- 'paycyclelaw.SlipLasts': WHATEVER THE INPUT: true; the input reads as it did. -/
def slipLastsSpec : ChangeSpec := { name := "slipLasts", fn := fun _ => fun
  | [d] => { results := [.lit (.bool true)], args := [d] }
  | _ => none }
def slipLastsRow : OpenClaim := { program := "ytiedlmhahdnhaaa", sum := "1726caa69c0d818eb720bc1caac8b5dda00a387fc6edfb2d5d9e9b594b8b9d3b", func := "paycycle/paycyclelaw.SlipLasts", spec := "slipLasts", unfollowed := true, recurses := true, apart := false }
def SlipLastsSaid : Prop := slipLastsRow.holds Try.pinned (OpenSpec.ofChange slipLastsSpec)

/-- ITS FALSE NEIGHBOUR: 'it returns false'. Refute it at one input. -/
def slipLastsWrong : ChangeSpec := { name := "slipLasts", fn := fun _ => fun
  | [d] => { results := [.lit (.bool false)], args := [d] }
  | _ => none }
def SlipLastsWrongFalsely : Prop := slipLastsRow.holds Try.pinned (OpenSpec.ofChange slipLastsWrong)

/-- 'paycyclelaw.SlipBefore': WHATEVER THE INPUT: true; the input reads as it did. -/
def slipBeforeSpec : ChangeSpec := { name := "slipBefore", fn := fun _ => fun
  | [d1, d2] => { results := [.lit (.bool true)], args := [d1, d2] }
  | _ => none }
def slipBeforeRow : OpenClaim := { program := "ytiedlmhahdnhaaa", sum := "1726caa69c0d818eb720bc1caac8b5dda00a387fc6edfb2d5d9e9b594b8b9d3b", func := "paycycle/paycyclelaw.SlipBefore", spec := "slipBefore", unfollowed := true, recurses := true, apart := false }
def SlipBeforeSaid : Prop := slipBeforeRow.holds Try.pinned (OpenSpec.ofChange slipBeforeSpec)

/-- ITS FALSE NEIGHBOUR: 'it returns false'. Refute it at one input. -/
def slipBeforeWrong : ChangeSpec := { name := "slipBefore", fn := fun _ => fun
  | [d1, d2] => { results := [.lit (.bool false)], args := [d1, d2] }
  | _ => none }
def SlipBeforeWrongFalsely : Prop := slipBeforeRow.holds Try.pinned (OpenSpec.ofChange slipBeforeWrong)

/-- 'paycyclelaw.SlipCascades': WHATEVER THE INPUT: true; the input reads as it did. -/
def slipCascadesSpec : ChangeSpec := { name := "slipCascades", fn := fun _ => fun
  | [d1, d2, d3] => { results := [.lit (.bool true)], args := [d1, d2, d3] }
  | _ => none }
def slipCascadesRow : OpenClaim := { program := "ytiedlmhahdnhaaa", sum := "1726caa69c0d818eb720bc1caac8b5dda00a387fc6edfb2d5d9e9b594b8b9d3b", func := "paycycle/paycyclelaw.SlipCascades", spec := "slipCascades", unfollowed := true, recurses := true, apart := false }
def SlipCascadesSaid : Prop := slipCascadesRow.holds Try.pinned (OpenSpec.ofChange slipCascadesSpec)

/-- ITS FALSE NEIGHBOUR: 'it returns false'. Refute it at one input. -/
def slipCascadesWrong : ChangeSpec := { name := "slipCascades", fn := fun _ => fun
  | [d1, d2, d3] => { results := [.lit (.bool false)], args := [d1, d2, d3] }
  | _ => none }
def SlipCascadesWrongFalsely : Prop := slipCascadesRow.holds Try.pinned (OpenSpec.ofChange slipCascadesWrong)

/- THE SECOND FORM. 'bulk': how many values and letters a reading holds, each counted each time it is reached (what is shared counts as often as it is met; a slice's spare places count too). A statement '..UptoSaid' is the law's where the arguments, and the package variables that the reading takes, are together of bulk at most 1048576: NARROWER than '..Said'. Prove '..Said' where nothing that the law and all that it calls make is longer than what came in: it says more and counts as full. Else prove '..UptoSaid'. A law counts once. -/
mutual
def uptoBulk {H : Type} : DataW H → Nat
  | .lit (.string bytes) => bytes.length + 1
  | .lit _ => 1
  | .nil => 1
  | .ptr d => uptoBulk d + 1
  | .slice elems spare => uptoBulkAll elems + uptoBulkAll spare + 1
  | .agg parts => uptoBulkAll parts + 1
  | .iface _ d => uptoBulk d + 1
  | .map entries => uptoBulkEntries entries + 1
  | .held _ => 1
def uptoBulkAll {H : Type} : List (DataW H) → Nat
  | [] => 0
  | d :: r => uptoBulk d + uptoBulkAll r
def uptoBulkEntries {H : Type} : List (Lit × DataW H) → Nat
  | [] => 0
  | x :: r => uptoBulkEntry x + uptoBulkEntries r
def uptoBulkEntry {H : Type} : Lit × DataW H → Nat
  | (.string bytes, d) => bytes.length + uptoBulk d + 1
  | (_, d) => uptoBulk d + 1
 end
def uptoSmall : (H : Type) → List (DataW H) → Bool := fun _ ds => decide (uptoBulkAll ds ≤ 1048576)
def OpenSpec.upto (s : _root_.Go.ChangeSpec) : _root_.Go.OpenSpec := { _root_.Go.OpenSpec.ofChange s with cond := some uptoSmall }

/-- 'paycyclelaw.SlipChecks', WHERE WHAT IT READS IS OF BULK AT MOST 1048576: true; the input reads as it did. -/
def slipChecksUptoRow : OpenClaim := { program := "ytiedlmhahdnhaaa", sum := "1726caa69c0d818eb720bc1caac8b5dda00a387fc6edfb2d5d9e9b594b8b9d3b", func := "paycycle/paycyclelaw.SlipChecks", spec := "slipChecks", unfollowed := true, recurses := true, apart := false, narrowed := true }
def SlipChecksUptoSaid : Prop := slipChecksUptoRow.holds Try.pinned (OpenSpec.upto slipChecksSpec)

/-- 'paycyclelaw.SlipTotals', WHERE WHAT IT READS IS OF BULK AT MOST 1048576: true; the input reads as it did. -/
def slipTotalsUptoRow : OpenClaim := { program := "ytiedlmhahdnhaaa", sum := "1726caa69c0d818eb720bc1caac8b5dda00a387fc6edfb2d5d9e9b594b8b9d3b", func := "paycycle/paycyclelaw.SlipTotals", spec := "slipTotals", unfollowed := true, recurses := true, apart := false, narrowed := true }
def SlipTotalsUptoSaid : Prop := slipTotalsUptoRow.holds Try.pinned (OpenSpec.upto slipTotalsSpec)

/-- 'paycyclelaw.SlipVoids', WHERE WHAT IT READS IS OF BULK AT MOST 1048576: true; the input reads as it did. -/
def slipVoidsUptoRow : OpenClaim := { program := "ytiedlmhahdnhaaa", sum := "1726caa69c0d818eb720bc1caac8b5dda00a387fc6edfb2d5d9e9b594b8b9d3b", func := "paycycle/paycyclelaw.SlipVoids", spec := "slipVoids", unfollowed := true, recurses := true, apart := false, narrowed := true }
def SlipVoidsUptoSaid : Prop := slipVoidsUptoRow.holds Try.pinned (OpenSpec.upto slipVoidsSpec)

/-- 'paycyclelaw.SlipRuns', WHERE WHAT IT READS IS OF BULK AT MOST 1048576: true; the input reads as it did. -/
def slipRunsUptoRow : OpenClaim := { program := "ytiedlmhahdnhaaa", sum := "1726caa69c0d818eb720bc1caac8b5dda00a387fc6edfb2d5d9e9b594b8b9d3b", func := "paycycle/paycyclelaw.SlipRuns", spec := "slipRuns", unfollowed := true, recurses := true, apart := false, narrowed := true }
def SlipRunsUptoSaid : Prop := slipRunsUptoRow.holds Try.pinned (OpenSpec.upto slipRunsSpec)

/-- 'paycyclelaw.SlipLasts', WHERE WHAT IT READS IS OF BULK AT MOST 1048576: true; the input reads as it did. -/
def slipLastsUptoRow : OpenClaim := { program := "ytiedlmhahdnhaaa", sum := "1726caa69c0d818eb720bc1caac8b5dda00a387fc6edfb2d5d9e9b594b8b9d3b", func := "paycycle/paycyclelaw.SlipLasts", spec := "slipLasts", unfollowed := true, recurses := true, apart := false, narrowed := true }
def SlipLastsUptoSaid : Prop := slipLastsUptoRow.holds Try.pinned (OpenSpec.upto slipLastsSpec)

/-- 'paycyclelaw.SlipBefore', WHERE WHAT IT READS IS OF BULK AT MOST 1048576: true; the input reads as it did. -/
def slipBeforeUptoRow : OpenClaim := { program := "ytiedlmhahdnhaaa", sum := "1726caa69c0d818eb720bc1caac8b5dda00a387fc6edfb2d5d9e9b594b8b9d3b", func := "paycycle/paycyclelaw.SlipBefore", spec := "slipBefore", unfollowed := true, recurses := true, apart := false, narrowed := true }
def SlipBeforeUptoSaid : Prop := slipBeforeUptoRow.holds Try.pinned (OpenSpec.upto slipBeforeSpec)

/-- 'paycyclelaw.SlipCascades', WHERE WHAT IT READS IS OF BULK AT MOST 1048576: true; the input reads as it did. -/
def slipCascadesUptoRow : OpenClaim := { program := "ytiedlmhahdnhaaa", sum := "1726caa69c0d818eb720bc1caac8b5dda00a387fc6edfb2d5d9e9b594b8b9d3b", func := "paycycle/paycyclelaw.SlipCascades", spec := "slipCascades", unfollowed := true, recurses := true, apart := false, narrowed := true }
def SlipCascadesUptoSaid : Prop := slipCascadesUptoRow.holds Try.pinned (OpenSpec.upto slipCascadesSpec)

end Rows
end Go.Proofs.Ytiedlmhahdnhaaa
