/-
  No cell of these rows narrows 'for every input' (looked for: loops, veiled, ifaces, maps, wideKeys, modest, calm, conditions, laid).
  DERIVED. THE GIVEN ROWS OF THIS SEAT. 5 by the template 'for every input the law returns true; each argument reads behind the call as it read before'; 0 by the template 'total and deterministic' (their statements: YtpcmdoaaombddaaTotals.lean).
  GIVEN WITH THE SEED: the statements are not yours to turn. If you find one false, say at which input.
  Laid BY PROGRAM, IN A SANDBOX (cutbox-rows.mjs): the forced cells as the released guide's own fill.sh prints them over the translation ad20429a8c747980… (all of the seat's roots in one cut). By AI agents, Wed Nov 11 2026. No macro, syntax, notation, axiom, sorry.
-/
import Derived.Test.YtpcmdoaaombddaaChecked
import GoSem.Claim
import GoSem.ClaimJoined
import GoSem.ClaimMapViews
import Derived.JoinedTies
import Derived.KernelRfl
namespace Go.Proofs.Ytpcmdoaaombddaa
/- THE CELL 'sum', in the pinned program and in every row, IS THE sha256 OF THE DUMP (.gsa) THAT YtpcmdoaaombddaaProg.lean LOADS. Nothing in Lean hashes anything: it is a label: what it is worth is what the hold of that sum in a sandbox is worth. -/
noncomputable def Try.pinned : Pinned := { name := "ytpcmdoaaombddaa", sum := "ad20429a8c747980fb4ae843257ea59841a3a1f393d85a265ca849620f6d5f33", checked := Try.checked }
namespace Rows
def none {H : Type} : Left H := { results := [], args := [] }

/-- 'paycyclelaw.HistoryChecks': WHATEVER THE INPUT: true; the input reads as it did. -/
def historyChecksSpec : ChangeSpec := { name := "historyChecks", fn := fun _ => fun
  | [d] => { results := [.lit (.bool true)], args := [d] }
  | _ => none }
def historyChecksRow : OpenClaim := { program := "ytpcmdoaaombddaa", sum := "ad20429a8c747980fb4ae843257ea59841a3a1f393d85a265ca849620f6d5f33", func := "paycycle/paycyclelaw.HistoryChecks", spec := "historyChecks", apart := false }
def HistoryChecksSaid : Prop := historyChecksRow.holds Try.pinned (OpenSpec.ofChange historyChecksSpec)

/-- ITS FALSE NEIGHBOUR: 'it returns false'. Refute it at one input. -/
def historyChecksWrong : ChangeSpec := { name := "historyChecks", fn := fun _ => fun
  | [d] => { results := [.lit (.bool false)], args := [d] }
  | _ => none }
def HistoryChecksWrongFalsely : Prop := historyChecksRow.holds Try.pinned (OpenSpec.ofChange historyChecksWrong)

/-- 'paycyclelaw.HistoryAt': WHATEVER THE INPUT: true; the input reads as it did. -/
def historyAtSpec : ChangeSpec := { name := "historyAt", fn := fun _ => fun
  | [d1, d2, d3] => { results := [.lit (.bool true)], args := [d1, d2, d3] }
  | _ => none }
def historyAtRow : OpenClaim := { program := "ytpcmdoaaombddaa", sum := "ad20429a8c747980fb4ae843257ea59841a3a1f393d85a265ca849620f6d5f33", func := "paycycle/paycyclelaw.HistoryAt", spec := "historyAt", apart := false }
def HistoryAtSaid : Prop := historyAtRow.holds Try.pinned (OpenSpec.ofChange historyAtSpec)

/-- ITS FALSE NEIGHBOUR: 'it returns false'. Refute it at one input. -/
def historyAtWrong : ChangeSpec := { name := "historyAt", fn := fun _ => fun
  | [d1, d2, d3] => { results := [.lit (.bool false)], args := [d1, d2, d3] }
  | _ => none }
def HistoryAtWrongFalsely : Prop := historyAtRow.holds Try.pinned (OpenSpec.ofChange historyAtWrong)

/-- 'paycyclelaw.HistoryDiffers': WHATEVER THE INPUT: true; the input reads as it did. -/
def historyDiffersSpec : ChangeSpec := { name := "historyDiffers", fn := fun _ => fun
  | [d1, d2, d3] => { results := [.lit (.bool true)], args := [d1, d2, d3] }
  | _ => none }
def historyDiffersRow : OpenClaim := { program := "ytpcmdoaaombddaa", sum := "ad20429a8c747980fb4ae843257ea59841a3a1f393d85a265ca849620f6d5f33", func := "paycycle/paycyclelaw.HistoryDiffers", spec := "historyDiffers", apart := false }
def HistoryDiffersSaid : Prop := historyDiffersRow.holds Try.pinned (OpenSpec.ofChange historyDiffersSpec)

/-- ITS FALSE NEIGHBOUR: 'it returns false'. Refute it at one input. -/
def historyDiffersWrong : ChangeSpec := { name := "historyDiffers", fn := fun _ => fun
  | [d1, d2, d3] => { results := [.lit (.bool false)], args := [d1, d2, d3] }
  | _ => none }
def HistoryDiffersWrongFalsely : Prop := historyDiffersRow.holds Try.pinned (OpenSpec.ofChange historyDiffersWrong)

/-- 'paycyclelaw.HistoryKeeps': WHATEVER THE INPUT: true; the input reads as it did. -/
def historyKeepsSpec : ChangeSpec := { name := "historyKeeps", fn := fun _ => fun
  | [d1, d2, d3, d4] => { results := [.lit (.bool true)], args := [d1, d2, d3, d4] }
  | _ => none }
def historyKeepsRow : OpenClaim := { program := "ytpcmdoaaombddaa", sum := "ad20429a8c747980fb4ae843257ea59841a3a1f393d85a265ca849620f6d5f33", func := "paycycle/paycyclelaw.HistoryKeeps", spec := "historyKeeps", apart := false }
def HistoryKeepsSaid : Prop := historyKeepsRow.holds Try.pinned (OpenSpec.ofChange historyKeepsSpec)

/-- ITS FALSE NEIGHBOUR: 'it returns false'. Refute it at one input. -/
def historyKeepsWrong : ChangeSpec := { name := "historyKeeps", fn := fun _ => fun
  | [d1, d2, d3, d4] => { results := [.lit (.bool false)], args := [d1, d2, d3, d4] }
  | _ => none }
def HistoryKeepsWrongFalsely : Prop := historyKeepsRow.holds Try.pinned (OpenSpec.ofChange historyKeepsWrong)

/-- 'paycyclelaw.HistorySame': WHATEVER THE INPUT: true; the input reads as it did. -/
def historySameSpec : ChangeSpec := { name := "historySame", fn := fun _ => fun
  | [d1, d2, d3, d4] => { results := [.lit (.bool true)], args := [d1, d2, d3, d4] }
  | _ => none }
def historySameRow : OpenClaim := { program := "ytpcmdoaaombddaa", sum := "ad20429a8c747980fb4ae843257ea59841a3a1f393d85a265ca849620f6d5f33", func := "paycycle/paycyclelaw.HistorySame", spec := "historySame", apart := false }
def HistorySameSaid : Prop := historySameRow.holds Try.pinned (OpenSpec.ofChange historySameSpec)

/-- ITS FALSE NEIGHBOUR: 'it returns false'. Refute it at one input. -/
def historySameWrong : ChangeSpec := { name := "historySame", fn := fun _ => fun
  | [d1, d2, d3, d4] => { results := [.lit (.bool false)], args := [d1, d2, d3, d4] }
  | _ => none }
def HistorySameWrongFalsely : Prop := historySameRow.holds Try.pinned (OpenSpec.ofChange historySameWrong)

/- THE SECOND FORM. 'bulk': how many values and letters a reading holds, each counted each time it is reached (what is shared counts as often as it is met; a slice's spare places count too). A statement '..UptoSaid' is the law's where the arguments, and the package variables that the reading takes, are together of bulk at most 1048576: NARROWER than '..Said'. Prove '..Said' where nothing that the law and all that it calls make is longer than what came in: it says more and counts as full. Else prove '..UptoSaid'. A law counts once. -/
mutual
def uptoBulk {H : Type} : DataW H → Nat
  | .lit (.string bytes) => bytes.length + 1
  | .lit _ => 1
  | .nil => 1
  | .ptr d => uptoBulk d + 1
  | .slice elems spare => uptoBulkAll elems + uptoBulkAll spare + 1
  | .agg parts => uptoBulkAll parts + 1
  | .iface _ d => uptoBulk d + 1
  | .map entries => uptoBulkEntries entries + 1
  | .held _ => 1
def uptoBulkAll {H : Type} : List (DataW H) → Nat
  | [] => 0
  | d :: r => uptoBulk d + uptoBulkAll r
def uptoBulkEntries {H : Type} : List (Lit × DataW H) → Nat
  | [] => 0
  | x :: r => uptoBulkEntry x + uptoBulkEntries r
def uptoBulkEntry {H : Type} : Lit × DataW H → Nat
  | (.string bytes, d) => bytes.length + uptoBulk d + 1
  | (_, d) => uptoBulk d + 1
 end
def uptoSmall : (H : Type) → List (DataW H) → Bool := fun _ ds => decide (uptoBulkAll ds ≤ 1048576)
def OpenSpec.upto (s : _root_.Go.ChangeSpec) : _root_.Go.OpenSpec := { _root_.Go.OpenSpec.ofChange s with cond := some uptoSmall }

/-- 'paycyclelaw.HistoryChecks', WHERE WHAT IT READS IS OF BULK AT MOST 1048576: true; the input reads as it did. -/
def historyChecksUptoRow : OpenClaim := { program := "ytpcmdoaaombddaa", sum := "ad20429a8c747980fb4ae843257ea59841a3a1f393d85a265ca849620f6d5f33", func := "paycycle/paycyclelaw.HistoryChecks", spec := "historyChecks", apart := false, narrowed := true }
def HistoryChecksUptoSaid : Prop := historyChecksUptoRow.holds Try.pinned (OpenSpec.upto historyChecksSpec)

/-- 'paycyclelaw.HistoryAt', WHERE WHAT IT READS IS OF BULK AT MOST 1048576: true; the input reads as it did. -/
def historyAtUptoRow : OpenClaim := { program := "ytpcmdoaaombddaa", sum := "ad20429a8c747980fb4ae843257ea59841a3a1f393d85a265ca849620f6d5f33", func := "paycycle/paycyclelaw.HistoryAt", spec := "historyAt", apart := false, narrowed := true }
def HistoryAtUptoSaid : Prop := historyAtUptoRow.holds Try.pinned (OpenSpec.upto historyAtSpec)

/-- 'paycyclelaw.HistoryDiffers', WHERE WHAT IT READS IS OF BULK AT MOST 1048576: true; the input reads as it did. -/
def historyDiffersUptoRow : OpenClaim := { program := "ytpcmdoaaombddaa", sum := "ad20429a8c747980fb4ae843257ea59841a3a1f393d85a265ca849620f6d5f33", func := "paycycle/paycyclelaw.HistoryDiffers", spec := "historyDiffers", apart := false, narrowed := true }
def HistoryDiffersUptoSaid : Prop := historyDiffersUptoRow.holds Try.pinned (OpenSpec.upto historyDiffersSpec)

/-- 'paycyclelaw.HistoryKeeps', WHERE WHAT IT READS IS OF BULK AT MOST 1048576: true; the input reads as it did. -/
def historyKeepsUptoRow : OpenClaim := { program := "ytpcmdoaaombddaa", sum := "ad20429a8c747980fb4ae843257ea59841a3a1f393d85a265ca849620f6d5f33", func := "paycycle/paycyclelaw.HistoryKeeps", spec := "historyKeeps", apart := false, narrowed := true }
def HistoryKeepsUptoSaid : Prop := historyKeepsUptoRow.holds Try.pinned (OpenSpec.upto historyKeepsSpec)

/-- 'paycyclelaw.HistorySame', WHERE WHAT IT READS IS OF BULK AT MOST 1048576: true; the input reads as it did. -/
def historySameUptoRow : OpenClaim := { program := "ytpcmdoaaombddaa", sum := "ad20429a8c747980fb4ae843257ea59841a3a1f393d85a265ca849620f6d5f33", func := "paycycle/paycyclelaw.HistorySame", spec := "historySame", apart := false, narrowed := true }
def HistorySameUptoSaid : Prop := historySameUptoRow.holds Try.pinned (OpenSpec.upto historySameSpec)

end Rows
end Go.Proofs.Ytpcmdoaaombddaa
