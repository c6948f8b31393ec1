/-
  No cell of these rows narrows 'for every input' (looked for: loops, veiled, ifaces, maps, wideKeys, modest, calm, conditions, laid).
  DERIVED. THE GIVEN ROWS OF THIS SEAT. 9 by the template 'for every input the law returns true; each argument reads behind the call as it read before'; 0 by the template 'total and deterministic' (their statements: YtoglgakaipcieaaTotals.lean).
  GIVEN WITH THE SEED: the statements are not yours to turn. If you find one false, say at which input.
  Laid BY PROGRAM, IN A SANDBOX (cutbox-rows.mjs): the forced cells as the released guide's own fill.sh prints them over the translation df9cfd52e0c2f025… (all of the seat's roots in one cut). By AI agents, Wed Nov 11 2026. No macro, syntax, notation, axiom, sorry.
-/
import Derived.Test.YtoglgakaipcieaaChecked
import GoSem.Claim
import GoSem.ClaimJoined
import GoSem.ClaimMapViews
import Derived.JoinedTies
import Derived.KernelRfl
namespace Go.Proofs.Ytoglgakaipcieaa
/- THE CELL 'sum', in the pinned program and in every row, IS THE sha256 OF THE DUMP (.gsa) THAT YtoglgakaipcieaaProg.lean LOADS. Nothing in Lean hashes anything: it is a label: what it is worth is what the hold of that sum in a sandbox is worth. -/
noncomputable def Try.pinned : Pinned := { name := "ytoglgakaipcieaa", sum := "df9cfd52e0c2f025c66859e8412d4be3ccc001e6feb812a768123e8a647f554c", checked := Try.checked }
namespace Rows
def none {H : Type} : Left H := { results := [], args := [] }

/-- 'paycyclelaw.HistoryChecks': WHATEVER THE INPUT: true; the input reads as it did. -/
def historyChecksSpec : ChangeSpec := { name := "historyChecks", fn := fun _ => fun
  | [d] => { results := [.lit (.bool true)], args := [d] }
  | _ => none }
def historyChecksRow : OpenClaim := { program := "ytoglgakaipcieaa", sum := "df9cfd52e0c2f025c66859e8412d4be3ccc001e6feb812a768123e8a647f554c", func := "paycycle/paycyclelaw.HistoryChecks", spec := "historyChecks", apart := false }
def HistoryChecksSaid : Prop := historyChecksRow.holds Try.pinned (OpenSpec.ofChange historyChecksSpec)

/-- ITS FALSE NEIGHBOUR: 'it returns false'. Refute it at one input. -/
def historyChecksWrong : ChangeSpec := { name := "historyChecks", fn := fun _ => fun
  | [d] => { results := [.lit (.bool false)], args := [d] }
  | _ => none }
def HistoryChecksWrongFalsely : Prop := historyChecksRow.holds Try.pinned (OpenSpec.ofChange historyChecksWrong)

/-- 'paycyclelaw.HistoryPuts': WHATEVER THE INPUT: true; the input reads as it did. -/
def historyPutsSpec : ChangeSpec := { name := "historyPuts", fn := fun _ => fun
  | [d1, d2] => { results := [.lit (.bool true)], args := [d1, d2] }
  | _ => none }
def historyPutsRow : OpenClaim := { program := "ytoglgakaipcieaa", sum := "df9cfd52e0c2f025c66859e8412d4be3ccc001e6feb812a768123e8a647f554c", func := "paycycle/paycyclelaw.HistoryPuts", spec := "historyPuts", apart := false }
def HistoryPutsSaid : Prop := historyPutsRow.holds Try.pinned (OpenSpec.ofChange historyPutsSpec)

/-- ITS FALSE NEIGHBOUR: 'it returns false'. Refute it at one input. -/
def historyPutsWrong : ChangeSpec := { name := "historyPuts", fn := fun _ => fun
  | [d1, d2] => { results := [.lit (.bool false)], args := [d1, d2] }
  | _ => none }
def HistoryPutsWrongFalsely : Prop := historyPutsRow.holds Try.pinned (OpenSpec.ofChange historyPutsWrong)

/-- 'paycyclelaw.HistoryAt': WHATEVER THE INPUT: true; the input reads as it did. -/
def historyAtSpec : ChangeSpec := { name := "historyAt", fn := fun _ => fun
  | [d1, d2, d3] => { results := [.lit (.bool true)], args := [d1, d2, d3] }
  | _ => none }
def historyAtRow : OpenClaim := { program := "ytoglgakaipcieaa", sum := "df9cfd52e0c2f025c66859e8412d4be3ccc001e6feb812a768123e8a647f554c", func := "paycycle/paycyclelaw.HistoryAt", spec := "historyAt", apart := false }
def HistoryAtSaid : Prop := historyAtRow.holds Try.pinned (OpenSpec.ofChange historyAtSpec)

/-- ITS FALSE NEIGHBOUR: 'it returns false'. Refute it at one input. -/
def historyAtWrong : ChangeSpec := { name := "historyAt", fn := fun _ => fun
  | [d1, d2, d3] => { results := [.lit (.bool false)], args := [d1, d2, d3] }
  | _ => none }
def HistoryAtWrongFalsely : Prop := historyAtRow.holds Try.pinned (OpenSpec.ofChange historyAtWrong)

/-- 'paycyclelaw.HistoryStretches': WHATEVER THE INPUT: true; the input reads as it did. -/
def historyStretchesSpec : ChangeSpec := { name := "historyStretches", fn := fun _ => fun
  | [d1, d2, d3, d4] => { results := [.lit (.bool true)], args := [d1, d2, d3, d4] }
  | _ => none }
def historyStretchesRow : OpenClaim := { program := "ytoglgakaipcieaa", sum := "df9cfd52e0c2f025c66859e8412d4be3ccc001e6feb812a768123e8a647f554c", func := "paycycle/paycyclelaw.HistoryStretches", spec := "historyStretches", apart := false }
def HistoryStretchesSaid : Prop := historyStretchesRow.holds Try.pinned (OpenSpec.ofChange historyStretchesSpec)

/-- ITS FALSE NEIGHBOUR: 'it returns false'. Refute it at one input. -/
def historyStretchesWrong : ChangeSpec := { name := "historyStretches", fn := fun _ => fun
  | [d1, d2, d3, d4] => { results := [.lit (.bool false)], args := [d1, d2, d3, d4] }
  | _ => none }
def HistoryStretchesWrongFalsely : Prop := historyStretchesRow.holds Try.pinned (OpenSpec.ofChange historyStretchesWrong)

/-- 'paycyclelaw.HistoryDiffers': WHATEVER THE INPUT: true; the input reads as it did. -/
def historyDiffersSpec : ChangeSpec := { name := "historyDiffers", fn := fun _ => fun
  | [d1, d2, d3] => { results := [.lit (.bool true)], args := [d1, d2, d3] }
  | _ => none }
def historyDiffersRow : OpenClaim := { program := "ytoglgakaipcieaa", sum := "df9cfd52e0c2f025c66859e8412d4be3ccc001e6feb812a768123e8a647f554c", func := "paycycle/paycyclelaw.HistoryDiffers", spec := "historyDiffers", apart := false }
def HistoryDiffersSaid : Prop := historyDiffersRow.holds Try.pinned (OpenSpec.ofChange historyDiffersSpec)

/-- ITS FALSE NEIGHBOUR: 'it returns false'. Refute it at one input. -/
def historyDiffersWrong : ChangeSpec := { name := "historyDiffers", fn := fun _ => fun
  | [d1, d2, d3] => { results := [.lit (.bool false)], args := [d1, d2, d3] }
  | _ => none }
def HistoryDiffersWrongFalsely : Prop := historyDiffersRow.holds Try.pinned (OpenSpec.ofChange historyDiffersWrong)

/-- 'paycyclelaw.HistoryCovers': WHATEVER THE INPUT: true; the input reads as it did. -/
def historyCoversSpec : ChangeSpec := { name := "historyCovers", fn := fun _ => fun
  | [d1, d2, d3, d4, d5] => { results := [.lit (.bool true)], args := [d1, d2, d3, d4, d5] }
  | _ => none }
def historyCoversRow : OpenClaim := { program := "ytoglgakaipcieaa", sum := "df9cfd52e0c2f025c66859e8412d4be3ccc001e6feb812a768123e8a647f554c", func := "paycycle/paycyclelaw.HistoryCovers", spec := "historyCovers", apart := false }
def HistoryCoversSaid : Prop := historyCoversRow.holds Try.pinned (OpenSpec.ofChange historyCoversSpec)

/-- ITS FALSE NEIGHBOUR: 'it returns false'. Refute it at one input. -/
def historyCoversWrong : ChangeSpec := { name := "historyCovers", fn := fun _ => fun
  | [d1, d2, d3, d4, d5] => { results := [.lit (.bool false)], args := [d1, d2, d3, d4, d5] }
  | _ => none }
def HistoryCoversWrongFalsely : Prop := historyCoversRow.holds Try.pinned (OpenSpec.ofChange historyCoversWrong)

/-- 'paycyclelaw.HistoryKeeps': WHATEVER THE INPUT: true; the input reads as it did. -/
def historyKeepsSpec : ChangeSpec := { name := "historyKeeps", fn := fun _ => fun
  | [d1, d2, d3, d4] => { results := [.lit (.bool true)], args := [d1, d2, d3, d4] }
  | _ => none }
def historyKeepsRow : OpenClaim := { program := "ytoglgakaipcieaa", sum := "df9cfd52e0c2f025c66859e8412d4be3ccc001e6feb812a768123e8a647f554c", func := "paycycle/paycyclelaw.HistoryKeeps", spec := "historyKeeps", apart := false }
def HistoryKeepsSaid : Prop := historyKeepsRow.holds Try.pinned (OpenSpec.ofChange historyKeepsSpec)

/-- ITS FALSE NEIGHBOUR: 'it returns false'. Refute it at one input. -/
def historyKeepsWrong : ChangeSpec := { name := "historyKeeps", fn := fun _ => fun
  | [d1, d2, d3, d4] => { results := [.lit (.bool false)], args := [d1, d2, d3, d4] }
  | _ => none }
def HistoryKeepsWrongFalsely : Prop := historyKeepsRow.holds Try.pinned (OpenSpec.ofChange historyKeepsWrong)

/-- 'paycyclelaw.HistorySame': WHATEVER THE INPUT: true; the input reads as it did. -/
def historySameSpec : ChangeSpec := { name := "historySame", fn := fun _ => fun
  | [d1, d2, d3, d4] => { results := [.lit (.bool true)], args := [d1, d2, d3, d4] }
  | _ => none }
def historySameRow : OpenClaim := { program := "ytoglgakaipcieaa", sum := "df9cfd52e0c2f025c66859e8412d4be3ccc001e6feb812a768123e8a647f554c", func := "paycycle/paycyclelaw.HistorySame", spec := "historySame", apart := false }
def HistorySameSaid : Prop := historySameRow.holds Try.pinned (OpenSpec.ofChange historySameSpec)

/-- ITS FALSE NEIGHBOUR: 'it returns false'. Refute it at one input. -/
def historySameWrong : ChangeSpec := { name := "historySame", fn := fun _ => fun
  | [d1, d2, d3, d4] => { results := [.lit (.bool false)], args := [d1, d2, d3, d4] }
  | _ => none }
def HistorySameWrongFalsely : Prop := historySameRow.holds Try.pinned (OpenSpec.ofChange historySameWrong)

/-- 'paycyclelaw.RestRows': WHATEVER THE INPUT: true; the input reads as it did. -/
def restRowsSpec : ChangeSpec := { name := "restRows", fn := fun _ => fun
  | [d1, d2] => { results := [.lit (.bool true)], args := [d1, d2] }
  | _ => none }
def restRowsRow : OpenClaim := { program := "ytoglgakaipcieaa", sum := "df9cfd52e0c2f025c66859e8412d4be3ccc001e6feb812a768123e8a647f554c", func := "paycycle/paycyclelaw.RestRows", spec := "restRows", apart := false }
def RestRowsSaid : Prop := restRowsRow.holds Try.pinned (OpenSpec.ofChange restRowsSpec)

/-- ITS FALSE NEIGHBOUR: 'it returns false'. Refute it at one input. -/
def restRowsWrong : ChangeSpec := { name := "restRows", fn := fun _ => fun
  | [d1, d2] => { results := [.lit (.bool false)], args := [d1, d2] }
  | _ => none }
def RestRowsWrongFalsely : Prop := restRowsRow.holds Try.pinned (OpenSpec.ofChange restRowsWrong)

/- THE SECOND FORM. 'bulk': how many values and letters a reading holds, each counted each time it is reached (what is shared counts as often as it is met; a slice's spare places count too). A statement '..UptoSaid' is the law's where the arguments, and the package variables that the reading takes, are together of bulk at most 1048576: NARROWER than '..Said'. Prove '..Said' where nothing that the law and all that it calls make is longer than what came in: it says more and counts as full. Else prove '..UptoSaid'. A law counts once. -/
mutual
def uptoBulk {H : Type} : DataW H → Nat
  | .lit (.string bytes) => bytes.length + 1
  | .lit _ => 1
  | .nil => 1
  | .ptr d => uptoBulk d + 1
  | .slice elems spare => uptoBulkAll elems + uptoBulkAll spare + 1
  | .agg parts => uptoBulkAll parts + 1
  | .iface _ d => uptoBulk d + 1
  | .map entries => uptoBulkEntries entries + 1
  | .held _ => 1
def uptoBulkAll {H : Type} : List (DataW H) → Nat
  | [] => 0
  | d :: r => uptoBulk d + uptoBulkAll r
def uptoBulkEntries {H : Type} : List (Lit × DataW H) → Nat
  | [] => 0
  | x :: r => uptoBulkEntry x + uptoBulkEntries r
def uptoBulkEntry {H : Type} : Lit × DataW H → Nat
  | (.string bytes, d) => bytes.length + uptoBulk d + 1
  | (_, d) => uptoBulk d + 1
 end
def uptoSmall : (H : Type) → List (DataW H) → Bool := fun _ ds => decide (uptoBulkAll ds ≤ 1048576)
def OpenSpec.upto (s : _root_.Go.ChangeSpec) : _root_.Go.OpenSpec := { _root_.Go.OpenSpec.ofChange s with cond := some uptoSmall }

/-- 'paycyclelaw.HistoryChecks', WHERE WHAT IT READS IS OF BULK AT MOST 1048576: true; the input reads as it did. -/
def historyChecksUptoRow : OpenClaim := { program := "ytoglgakaipcieaa", sum := "df9cfd52e0c2f025c66859e8412d4be3ccc001e6feb812a768123e8a647f554c", func := "paycycle/paycyclelaw.HistoryChecks", spec := "historyChecks", apart := false, narrowed := true }
def HistoryChecksUptoSaid : Prop := historyChecksUptoRow.holds Try.pinned (OpenSpec.upto historyChecksSpec)

/-- 'paycyclelaw.HistoryPuts', WHERE WHAT IT READS IS OF BULK AT MOST 1048576: true; the input reads as it did. -/
def historyPutsUptoRow : OpenClaim := { program := "ytoglgakaipcieaa", sum := "df9cfd52e0c2f025c66859e8412d4be3ccc001e6feb812a768123e8a647f554c", func := "paycycle/paycyclelaw.HistoryPuts", spec := "historyPuts", apart := false, narrowed := true }
def HistoryPutsUptoSaid : Prop := historyPutsUptoRow.holds Try.pinned (OpenSpec.upto historyPutsSpec)

/-- 'paycyclelaw.HistoryAt', WHERE WHAT IT READS IS OF BULK AT MOST 1048576: true; the input reads as it did. -/
def historyAtUptoRow : OpenClaim := { program := "ytoglgakaipcieaa", sum := "df9cfd52e0c2f025c66859e8412d4be3ccc001e6feb812a768123e8a647f554c", func := "paycycle/paycyclelaw.HistoryAt", spec := "historyAt", apart := false, narrowed := true }
def HistoryAtUptoSaid : Prop := historyAtUptoRow.holds Try.pinned (OpenSpec.upto historyAtSpec)

/-- 'paycyclelaw.HistoryStretches', WHERE WHAT IT READS IS OF BULK AT MOST 1048576: true; the input reads as it did. -/
def historyStretchesUptoRow : OpenClaim := { program := "ytoglgakaipcieaa", sum := "df9cfd52e0c2f025c66859e8412d4be3ccc001e6feb812a768123e8a647f554c", func := "paycycle/paycyclelaw.HistoryStretches", spec := "historyStretches", apart := false, narrowed := true }
def HistoryStretchesUptoSaid : Prop := historyStretchesUptoRow.holds Try.pinned (OpenSpec.upto historyStretchesSpec)

/-- 'paycyclelaw.HistoryDiffers', WHERE WHAT IT READS IS OF BULK AT MOST 1048576: true; the input reads as it did. -/
def historyDiffersUptoRow : OpenClaim := { program := "ytoglgakaipcieaa", sum := "df9cfd52e0c2f025c66859e8412d4be3ccc001e6feb812a768123e8a647f554c", func := "paycycle/paycyclelaw.HistoryDiffers", spec := "historyDiffers", apart := false, narrowed := true }
def HistoryDiffersUptoSaid : Prop := historyDiffersUptoRow.holds Try.pinned (OpenSpec.upto historyDiffersSpec)

/-- 'paycyclelaw.HistoryCovers', WHERE WHAT IT READS IS OF BULK AT MOST 1048576: true; the input reads as it did. -/
def historyCoversUptoRow : OpenClaim := { program := "ytoglgakaipcieaa", sum := "df9cfd52e0c2f025c66859e8412d4be3ccc001e6feb812a768123e8a647f554c", func := "paycycle/paycyclelaw.HistoryCovers", spec := "historyCovers", apart := false, narrowed := true }
def HistoryCoversUptoSaid : Prop := historyCoversUptoRow.holds Try.pinned (OpenSpec.upto historyCoversSpec)

/-- 'paycyclelaw.HistoryKeeps', WHERE WHAT IT READS IS OF BULK AT MOST 1048576: true; the input reads as it did. -/
def historyKeepsUptoRow : OpenClaim := { program := "ytoglgakaipcieaa", sum := "df9cfd52e0c2f025c66859e8412d4be3ccc001e6feb812a768123e8a647f554c", func := "paycycle/paycyclelaw.HistoryKeeps", spec := "historyKeeps", apart := false, narrowed := true }
def HistoryKeepsUptoSaid : Prop := historyKeepsUptoRow.holds Try.pinned (OpenSpec.upto historyKeepsSpec)

/-- 'paycyclelaw.HistorySame', WHERE WHAT IT READS IS OF BULK AT MOST 1048576: true; the input reads as it did. -/
def historySameUptoRow : OpenClaim := { program := "ytoglgakaipcieaa", sum := "df9cfd52e0c2f025c66859e8412d4be3ccc001e6feb812a768123e8a647f554c", func := "paycycle/paycyclelaw.HistorySame", spec := "historySame", apart := false, narrowed := true }
def HistorySameUptoSaid : Prop := historySameUptoRow.holds Try.pinned (OpenSpec.upto historySameSpec)

/-- 'paycyclelaw.RestRows', WHERE WHAT IT READS IS OF BULK AT MOST 1048576: true; the input reads as it did. -/
def restRowsUptoRow : OpenClaim := { program := "ytoglgakaipcieaa", sum := "df9cfd52e0c2f025c66859e8412d4be3ccc001e6feb812a768123e8a647f554c", func := "paycycle/paycyclelaw.RestRows", spec := "restRows", apart := false, narrowed := true }
def RestRowsUptoSaid : Prop := restRowsUptoRow.holds Try.pinned (OpenSpec.upto restRowsSpec)

end Rows
end Go.Proofs.Ytoglgakaipcieaa
