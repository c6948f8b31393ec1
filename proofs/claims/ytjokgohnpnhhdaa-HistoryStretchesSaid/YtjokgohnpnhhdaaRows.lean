/-
  No cell of these rows narrows 'for every input' (looked for: loops, veiled, ifaces, maps, wideKeys, modest, calm, conditions, laid).
  DERIVED. THE GIVEN ROWS OF THIS SEAT. 4 by the template 'for every input the law returns true; each argument reads behind the call as it read before'; 0 by the template 'total and deterministic' (their statements: YtjokgohnpnhhdaaTotals.lean).
  GIVEN WITH THE SEED: the statements are not yours to turn. If you find one false, say at which input.
  Laid BY PROGRAM, IN A SANDBOX (cutbox-rows.mjs): the forced cells as the released guide's own fill.sh prints them over the translation c2e101c5d5a8e18d… (all of the seat's roots in one cut). By AI agents, Wed Nov 11 2026. No macro, syntax, notation, axiom, sorry.
-/
import Derived.Test.YtjokgohnpnhhdaaChecked
import GoSem.Claim
import GoSem.ClaimJoined
import GoSem.ClaimMapViews
import Derived.JoinedTies
import Derived.KernelRfl
namespace Go.Proofs.Ytjokgohnpnhhdaa
/- THE CELL 'sum', in the pinned program and in every row, IS THE sha256 OF THE DUMP (.gsa) THAT YtjokgohnpnhhdaaProg.lean LOADS. Nothing in Lean hashes anything: it is a label: what it is worth is what the hold of that sum in a sandbox is worth. -/
noncomputable def Try.pinned : Pinned := { name := "ytjokgohnpnhhdaa", sum := "c2e101c5d5a8e18db6f30888f092a76c81081b595d86ef4ed07f6dd3a801022c", checked := Try.checked }
namespace Rows
def none {H : Type} : Left H := { results := [], args := [] }

/-- 'paycyclelaw.HistoryPuts': WHATEVER THE INPUT: true; the input reads as it did. -/
def historyPutsSpec : ChangeSpec := { name := "historyPuts", fn := fun _ => fun
  | [d1, d2] => { results := [.lit (.bool true)], args := [d1, d2] }
  | _ => none }
def historyPutsRow : OpenClaim := { program := "ytjokgohnpnhhdaa", sum := "c2e101c5d5a8e18db6f30888f092a76c81081b595d86ef4ed07f6dd3a801022c", func := "paycycle/paycyclelaw.HistoryPuts", spec := "historyPuts", apart := false }
def HistoryPutsSaid : Prop := historyPutsRow.holds Try.pinned (OpenSpec.ofChange historyPutsSpec)

/-- ITS FALSE NEIGHBOUR: 'it returns false'. Refute it at one input. -/
def historyPutsWrong : ChangeSpec := { name := "historyPuts", fn := fun _ => fun
  | [d1, d2] => { results := [.lit (.bool false)], args := [d1, d2] }
  | _ => none }
def HistoryPutsWrongFalsely : Prop := historyPutsRow.holds Try.pinned (OpenSpec.ofChange historyPutsWrong)

/-- 'paycyclelaw.HistoryStretches': WHATEVER THE INPUT: true; the input reads as it did. -/
def historyStretchesSpec : ChangeSpec := { name := "historyStretches", fn := fun _ => fun
  | [d1, d2, d3, d4] => { results := [.lit (.bool true)], args := [d1, d2, d3, d4] }
  | _ => none }
def historyStretchesRow : OpenClaim := { program := "ytjokgohnpnhhdaa", sum := "c2e101c5d5a8e18db6f30888f092a76c81081b595d86ef4ed07f6dd3a801022c", func := "paycycle/paycyclelaw.HistoryStretches", spec := "historyStretches", apart := false }
def HistoryStretchesSaid : Prop := historyStretchesRow.holds Try.pinned (OpenSpec.ofChange historyStretchesSpec)

/-- ITS FALSE NEIGHBOUR: 'it returns false'. Refute it at one input. -/
def historyStretchesWrong : ChangeSpec := { name := "historyStretches", fn := fun _ => fun
  | [d1, d2, d3, d4] => { results := [.lit (.bool false)], args := [d1, d2, d3, d4] }
  | _ => none }
def HistoryStretchesWrongFalsely : Prop := historyStretchesRow.holds Try.pinned (OpenSpec.ofChange historyStretchesWrong)

/-- 'paycyclelaw.HistoryCovers': WHATEVER THE INPUT: true; the input reads as it did. -/
def historyCoversSpec : ChangeSpec := { name := "historyCovers", fn := fun _ => fun
  | [d1, d2, d3, d4, d5] => { results := [.lit (.bool true)], args := [d1, d2, d3, d4, d5] }
  | _ => none }
def historyCoversRow : OpenClaim := { program := "ytjokgohnpnhhdaa", sum := "c2e101c5d5a8e18db6f30888f092a76c81081b595d86ef4ed07f6dd3a801022c", func := "paycycle/paycyclelaw.HistoryCovers", spec := "historyCovers", apart := false }
def HistoryCoversSaid : Prop := historyCoversRow.holds Try.pinned (OpenSpec.ofChange historyCoversSpec)

/-- ITS FALSE NEIGHBOUR: 'it returns false'. Refute it at one input. -/
def historyCoversWrong : ChangeSpec := { name := "historyCovers", fn := fun _ => fun
  | [d1, d2, d3, d4, d5] => { results := [.lit (.bool false)], args := [d1, d2, d3, d4, d5] }
  | _ => none }
def HistoryCoversWrongFalsely : Prop := historyCoversRow.holds Try.pinned (OpenSpec.ofChange historyCoversWrong)

/-- 'paycyclelaw.RestRows': WHATEVER THE INPUT: true; the input reads as it did. -/
def restRowsSpec : ChangeSpec := { name := "restRows", fn := fun _ => fun
  | [d1, d2] => { results := [.lit (.bool true)], args := [d1, d2] }
  | _ => none }
def restRowsRow : OpenClaim := { program := "ytjokgohnpnhhdaa", sum := "c2e101c5d5a8e18db6f30888f092a76c81081b595d86ef4ed07f6dd3a801022c", func := "paycycle/paycyclelaw.RestRows", spec := "restRows", apart := false }
def RestRowsSaid : Prop := restRowsRow.holds Try.pinned (OpenSpec.ofChange restRowsSpec)

/-- ITS FALSE NEIGHBOUR: 'it returns false'. Refute it at one input. -/
def restRowsWrong : ChangeSpec := { name := "restRows", fn := fun _ => fun
  | [d1, d2] => { results := [.lit (.bool false)], args := [d1, d2] }
  | _ => none }
def RestRowsWrongFalsely : Prop := restRowsRow.holds Try.pinned (OpenSpec.ofChange restRowsWrong)

/- THE SECOND FORM. 'bulk': how many values and letters a reading holds, each counted each time it is reached (what is shared counts as often as it is met; a slice's spare places count too). A statement '..UptoSaid' is the law's where the arguments, and the package variables that the reading takes, are together of bulk at most 1048576: NARROWER than '..Said'. Prove '..Said' where nothing that the law and all that it calls make is longer than what came in: it says more and counts as full. Else prove '..UptoSaid'. A law counts once. -/
mutual
def uptoBulk {H : Type} : DataW H → Nat
  | .lit (.string bytes) => bytes.length + 1
  | .lit _ => 1
  | .nil => 1
  | .ptr d => uptoBulk d + 1
  | .slice elems spare => uptoBulkAll elems + uptoBulkAll spare + 1
  | .agg parts => uptoBulkAll parts + 1
  | .iface _ d => uptoBulk d + 1
  | .map entries => uptoBulkEntries entries + 1
  | .held _ => 1
def uptoBulkAll {H : Type} : List (DataW H) → Nat
  | [] => 0
  | d :: r => uptoBulk d + uptoBulkAll r
def uptoBulkEntries {H : Type} : List (Lit × DataW H) → Nat
  | [] => 0
  | x :: r => uptoBulkEntry x + uptoBulkEntries r
def uptoBulkEntry {H : Type} : Lit × DataW H → Nat
  | (.string bytes, d) => bytes.length + uptoBulk d + 1
  | (_, d) => uptoBulk d + 1
 end
def uptoSmall : (H : Type) → List (DataW H) → Bool := fun _ ds => decide (uptoBulkAll ds ≤ 1048576)
def OpenSpec.upto (s : _root_.Go.ChangeSpec) : _root_.Go.OpenSpec := { _root_.Go.OpenSpec.ofChange s with cond := some uptoSmall }

/-- 'paycyclelaw.HistoryPuts', WHERE WHAT IT READS IS OF BULK AT MOST 1048576: true; the input reads as it did. -/
def historyPutsUptoRow : OpenClaim := { program := "ytjokgohnpnhhdaa", sum := "c2e101c5d5a8e18db6f30888f092a76c81081b595d86ef4ed07f6dd3a801022c", func := "paycycle/paycyclelaw.HistoryPuts", spec := "historyPuts", apart := false, narrowed := true }
def HistoryPutsUptoSaid : Prop := historyPutsUptoRow.holds Try.pinned (OpenSpec.upto historyPutsSpec)

/-- 'paycyclelaw.HistoryStretches', WHERE WHAT IT READS IS OF BULK AT MOST 1048576: true; the input reads as it did. -/
def historyStretchesUptoRow : OpenClaim := { program := "ytjokgohnpnhhdaa", sum := "c2e101c5d5a8e18db6f30888f092a76c81081b595d86ef4ed07f6dd3a801022c", func := "paycycle/paycyclelaw.HistoryStretches", spec := "historyStretches", apart := false, narrowed := true }
def HistoryStretchesUptoSaid : Prop := historyStretchesUptoRow.holds Try.pinned (OpenSpec.upto historyStretchesSpec)

/-- 'paycyclelaw.HistoryCovers', WHERE WHAT IT READS IS OF BULK AT MOST 1048576: true; the input reads as it did. -/
def historyCoversUptoRow : OpenClaim := { program := "ytjokgohnpnhhdaa", sum := "c2e101c5d5a8e18db6f30888f092a76c81081b595d86ef4ed07f6dd3a801022c", func := "paycycle/paycyclelaw.HistoryCovers", spec := "historyCovers", apart := false, narrowed := true }
def HistoryCoversUptoSaid : Prop := historyCoversUptoRow.holds Try.pinned (OpenSpec.upto historyCoversSpec)

/-- 'paycyclelaw.RestRows', WHERE WHAT IT READS IS OF BULK AT MOST 1048576: true; the input reads as it did. -/
def restRowsUptoRow : OpenClaim := { program := "ytjokgohnpnhhdaa", sum := "c2e101c5d5a8e18db6f30888f092a76c81081b595d86ef4ed07f6dd3a801022c", func := "paycycle/paycyclelaw.RestRows", spec := "restRows", apart := false, narrowed := true }
def RestRowsUptoSaid : Prop := restRowsUptoRow.holds Try.pinned (OpenSpec.upto restRowsSpec)

end Rows
end Go.Proofs.Ytjokgohnpnhhdaa
