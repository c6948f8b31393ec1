/-
  No cell of these rows narrows 'for every input' (looked for: loops, veiled, ifaces, maps, wideKeys, modest, calm, conditions, laid).
  DERIVED. THE GIVEN ROWS OF THIS SEAT. 8 by the template 'for every input the law returns true; each argument reads behind the call as it read before'; 0 by the template 'total and deterministic' (their statements: YtdgcfakbmhchdaaTotals.lean).
  GIVEN WITH THE SEED: the statements are not yours to turn. If you find one false, say at which input.
  Laid BY PROGRAM, IN A SANDBOX (cutbox-rows.mjs): the forced cells as the released guide's own fill.sh prints them over the translation ec6d23046447893c… (all of the seat's roots in one cut). By AI agents, Wed Nov 11 2026. No macro, syntax, notation, axiom, sorry.
-/
import Derived.Test.YtdgcfakbmhchdaaChecked
import GoSem.Claim
import GoSem.ClaimJoined
import GoSem.ClaimMapViews
import Derived.JoinedTies
import Derived.KernelRfl
namespace Go.Proofs.Ytdgcfakbmhchdaa
/- THE CELL 'sum', in the pinned program and in every row, IS THE sha256 OF THE DUMP (.gsa) THAT YtdgcfakbmhchdaaProg.lean LOADS. Nothing in Lean hashes anything: it is a label: what it is worth is what the hold of that sum in a sandbox is worth. -/
noncomputable def Try.pinned : Pinned := { name := "ytdgcfakbmhchdaa", sum := "ec6d23046447893cd30abb2d384fe37470785c96e59c25ad98f117081e35b10d", checked := Try.checked }
namespace Rows
def none {H : Type} : Left H := { results := [], args := [] }

/-- 'paycyclelaw.LedgerChecks': WHATEVER THE INPUT: true; the input reads as it did. -/
def ledgerChecksSpec : ChangeSpec := { name := "ledgerChecks", fn := fun _ => fun
  | [d] => { results := [.lit (.bool true)], args := [d] }
  | _ => none }
def ledgerChecksRow : OpenClaim := { program := "ytdgcfakbmhchdaa", sum := "ec6d23046447893cd30abb2d384fe37470785c96e59c25ad98f117081e35b10d", func := "paycycle/paycyclelaw.LedgerChecks", spec := "ledgerChecks", unfollowed := true, recurses := true, apart := false }
def LedgerChecksSaid : Prop := ledgerChecksRow.holds Try.pinned (OpenSpec.ofChange ledgerChecksSpec)

/-- ITS FALSE NEIGHBOUR: 'it returns false'. Refute it at one input. -/
def ledgerChecksWrong : ChangeSpec := { name := "ledgerChecks", fn := fun _ => fun
  | [d] => { results := [.lit (.bool false)], args := [d] }
  | _ => none }
def LedgerChecksWrongFalsely : Prop := ledgerChecksRow.holds Try.pinned (OpenSpec.ofChange ledgerChecksWrong)

/-- 'paycyclelaw.LedgerPosts': WHATEVER THE INPUT: true; the input reads as it did. -/
def ledgerPostsSpec : ChangeSpec := { name := "ledgerPosts", fn := fun _ => fun
  | [d1, d2] => { results := [.lit (.bool true)], args := [d1, d2] }
  | _ => none }
def ledgerPostsRow : OpenClaim := { program := "ytdgcfakbmhchdaa", sum := "ec6d23046447893cd30abb2d384fe37470785c96e59c25ad98f117081e35b10d", func := "paycycle/paycyclelaw.LedgerPosts", spec := "ledgerPosts", unfollowed := true, recurses := true, apart := false }
def LedgerPostsSaid : Prop := ledgerPostsRow.holds Try.pinned (OpenSpec.ofChange ledgerPostsSpec)

/-- ITS FALSE NEIGHBOUR: 'it returns false'. Refute it at one input. -/
def ledgerPostsWrong : ChangeSpec := { name := "ledgerPosts", fn := fun _ => fun
  | [d1, d2] => { results := [.lit (.bool false)], args := [d1, d2] }
  | _ => none }
def LedgerPostsWrongFalsely : Prop := ledgerPostsRow.holds Try.pinned (OpenSpec.ofChange ledgerPostsWrong)

/-- 'paycyclelaw.LedgerTurns': WHATEVER THE INPUT: true; the input reads as it did. -/
def ledgerTurnsSpec : ChangeSpec := { name := "ledgerTurns", fn := fun _ => fun
  | [d] => { results := [.lit (.bool true)], args := [d] }
  | _ => none }
def ledgerTurnsRow : OpenClaim := { program := "ytdgcfakbmhchdaa", sum := "ec6d23046447893cd30abb2d384fe37470785c96e59c25ad98f117081e35b10d", func := "paycycle/paycyclelaw.LedgerTurns", spec := "ledgerTurns", unfollowed := true, recurses := true, apart := false }
def LedgerTurnsSaid : Prop := ledgerTurnsRow.holds Try.pinned (OpenSpec.ofChange ledgerTurnsSpec)

/-- ITS FALSE NEIGHBOUR: 'it returns false'. Refute it at one input. -/
def ledgerTurnsWrong : ChangeSpec := { name := "ledgerTurns", fn := fun _ => fun
  | [d] => { results := [.lit (.bool false)], args := [d] }
  | _ => none }
def LedgerTurnsWrongFalsely : Prop := ledgerTurnsRow.holds Try.pinned (OpenSpec.ofChange ledgerTurnsWrong)

/-- 'paycyclelaw.LedgerMoved': WHATEVER THE INPUT: true; the input reads as it did. -/
def ledgerMovedSpec : ChangeSpec := { name := "ledgerMoved", fn := fun _ => fun
  | [d1, d2, d3, d4] => { results := [.lit (.bool true)], args := [d1, d2, d3, d4] }
  | _ => none }
def ledgerMovedRow : OpenClaim := { program := "ytdgcfakbmhchdaa", sum := "ec6d23046447893cd30abb2d384fe37470785c96e59c25ad98f117081e35b10d", func := "paycycle/paycyclelaw.LedgerMoved", spec := "ledgerMoved", unfollowed := true, recurses := true, apart := false }
def LedgerMovedSaid : Prop := ledgerMovedRow.holds Try.pinned (OpenSpec.ofChange ledgerMovedSpec)

/-- ITS FALSE NEIGHBOUR: 'it returns false'. Refute it at one input. -/
def ledgerMovedWrong : ChangeSpec := { name := "ledgerMoved", fn := fun _ => fun
  | [d1, d2, d3, d4] => { results := [.lit (.bool false)], args := [d1, d2, d3, d4] }
  | _ => none }
def LedgerMovedWrongFalsely : Prop := ledgerMovedRow.holds Try.pinned (OpenSpec.ofChange ledgerMovedWrong)

/-- 'paycyclelaw.LedgerTrials': WHATEVER THE INPUT: true; the input reads as it did. -/
def ledgerTrialsSpec : ChangeSpec := { name := "ledgerTrials", fn := fun _ => fun
  | [d1, d2] => { results := [.lit (.bool true)], args := [d1, d2] }
  | _ => none }
def ledgerTrialsRow : OpenClaim := { program := "ytdgcfakbmhchdaa", sum := "ec6d23046447893cd30abb2d384fe37470785c96e59c25ad98f117081e35b10d", func := "paycycle/paycyclelaw.LedgerTrials", spec := "ledgerTrials", unfollowed := true, recurses := true, apart := false }
def LedgerTrialsSaid : Prop := ledgerTrialsRow.holds Try.pinned (OpenSpec.ofChange ledgerTrialsSpec)

/-- ITS FALSE NEIGHBOUR: 'it returns false'. Refute it at one input. -/
def ledgerTrialsWrong : ChangeSpec := { name := "ledgerTrials", fn := fun _ => fun
  | [d1, d2] => { results := [.lit (.bool false)], args := [d1, d2] }
  | _ => none }
def LedgerTrialsWrongFalsely : Prop := ledgerTrialsRow.holds Try.pinned (OpenSpec.ofChange ledgerTrialsWrong)

/-- 'paycyclelaw.LedgerZero': WHATEVER THE INPUT: true; the input reads as it did. -/
def ledgerZeroSpec : ChangeSpec := { name := "ledgerZero", fn := fun _ => fun
  | [d1, d2] => { results := [.lit (.bool true)], args := [d1, d2] }
  | _ => none }
def ledgerZeroRow : OpenClaim := { program := "ytdgcfakbmhchdaa", sum := "ec6d23046447893cd30abb2d384fe37470785c96e59c25ad98f117081e35b10d", func := "paycycle/paycyclelaw.LedgerZero", spec := "ledgerZero", unfollowed := true, recurses := true, apart := false }
def LedgerZeroSaid : Prop := ledgerZeroRow.holds Try.pinned (OpenSpec.ofChange ledgerZeroSpec)

/-- ITS FALSE NEIGHBOUR: 'it returns false'. Refute it at one input. -/
def ledgerZeroWrong : ChangeSpec := { name := "ledgerZero", fn := fun _ => fun
  | [d1, d2] => { results := [.lit (.bool false)], args := [d1, d2] }
  | _ => none }
def LedgerZeroWrongFalsely : Prop := ledgerZeroRow.holds Try.pinned (OpenSpec.ofChange ledgerZeroWrong)

/-- 'paycyclelaw.LedgerCancels': WHATEVER THE INPUT: true; the input reads as it did. -/
def ledgerCancelsSpec : ChangeSpec := { name := "ledgerCancels", fn := fun _ => fun
  | [d1, d2, d3] => { results := [.lit (.bool true)], args := [d1, d2, d3] }
  | _ => none }
def ledgerCancelsRow : OpenClaim := { program := "ytdgcfakbmhchdaa", sum := "ec6d23046447893cd30abb2d384fe37470785c96e59c25ad98f117081e35b10d", func := "paycycle/paycyclelaw.LedgerCancels", spec := "ledgerCancels", unfollowed := true, recurses := true, apart := false }
def LedgerCancelsSaid : Prop := ledgerCancelsRow.holds Try.pinned (OpenSpec.ofChange ledgerCancelsSpec)

/-- ITS FALSE NEIGHBOUR: 'it returns false'. Refute it at one input. -/
def ledgerCancelsWrong : ChangeSpec := { name := "ledgerCancels", fn := fun _ => fun
  | [d1, d2, d3] => { results := [.lit (.bool false)], args := [d1, d2, d3] }
  | _ => none }
def LedgerCancelsWrongFalsely : Prop := ledgerCancelsRow.holds Try.pinned (OpenSpec.ofChange ledgerCancelsWrong)

/-- 'paycyclelaw.LedgerOrder': WHATEVER THE INPUT: true; the input reads as it did. -/
def ledgerOrderSpec : ChangeSpec := { name := "ledgerOrder", fn := fun _ => fun
  | [d1, d2, d3, d4] => { results := [.lit (.bool true)], args := [d1, d2, d3, d4] }
  | _ => none }
def ledgerOrderRow : OpenClaim := { program := "ytdgcfakbmhchdaa", sum := "ec6d23046447893cd30abb2d384fe37470785c96e59c25ad98f117081e35b10d", func := "paycycle/paycyclelaw.LedgerOrder", spec := "ledgerOrder", unfollowed := true, recurses := true, apart := false }
def LedgerOrderSaid : Prop := ledgerOrderRow.holds Try.pinned (OpenSpec.ofChange ledgerOrderSpec)

/-- ITS FALSE NEIGHBOUR: 'it returns false'. Refute it at one input. -/
def ledgerOrderWrong : ChangeSpec := { name := "ledgerOrder", fn := fun _ => fun
  | [d1, d2, d3, d4] => { results := [.lit (.bool false)], args := [d1, d2, d3, d4] }
  | _ => none }
def LedgerOrderWrongFalsely : Prop := ledgerOrderRow.holds Try.pinned (OpenSpec.ofChange ledgerOrderWrong)

/- THE SECOND FORM. 'bulk': how many values and letters a reading holds, each counted each time it is reached (what is shared counts as often as it is met; a slice's spare places count too). A statement '..UptoSaid' is the law's where the arguments, and the package variables that the reading takes, are together of bulk at most 1048576: NARROWER than '..Said'. Prove '..Said' where nothing that the law and all that it calls make is longer than what came in: it says more and counts as full. Else prove '..UptoSaid'. A law counts once. -/
mutual
def uptoBulk {H : Type} : DataW H → Nat
  | .lit (.string bytes) => bytes.length + 1
  | .lit _ => 1
  | .nil => 1
  | .ptr d => uptoBulk d + 1
  | .slice elems spare => uptoBulkAll elems + uptoBulkAll spare + 1
  | .agg parts => uptoBulkAll parts + 1
  | .iface _ d => uptoBulk d + 1
  | .map entries => uptoBulkEntries entries + 1
  | .held _ => 1
def uptoBulkAll {H : Type} : List (DataW H) → Nat
  | [] => 0
  | d :: r => uptoBulk d + uptoBulkAll r
def uptoBulkEntries {H : Type} : List (Lit × DataW H) → Nat
  | [] => 0
  | x :: r => uptoBulkEntry x + uptoBulkEntries r
def uptoBulkEntry {H : Type} : Lit × DataW H → Nat
  | (.string bytes, d) => bytes.length + uptoBulk d + 1
  | (_, d) => uptoBulk d + 1
 end
def uptoSmall : (H : Type) → List (DataW H) → Bool := fun _ ds => decide (uptoBulkAll ds ≤ 1048576)
def OpenSpec.upto (s : _root_.Go.ChangeSpec) : _root_.Go.OpenSpec := { _root_.Go.OpenSpec.ofChange s with cond := some uptoSmall }

/-- 'paycyclelaw.LedgerChecks', WHERE WHAT IT READS IS OF BULK AT MOST 1048576: true; the input reads as it did. -/
def ledgerChecksUptoRow : OpenClaim := { program := "ytdgcfakbmhchdaa", sum := "ec6d23046447893cd30abb2d384fe37470785c96e59c25ad98f117081e35b10d", func := "paycycle/paycyclelaw.LedgerChecks", spec := "ledgerChecks", unfollowed := true, recurses := true, apart := false, narrowed := true }
def LedgerChecksUptoSaid : Prop := ledgerChecksUptoRow.holds Try.pinned (OpenSpec.upto ledgerChecksSpec)

/-- 'paycyclelaw.LedgerPosts', WHERE WHAT IT READS IS OF BULK AT MOST 1048576: true; the input reads as it did. -/
def ledgerPostsUptoRow : OpenClaim := { program := "ytdgcfakbmhchdaa", sum := "ec6d23046447893cd30abb2d384fe37470785c96e59c25ad98f117081e35b10d", func := "paycycle/paycyclelaw.LedgerPosts", spec := "ledgerPosts", unfollowed := true, recurses := true, apart := false, narrowed := true }
def LedgerPostsUptoSaid : Prop := ledgerPostsUptoRow.holds Try.pinned (OpenSpec.upto ledgerPostsSpec)

/-- 'paycyclelaw.LedgerTurns', WHERE WHAT IT READS IS OF BULK AT MOST 1048576: true; the input reads as it did. -/
def ledgerTurnsUptoRow : OpenClaim := { program := "ytdgcfakbmhchdaa", sum := "ec6d23046447893cd30abb2d384fe37470785c96e59c25ad98f117081e35b10d", func := "paycycle/paycyclelaw.LedgerTurns", spec := "ledgerTurns", unfollowed := true, recurses := true, apart := false, narrowed := true }
def LedgerTurnsUptoSaid : Prop := ledgerTurnsUptoRow.holds Try.pinned (OpenSpec.upto ledgerTurnsSpec)

/-- 'paycyclelaw.LedgerMoved', WHERE WHAT IT READS IS OF BULK AT MOST 1048576: true; the input reads as it did. -/
def ledgerMovedUptoRow : OpenClaim := { program := "ytdgcfakbmhchdaa", sum := "ec6d23046447893cd30abb2d384fe37470785c96e59c25ad98f117081e35b10d", func := "paycycle/paycyclelaw.LedgerMoved", spec := "ledgerMoved", unfollowed := true, recurses := true, apart := false, narrowed := true }
def LedgerMovedUptoSaid : Prop := ledgerMovedUptoRow.holds Try.pinned (OpenSpec.upto ledgerMovedSpec)

/-- 'paycyclelaw.LedgerTrials', WHERE WHAT IT READS IS OF BULK AT MOST 1048576: true; the input reads as it did. -/
def ledgerTrialsUptoRow : OpenClaim := { program := "ytdgcfakbmhchdaa", sum := "ec6d23046447893cd30abb2d384fe37470785c96e59c25ad98f117081e35b10d", func := "paycycle/paycyclelaw.LedgerTrials", spec := "ledgerTrials", unfollowed := true, recurses := true, apart := false, narrowed := true }
def LedgerTrialsUptoSaid : Prop := ledgerTrialsUptoRow.holds Try.pinned (OpenSpec.upto ledgerTrialsSpec)

/-- 'paycyclelaw.LedgerZero', WHERE WHAT IT READS IS OF BULK AT MOST 1048576: true; the input reads as it did. -/
def ledgerZeroUptoRow : OpenClaim := { program := "ytdgcfakbmhchdaa", sum := "ec6d23046447893cd30abb2d384fe37470785c96e59c25ad98f117081e35b10d", func := "paycycle/paycyclelaw.LedgerZero", spec := "ledgerZero", unfollowed := true, recurses := true, apart := false, narrowed := true }
def LedgerZeroUptoSaid : Prop := ledgerZeroUptoRow.holds Try.pinned (OpenSpec.upto ledgerZeroSpec)

/-- 'paycyclelaw.LedgerCancels', WHERE WHAT IT READS IS OF BULK AT MOST 1048576: true; the input reads as it did. -/
def ledgerCancelsUptoRow : OpenClaim := { program := "ytdgcfakbmhchdaa", sum := "ec6d23046447893cd30abb2d384fe37470785c96e59c25ad98f117081e35b10d", func := "paycycle/paycyclelaw.LedgerCancels", spec := "ledgerCancels", unfollowed := true, recurses := true, apart := false, narrowed := true }
def LedgerCancelsUptoSaid : Prop := ledgerCancelsUptoRow.holds Try.pinned (OpenSpec.upto ledgerCancelsSpec)

/-- 'paycyclelaw.LedgerOrder', WHERE WHAT IT READS IS OF BULK AT MOST 1048576: true; the input reads as it did. -/
def ledgerOrderUptoRow : OpenClaim := { program := "ytdgcfakbmhchdaa", sum := "ec6d23046447893cd30abb2d384fe37470785c96e59c25ad98f117081e35b10d", func := "paycycle/paycyclelaw.LedgerOrder", spec := "ledgerOrder", unfollowed := true, recurses := true, apart := false, narrowed := true }
def LedgerOrderUptoSaid : Prop := ledgerOrderUptoRow.holds Try.pinned (OpenSpec.upto ledgerOrderSpec)

end Rows
end Go.Proofs.Ytdgcfakbmhchdaa
