/-
  No cell of these rows narrows 'for every input' (looked for: loops, veiled, ifaces, maps, wideKeys, modest, calm, conditions, laid).
  DERIVED. THE GIVEN ROWS OF THIS SEAT. 7 by the template 'for every input the law returns true; each argument reads behind the call as it read before'; 0 by the template 'total and deterministic' (their statements: YtfamnlaignjhkaaTotals.lean).
  GIVEN WITH THE SEED: the statements are not yours to turn. If you find one false, say at which input.
  Laid BY PROGRAM, IN A SANDBOX (cutbox-rows.mjs): the forced cells as the released guide's own fill.sh prints them over the translation 28628be0c4332a24… (all of the seat's roots in one cut). By AI agents, Wed Nov 11 2026. No macro, syntax, notation, axiom, sorry.
-/
import Derived.Test.YtfamnlaignjhkaaChecked
import GoSem.Claim
import GoSem.ClaimJoined
import GoSem.ClaimMapViews
import Derived.JoinedTies
import Derived.KernelRfl
namespace Go.Proofs.Ytfamnlaignjhkaa
/- THE CELL 'sum', in the pinned program and in every row, IS THE sha256 OF THE DUMP (.gsa) THAT YtfamnlaignjhkaaProg.lean LOADS. Nothing in Lean hashes anything: it is a label: what it is worth is what the hold of that sum in a sandbox is worth. -/
noncomputable def Try.pinned : Pinned := { name := "ytfamnlaignjhkaa", sum := "28628be0c4332a24f8d39ac1b65ef8fe6f1ae92ff3e9127bdd0951ca284616c2", checked := Try.checked }
namespace Rows
def none {H : Type} : Left H := { results := [], args := [] }

/-- 'paycyclelaw.TotalChecks': WHATEVER THE INPUT: true; the input reads as it did. -/
def totalChecksSpec : ChangeSpec := { name := "totalChecks", fn := fun _ => fun
  | [d] => { results := [.lit (.bool true)], args := [d] }
  | _ => none }
def totalChecksRow : OpenClaim := { program := "ytfamnlaignjhkaa", sum := "28628be0c4332a24f8d39ac1b65ef8fe6f1ae92ff3e9127bdd0951ca284616c2", func := "paycycle/paycyclelaw.TotalChecks", spec := "totalChecks", unfollowed := true, recurses := true, plainKeys := false, apart := false }
def TotalChecksSaid : Prop := totalChecksRow.holds Try.pinned (OpenSpec.ofChange totalChecksSpec)

/-- ITS FALSE NEIGHBOUR: 'it returns false'. Refute it at one input. -/
def totalChecksWrong : ChangeSpec := { name := "totalChecks", fn := fun _ => fun
  | [d] => { results := [.lit (.bool false)], args := [d] }
  | _ => none }
def TotalChecksWrongFalsely : Prop := totalChecksRow.holds Try.pinned (OpenSpec.ofChange totalChecksWrong)

/-- 'paycyclelaw.TotalAdds': WHATEVER THE INPUT: true; the input reads as it did. -/
def totalAddsSpec : ChangeSpec := { name := "totalAdds", fn := fun _ => fun
  | [d1, d2] => { results := [.lit (.bool true)], args := [d1, d2] }
  | _ => none }
def totalAddsRow : OpenClaim := { program := "ytfamnlaignjhkaa", sum := "28628be0c4332a24f8d39ac1b65ef8fe6f1ae92ff3e9127bdd0951ca284616c2", func := "paycycle/paycyclelaw.TotalAdds", spec := "totalAdds", unfollowed := true, recurses := true, plainKeys := false, apart := false }
def TotalAddsSaid : Prop := totalAddsRow.holds Try.pinned (OpenSpec.ofChange totalAddsSpec)

/-- ITS FALSE NEIGHBOUR: 'it returns false'. Refute it at one input. -/
def totalAddsWrong : ChangeSpec := { name := "totalAdds", fn := fun _ => fun
  | [d1, d2] => { results := [.lit (.bool false)], args := [d1, d2] }
  | _ => none }
def TotalAddsWrongFalsely : Prop := totalAddsRow.holds Try.pinned (OpenSpec.ofChange totalAddsWrong)

/-- 'paycyclelaw.TotalOf': WHATEVER THE INPUT: true; the input reads as it did. -/
def totalOfSpec : ChangeSpec := { name := "totalOf", fn := fun _ => fun
  | [d1, d2, d3] => { results := [.lit (.bool true)], args := [d1, d2, d3] }
  | _ => none }
def totalOfRow : OpenClaim := { program := "ytfamnlaignjhkaa", sum := "28628be0c4332a24f8d39ac1b65ef8fe6f1ae92ff3e9127bdd0951ca284616c2", func := "paycycle/paycyclelaw.TotalOf", spec := "totalOf", unfollowed := true, recurses := true, plainKeys := false, apart := false }
def TotalOfSaid : Prop := totalOfRow.holds Try.pinned (OpenSpec.ofChange totalOfSpec)

/-- ITS FALSE NEIGHBOUR: 'it returns false'. Refute it at one input. -/
def totalOfWrong : ChangeSpec := { name := "totalOf", fn := fun _ => fun
  | [d1, d2, d3] => { results := [.lit (.bool false)], args := [d1, d2, d3] }
  | _ => none }
def TotalOfWrongFalsely : Prop := totalOfRow.holds Try.pinned (OpenSpec.ofChange totalOfWrong)

/-- 'paycyclelaw.TotalSums': WHATEVER THE INPUT: true; the input reads as it did. -/
def totalSumsSpec : ChangeSpec := { name := "totalSums", fn := fun _ => fun
  | [d1, d2, d3] => { results := [.lit (.bool true)], args := [d1, d2, d3] }
  | _ => none }
def totalSumsRow : OpenClaim := { program := "ytfamnlaignjhkaa", sum := "28628be0c4332a24f8d39ac1b65ef8fe6f1ae92ff3e9127bdd0951ca284616c2", func := "paycycle/paycyclelaw.TotalSums", spec := "totalSums", unfollowed := true, recurses := true, plainKeys := false, apart := false }
def TotalSumsSaid : Prop := totalSumsRow.holds Try.pinned (OpenSpec.ofChange totalSumsSpec)

/-- ITS FALSE NEIGHBOUR: 'it returns false'. Refute it at one input. -/
def totalSumsWrong : ChangeSpec := { name := "totalSums", fn := fun _ => fun
  | [d1, d2, d3] => { results := [.lit (.bool false)], args := [d1, d2, d3] }
  | _ => none }
def TotalSumsWrongFalsely : Prop := totalSumsRow.holds Try.pinned (OpenSpec.ofChange totalSumsWrong)

/-- 'paycyclelaw.TotalGathers': WHATEVER THE INPUT: true; the input reads as it did. -/
def totalGathersSpec : ChangeSpec := { name := "totalGathers", fn := fun _ => fun
  | [d] => { results := [.lit (.bool true)], args := [d] }
  | _ => none }
def totalGathersRow : OpenClaim := { program := "ytfamnlaignjhkaa", sum := "28628be0c4332a24f8d39ac1b65ef8fe6f1ae92ff3e9127bdd0951ca284616c2", func := "paycycle/paycyclelaw.TotalGathers", spec := "totalGathers", unfollowed := true, recurses := true, plainKeys := false, apart := false }
def TotalGathersSaid : Prop := totalGathersRow.holds Try.pinned (OpenSpec.ofChange totalGathersSpec)

/-- ITS FALSE NEIGHBOUR: 'it returns false'. Refute it at one input. -/
def totalGathersWrong : ChangeSpec := { name := "totalGathers", fn := fun _ => fun
  | [d] => { results := [.lit (.bool false)], args := [d] }
  | _ => none }
def TotalGathersWrongFalsely : Prop := totalGathersRow.holds Try.pinned (OpenSpec.ofChange totalGathersWrong)

/-- 'paycyclelaw.TotalTurns': WHATEVER THE INPUT: true; the input reads as it did. -/
def totalTurnsSpec : ChangeSpec := { name := "totalTurns", fn := fun _ => fun
  | [d1, d2] => { results := [.lit (.bool true)], args := [d1, d2] }
  | _ => none }
def totalTurnsRow : OpenClaim := { program := "ytfamnlaignjhkaa", sum := "28628be0c4332a24f8d39ac1b65ef8fe6f1ae92ff3e9127bdd0951ca284616c2", func := "paycycle/paycyclelaw.TotalTurns", spec := "totalTurns", unfollowed := true, recurses := true, plainKeys := false, apart := false }
def TotalTurnsSaid : Prop := totalTurnsRow.holds Try.pinned (OpenSpec.ofChange totalTurnsSpec)

/-- ITS FALSE NEIGHBOUR: 'it returns false'. Refute it at one input. -/
def totalTurnsWrong : ChangeSpec := { name := "totalTurns", fn := fun _ => fun
  | [d1, d2] => { results := [.lit (.bool false)], args := [d1, d2] }
  | _ => none }
def TotalTurnsWrongFalsely : Prop := totalTurnsRow.holds Try.pinned (OpenSpec.ofChange totalTurnsWrong)

/-- 'paycyclelaw.TotalKeeps': WHATEVER THE INPUT: true; the input reads as it did. -/
def totalKeepsSpec : ChangeSpec := { name := "totalKeeps", fn := fun _ => fun
  | [d1, d2, d3, d4, d5] => { results := [.lit (.bool true)], args := [d1, d2, d3, d4, d5] }
  | _ => none }
def totalKeepsRow : OpenClaim := { program := "ytfamnlaignjhkaa", sum := "28628be0c4332a24f8d39ac1b65ef8fe6f1ae92ff3e9127bdd0951ca284616c2", func := "paycycle/paycyclelaw.TotalKeeps", spec := "totalKeeps", unfollowed := true, recurses := true, plainKeys := false, apart := false }
def TotalKeepsSaid : Prop := totalKeepsRow.holds Try.pinned (OpenSpec.ofChange totalKeepsSpec)

/-- ITS FALSE NEIGHBOUR: 'it returns false'. Refute it at one input. -/
def totalKeepsWrong : ChangeSpec := { name := "totalKeeps", fn := fun _ => fun
  | [d1, d2, d3, d4, d5] => { results := [.lit (.bool false)], args := [d1, d2, d3, d4, d5] }
  | _ => none }
def TotalKeepsWrongFalsely : Prop := totalKeepsRow.holds Try.pinned (OpenSpec.ofChange totalKeepsWrong)

/- THE SECOND FORM. 'bulk': how many values and letters a reading holds, each counted each time it is reached (what is shared counts as often as it is met; a slice's spare places count too). A statement '..UptoSaid' is the law's where the arguments, and the package variables that the reading takes, are together of bulk at most 1048576: NARROWER than '..Said'. Prove '..Said' where nothing that the law and all that it calls make is longer than what came in: it says more and counts as full. Else prove '..UptoSaid'. A law counts once. -/
mutual
def uptoBulk {H : Type} : DataW H → Nat
  | .lit (.string bytes) => bytes.length + 1
  | .lit _ => 1
  | .nil => 1
  | .ptr d => uptoBulk d + 1
  | .slice elems spare => uptoBulkAll elems + uptoBulkAll spare + 1
  | .agg parts => uptoBulkAll parts + 1
  | .iface _ d => uptoBulk d + 1
  | .map entries => uptoBulkEntries entries + 1
  | .held _ => 1
def uptoBulkAll {H : Type} : List (DataW H) → Nat
  | [] => 0
  | d :: r => uptoBulk d + uptoBulkAll r
def uptoBulkEntries {H : Type} : List (Lit × DataW H) → Nat
  | [] => 0
  | x :: r => uptoBulkEntry x + uptoBulkEntries r
def uptoBulkEntry {H : Type} : Lit × DataW H → Nat
  | (.string bytes, d) => bytes.length + uptoBulk d + 1
  | (_, d) => uptoBulk d + 1
 end
def uptoSmall : (H : Type) → List (DataW H) → Bool := fun _ ds => decide (uptoBulkAll ds ≤ 1048576)
def OpenSpec.upto (s : _root_.Go.ChangeSpec) : _root_.Go.OpenSpec := { _root_.Go.OpenSpec.ofChange s with cond := some uptoSmall }

/-- 'paycyclelaw.TotalChecks', WHERE WHAT IT READS IS OF BULK AT MOST 1048576: true; the input reads as it did. -/
def totalChecksUptoRow : OpenClaim := { program := "ytfamnlaignjhkaa", sum := "28628be0c4332a24f8d39ac1b65ef8fe6f1ae92ff3e9127bdd0951ca284616c2", func := "paycycle/paycyclelaw.TotalChecks", spec := "totalChecks", unfollowed := true, recurses := true, plainKeys := false, apart := false, narrowed := true }
def TotalChecksUptoSaid : Prop := totalChecksUptoRow.holds Try.pinned (OpenSpec.upto totalChecksSpec)

/-- 'paycyclelaw.TotalAdds', WHERE WHAT IT READS IS OF BULK AT MOST 1048576: true; the input reads as it did. -/
def totalAddsUptoRow : OpenClaim := { program := "ytfamnlaignjhkaa", sum := "28628be0c4332a24f8d39ac1b65ef8fe6f1ae92ff3e9127bdd0951ca284616c2", func := "paycycle/paycyclelaw.TotalAdds", spec := "totalAdds", unfollowed := true, recurses := true, plainKeys := false, apart := false, narrowed := true }
def TotalAddsUptoSaid : Prop := totalAddsUptoRow.holds Try.pinned (OpenSpec.upto totalAddsSpec)

/-- 'paycyclelaw.TotalOf', WHERE WHAT IT READS IS OF BULK AT MOST 1048576: true; the input reads as it did. -/
def totalOfUptoRow : OpenClaim := { program := "ytfamnlaignjhkaa", sum := "28628be0c4332a24f8d39ac1b65ef8fe6f1ae92ff3e9127bdd0951ca284616c2", func := "paycycle/paycyclelaw.TotalOf", spec := "totalOf", unfollowed := true, recurses := true, plainKeys := false, apart := false, narrowed := true }
def TotalOfUptoSaid : Prop := totalOfUptoRow.holds Try.pinned (OpenSpec.upto totalOfSpec)

/-- 'paycyclelaw.TotalSums', WHERE WHAT IT READS IS OF BULK AT MOST 1048576: true; the input reads as it did. -/
def totalSumsUptoRow : OpenClaim := { program := "ytfamnlaignjhkaa", sum := "28628be0c4332a24f8d39ac1b65ef8fe6f1ae92ff3e9127bdd0951ca284616c2", func := "paycycle/paycyclelaw.TotalSums", spec := "totalSums", unfollowed := true, recurses := true, plainKeys := false, apart := false, narrowed := true }
def TotalSumsUptoSaid : Prop := totalSumsUptoRow.holds Try.pinned (OpenSpec.upto totalSumsSpec)

/-- 'paycyclelaw.TotalGathers', WHERE WHAT IT READS IS OF BULK AT MOST 1048576: true; the input reads as it did. -/
def totalGathersUptoRow : OpenClaim := { program := "ytfamnlaignjhkaa", sum := "28628be0c4332a24f8d39ac1b65ef8fe6f1ae92ff3e9127bdd0951ca284616c2", func := "paycycle/paycyclelaw.TotalGathers", spec := "totalGathers", unfollowed := true, recurses := true, plainKeys := false, apart := false, narrowed := true }
def TotalGathersUptoSaid : Prop := totalGathersUptoRow.holds Try.pinned (OpenSpec.upto totalGathersSpec)

/-- 'paycyclelaw.TotalTurns', WHERE WHAT IT READS IS OF BULK AT MOST 1048576: true; the input reads as it did. -/
def totalTurnsUptoRow : OpenClaim := { program := "ytfamnlaignjhkaa", sum := "28628be0c4332a24f8d39ac1b65ef8fe6f1ae92ff3e9127bdd0951ca284616c2", func := "paycycle/paycyclelaw.TotalTurns", spec := "totalTurns", unfollowed := true, recurses := true, plainKeys := false, apart := false, narrowed := true }
def TotalTurnsUptoSaid : Prop := totalTurnsUptoRow.holds Try.pinned (OpenSpec.upto totalTurnsSpec)

/-- 'paycyclelaw.TotalKeeps', WHERE WHAT IT READS IS OF BULK AT MOST 1048576: true; the input reads as it did. -/
def totalKeepsUptoRow : OpenClaim := { program := "ytfamnlaignjhkaa", sum := "28628be0c4332a24f8d39ac1b65ef8fe6f1ae92ff3e9127bdd0951ca284616c2", func := "paycycle/paycyclelaw.TotalKeeps", spec := "totalKeeps", unfollowed := true, recurses := true, plainKeys := false, apart := false, narrowed := true }
def TotalKeepsUptoSaid : Prop := totalKeepsUptoRow.holds Try.pinned (OpenSpec.upto totalKeepsSpec)

end Rows
end Go.Proofs.Ytfamnlaignjhkaa
