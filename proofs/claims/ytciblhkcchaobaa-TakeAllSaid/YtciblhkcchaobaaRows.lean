/-
  No cell of these rows narrows 'for every input' (looked for: loops, veiled, ifaces, maps, wideKeys, modest, calm, conditions, laid).
  DERIVED. THE GIVEN ROWS OF THIS SEAT. 7 by the template 'for every input the law returns true; each argument reads behind the call as it read before'; 0 by the template 'total and deterministic' (their statements: YtciblhkcchaobaaTotals.lean).
  GIVEN WITH THE SEED: the statements are not yours to turn. If you find one false, say at which input.
  Laid BY PROGRAM, IN A SANDBOX (cutbox-rows.mjs): the forced cells as the released guide's own fill.sh prints them over the translation e22170b351d6f755… (all of the seat's roots in one cut). By AI agents, Wed Nov 11 2026. No macro, syntax, notation, axiom, sorry.
-/
import Derived.Test.YtciblhkcchaobaaChecked
import GoSem.Claim
import GoSem.ClaimJoined
import GoSem.ClaimMapViews
import Derived.JoinedTies
import Derived.KernelRfl
namespace Go.Proofs.Ytciblhkcchaobaa
/- THE CELL 'sum', in the pinned program and in every row, IS THE sha256 OF THE DUMP (.gsa) THAT YtciblhkcchaobaaProg.lean LOADS. Nothing in Lean hashes anything: it is a label: what it is worth is what the hold of that sum in a sandbox is worth. -/
noncomputable def Try.pinned : Pinned := { name := "ytciblhkcchaobaa", sum := "e22170b351d6f7557f26cd2f22e1a863afcd84d8d4fa883b92a4e85277307c6b", checked := Try.checked }
namespace Rows
def none {H : Type} : Left H := { results := [], args := [] }

/-- 'paycyclelaw.TakeChecks': WHATEVER THE INPUT: true; the input reads as it did. -/
def takeChecksSpec : ChangeSpec := { name := "takeChecks", fn := fun _ => fun
  | [d1, d2, d3] => { results := [.lit (.bool true)], args := [d1, d2, d3] }
  | _ => none }
def takeChecksRow : OpenClaim := { program := "ytciblhkcchaobaa", sum := "e22170b351d6f7557f26cd2f22e1a863afcd84d8d4fa883b92a4e85277307c6b", func := "paycycle/paycyclelaw.TakeChecks", spec := "takeChecks", unfollowed := true, recurses := true, apart := false }
def TakeChecksSaid : Prop := takeChecksRow.holds Try.pinned (OpenSpec.ofChange takeChecksSpec)

/-- ITS FALSE NEIGHBOUR: 'it returns false'. Refute it at one input. -/
def takeChecksWrong : ChangeSpec := { name := "takeChecks", fn := fun _ => fun
  | [d1, d2, d3] => { results := [.lit (.bool false)], args := [d1, d2, d3] }
  | _ => none }
def TakeChecksWrongFalsely : Prop := takeChecksRow.holds Try.pinned (OpenSpec.ofChange takeChecksWrong)

/-- 'paycyclelaw.TakeAll': WHATEVER THE INPUT: true; the input reads as it did. -/
def takeAllSpec : ChangeSpec := { name := "takeAll", fn := fun _ => fun
  | [d1, d2, d3] => { results := [.lit (.bool true)], args := [d1, d2, d3] }
  | _ => none }
def takeAllRow : OpenClaim := { program := "ytciblhkcchaobaa", sum := "e22170b351d6f7557f26cd2f22e1a863afcd84d8d4fa883b92a4e85277307c6b", func := "paycycle/paycyclelaw.TakeAll", spec := "takeAll", unfollowed := true, recurses := true, apart := false }
def TakeAllSaid : Prop := takeAllRow.holds Try.pinned (OpenSpec.ofChange takeAllSpec)

/-- ITS FALSE NEIGHBOUR: 'it returns false'. Refute it at one input. -/
def takeAllWrong : ChangeSpec := { name := "takeAll", fn := fun _ => fun
  | [d1, d2, d3] => { results := [.lit (.bool false)], args := [d1, d2, d3] }
  | _ => none }
def TakeAllWrongFalsely : Prop := takeAllRow.holds Try.pinned (OpenSpec.ofChange takeAllWrong)

/-- 'paycyclelaw.TakeLeast': WHATEVER THE INPUT: true; the input reads as it did. -/
def takeLeastSpec : ChangeSpec := { name := "takeLeast", fn := fun _ => fun
  | [d1, d2] => { results := [.lit (.bool true)], args := [d1, d2] }
  | _ => none }
def takeLeastRow : OpenClaim := { program := "ytciblhkcchaobaa", sum := "e22170b351d6f7557f26cd2f22e1a863afcd84d8d4fa883b92a4e85277307c6b", func := "paycycle/paycyclelaw.TakeLeast", spec := "takeLeast", unfollowed := true, recurses := true, apart := false }
def TakeLeastSaid : Prop := takeLeastRow.holds Try.pinned (OpenSpec.ofChange takeLeastSpec)

/-- ITS FALSE NEIGHBOUR: 'it returns false'. Refute it at one input. -/
def takeLeastWrong : ChangeSpec := { name := "takeLeast", fn := fun _ => fun
  | [d1, d2] => { results := [.lit (.bool false)], args := [d1, d2] }
  | _ => none }
def TakeLeastWrongFalsely : Prop := takeLeastRow.holds Try.pinned (OpenSpec.ofChange takeLeastWrong)

/-- 'paycyclelaw.TakeWhole': WHATEVER THE INPUT: true; the input reads as it did. -/
def takeWholeSpec : ChangeSpec := { name := "takeWhole", fn := fun _ => fun
  | [d1, d2, d3] => { results := [.lit (.bool true)], args := [d1, d2, d3] }
  | _ => none }
def takeWholeRow : OpenClaim := { program := "ytciblhkcchaobaa", sum := "e22170b351d6f7557f26cd2f22e1a863afcd84d8d4fa883b92a4e85277307c6b", func := "paycycle/paycyclelaw.TakeWhole", spec := "takeWhole", unfollowed := true, recurses := true, apart := false }
def TakeWholeSaid : Prop := takeWholeRow.holds Try.pinned (OpenSpec.ofChange takeWholeSpec)

/-- ITS FALSE NEIGHBOUR: 'it returns false'. Refute it at one input. -/
def takeWholeWrong : ChangeSpec := { name := "takeWhole", fn := fun _ => fun
  | [d1, d2, d3] => { results := [.lit (.bool false)], args := [d1, d2, d3] }
  | _ => none }
def TakeWholeWrongFalsely : Prop := takeWholeRow.holds Try.pinned (OpenSpec.ofChange takeWholeWrong)

/-- 'paycyclelaw.TakeOrder': WHATEVER THE INPUT: true; the input reads as it did. -/
def takeOrderSpec : ChangeSpec := { name := "takeOrder", fn := fun _ => fun
  | [d1, d2, d3] => { results := [.lit (.bool true)], args := [d1, d2, d3] }
  | _ => none }
def takeOrderRow : OpenClaim := { program := "ytciblhkcchaobaa", sum := "e22170b351d6f7557f26cd2f22e1a863afcd84d8d4fa883b92a4e85277307c6b", func := "paycycle/paycyclelaw.TakeOrder", spec := "takeOrder", unfollowed := true, recurses := true, apart := false }
def TakeOrderSaid : Prop := takeOrderRow.holds Try.pinned (OpenSpec.ofChange takeOrderSpec)

/-- ITS FALSE NEIGHBOUR: 'it returns false'. Refute it at one input. -/
def takeOrderWrong : ChangeSpec := { name := "takeOrder", fn := fun _ => fun
  | [d1, d2, d3] => { results := [.lit (.bool false)], args := [d1, d2, d3] }
  | _ => none }
def TakeOrderWrongFalsely : Prop := takeOrderRow.holds Try.pinned (OpenSpec.ofChange takeOrderWrong)

/-- 'paycyclelaw.TakeMore': WHATEVER THE INPUT: true; the input reads as it did. -/
def takeMoreSpec : ChangeSpec := { name := "takeMore", fn := fun _ => fun
  | [d1, d2, d3, d4] => { results := [.lit (.bool true)], args := [d1, d2, d3, d4] }
  | _ => none }
def takeMoreRow : OpenClaim := { program := "ytciblhkcchaobaa", sum := "e22170b351d6f7557f26cd2f22e1a863afcd84d8d4fa883b92a4e85277307c6b", func := "paycycle/paycyclelaw.TakeMore", spec := "takeMore", unfollowed := true, recurses := true, apart := false }
def TakeMoreSaid : Prop := takeMoreRow.holds Try.pinned (OpenSpec.ofChange takeMoreSpec)

/-- ITS FALSE NEIGHBOUR: 'it returns false'. Refute it at one input. -/
def takeMoreWrong : ChangeSpec := { name := "takeMore", fn := fun _ => fun
  | [d1, d2, d3, d4] => { results := [.lit (.bool false)], args := [d1, d2, d3, d4] }
  | _ => none }
def TakeMoreWrongFalsely : Prop := takeMoreRow.holds Try.pinned (OpenSpec.ofChange takeMoreWrong)

/-- 'paycyclelaw.TakeEnough': WHATEVER THE INPUT: true; the input reads as it did. -/
def takeEnoughSpec : ChangeSpec := { name := "takeEnough", fn := fun _ => fun
  | [d1, d2] => { results := [.lit (.bool true)], args := [d1, d2] }
  | _ => none }
def takeEnoughRow : OpenClaim := { program := "ytciblhkcchaobaa", sum := "e22170b351d6f7557f26cd2f22e1a863afcd84d8d4fa883b92a4e85277307c6b", func := "paycycle/paycyclelaw.TakeEnough", spec := "takeEnough", unfollowed := true, recurses := true, apart := false }
def TakeEnoughSaid : Prop := takeEnoughRow.holds Try.pinned (OpenSpec.ofChange takeEnoughSpec)

/-- ITS FALSE NEIGHBOUR: 'it returns false'. Refute it at one input. -/
def takeEnoughWrong : ChangeSpec := { name := "takeEnough", fn := fun _ => fun
  | [d1, d2] => { results := [.lit (.bool false)], args := [d1, d2] }
  | _ => none }
def TakeEnoughWrongFalsely : Prop := takeEnoughRow.holds Try.pinned (OpenSpec.ofChange takeEnoughWrong)

/- THE SECOND FORM. 'bulk': how many values and letters a reading holds, each counted each time it is reached (what is shared counts as often as it is met; a slice's spare places count too). A statement '..UptoSaid' is the law's where the arguments, and the package variables that the reading takes, are together of bulk at most 1048576: NARROWER than '..Said'. Prove '..Said' where nothing that the law and all that it calls make is longer than what came in: it says more and counts as full. Else prove '..UptoSaid'. A law counts once. -/
mutual
def uptoBulk {H : Type} : DataW H → Nat
  | .lit (.string bytes) => bytes.length + 1
  | .lit _ => 1
  | .nil => 1
  | .ptr d => uptoBulk d + 1
  | .slice elems spare => uptoBulkAll elems + uptoBulkAll spare + 1
  | .agg parts => uptoBulkAll parts + 1
  | .iface _ d => uptoBulk d + 1
  | .map entries => uptoBulkEntries entries + 1
  | .held _ => 1
def uptoBulkAll {H : Type} : List (DataW H) → Nat
  | [] => 0
  | d :: r => uptoBulk d + uptoBulkAll r
def uptoBulkEntries {H : Type} : List (Lit × DataW H) → Nat
  | [] => 0
  | x :: r => uptoBulkEntry x + uptoBulkEntries r
def uptoBulkEntry {H : Type} : Lit × DataW H → Nat
  | (.string bytes, d) => bytes.length + uptoBulk d + 1
  | (_, d) => uptoBulk d + 1
 end
def uptoSmall : (H : Type) → List (DataW H) → Bool := fun _ ds => decide (uptoBulkAll ds ≤ 1048576)
def OpenSpec.upto (s : _root_.Go.ChangeSpec) : _root_.Go.OpenSpec := { _root_.Go.OpenSpec.ofChange s with cond := some uptoSmall }

/-- 'paycyclelaw.TakeChecks', WHERE WHAT IT READS IS OF BULK AT MOST 1048576: true; the input reads as it did. -/
def takeChecksUptoRow : OpenClaim := { program := "ytciblhkcchaobaa", sum := "e22170b351d6f7557f26cd2f22e1a863afcd84d8d4fa883b92a4e85277307c6b", func := "paycycle/paycyclelaw.TakeChecks", spec := "takeChecks", unfollowed := true, recurses := true, apart := false, narrowed := true }
def TakeChecksUptoSaid : Prop := takeChecksUptoRow.holds Try.pinned (OpenSpec.upto takeChecksSpec)

/-- 'paycyclelaw.TakeAll', WHERE WHAT IT READS IS OF BULK AT MOST 1048576: true; the input reads as it did. -/
def takeAllUptoRow : OpenClaim := { program := "ytciblhkcchaobaa", sum := "e22170b351d6f7557f26cd2f22e1a863afcd84d8d4fa883b92a4e85277307c6b", func := "paycycle/paycyclelaw.TakeAll", spec := "takeAll", unfollowed := true, recurses := true, apart := false, narrowed := true }
def TakeAllUptoSaid : Prop := takeAllUptoRow.holds Try.pinned (OpenSpec.upto takeAllSpec)

/-- 'paycyclelaw.TakeLeast', WHERE WHAT IT READS IS OF BULK AT MOST 1048576: true; the input reads as it did. -/
def takeLeastUptoRow : OpenClaim := { program := "ytciblhkcchaobaa", sum := "e22170b351d6f7557f26cd2f22e1a863afcd84d8d4fa883b92a4e85277307c6b", func := "paycycle/paycyclelaw.TakeLeast", spec := "takeLeast", unfollowed := true, recurses := true, apart := false, narrowed := true }
def TakeLeastUptoSaid : Prop := takeLeastUptoRow.holds Try.pinned (OpenSpec.upto takeLeastSpec)

/-- 'paycyclelaw.TakeWhole', WHERE WHAT IT READS IS OF BULK AT MOST 1048576: true; the input reads as it did. -/
def takeWholeUptoRow : OpenClaim := { program := "ytciblhkcchaobaa", sum := "e22170b351d6f7557f26cd2f22e1a863afcd84d8d4fa883b92a4e85277307c6b", func := "paycycle/paycyclelaw.TakeWhole", spec := "takeWhole", unfollowed := true, recurses := true, apart := false, narrowed := true }
def TakeWholeUptoSaid : Prop := takeWholeUptoRow.holds Try.pinned (OpenSpec.upto takeWholeSpec)

/-- 'paycyclelaw.TakeOrder', WHERE WHAT IT READS IS OF BULK AT MOST 1048576: true; the input reads as it did. -/
def takeOrderUptoRow : OpenClaim := { program := "ytciblhkcchaobaa", sum := "e22170b351d6f7557f26cd2f22e1a863afcd84d8d4fa883b92a4e85277307c6b", func := "paycycle/paycyclelaw.TakeOrder", spec := "takeOrder", unfollowed := true, recurses := true, apart := false, narrowed := true }
def TakeOrderUptoSaid : Prop := takeOrderUptoRow.holds Try.pinned (OpenSpec.upto takeOrderSpec)

/-- 'paycyclelaw.TakeMore', WHERE WHAT IT READS IS OF BULK AT MOST 1048576: true; the input reads as it did. -/
def takeMoreUptoRow : OpenClaim := { program := "ytciblhkcchaobaa", sum := "e22170b351d6f7557f26cd2f22e1a863afcd84d8d4fa883b92a4e85277307c6b", func := "paycycle/paycyclelaw.TakeMore", spec := "takeMore", unfollowed := true, recurses := true, apart := false, narrowed := true }
def TakeMoreUptoSaid : Prop := takeMoreUptoRow.holds Try.pinned (OpenSpec.upto takeMoreSpec)

/-- 'paycyclelaw.TakeEnough', WHERE WHAT IT READS IS OF BULK AT MOST 1048576: true; the input reads as it did. -/
def takeEnoughUptoRow : OpenClaim := { program := "ytciblhkcchaobaa", sum := "e22170b351d6f7557f26cd2f22e1a863afcd84d8d4fa883b92a4e85277307c6b", func := "paycycle/paycyclelaw.TakeEnough", spec := "takeEnough", unfollowed := true, recurses := true, apart := false, narrowed := true }
def TakeEnoughUptoSaid : Prop := takeEnoughUptoRow.holds Try.pinned (OpenSpec.upto takeEnoughSpec)

end Rows
end Go.Proofs.Ytciblhkcchaobaa
