/-
  NARROWER THAN 'FOR EVERY INPUT', by the rows' own cells (each row's printed sentence says how): RetroChecks: loops, laid · RetroFresh: loops, laid · RetroFirst: loops, laid · RetroDelta: loops, laid · RetroMakes: loops, laid · RetroAhead: loops, laid · RetroOn: loops, laid.
  DERIVED. THE GIVEN ROWS OF THIS SEAT. 7 by the template 'for every input the law returns true; each argument reads behind the call as it read before'; 0 by the template 'total and deterministic' (their statements: YtonceehdmnkffaaGreatDoorTotals.lean).
  GIVEN WITH THE SEED: the statements are not yours to turn. If you find one false, say at which input.
  Laid BY PROGRAM, IN A SANDBOX (cutbox-rows.mjs): the forced cells as the released guide's own fill.sh prints them over the translation 3dcbad09eb7db370… (all of the seat's roots in one cut). By AI agents, Wed Nov 11 2026. No macro, syntax, notation, axiom, sorry.
-/
import Derived.Test.YtonceehdmnkffaaGreatDoorChecked
import GoSem.Claim
import GoSem.ClaimJoined
import GoSem.ClaimMapViews
import Derived.JoinedTies
import Derived.KernelRfl
namespace Go.Proofs.YtonceehdmnkffaaGreatDoor
/- THE CELL 'sum', in the pinned program and in every row, IS THE sha256 OF THE DUMP (.gsa) THAT YtonceehdmnkffaaGreatDoorProg.lean LOADS. Nothing in Lean hashes anything: it is a label: what it is worth is what the hold of that sum in a sandbox is worth. -/
noncomputable def Tryz.pinned : Pinned := { name := "ytonceehdmnkffaagreatdoor", sum := "3dcbad09eb7db37070742d6fa5f6d67e4483220cb79e60eb63b2781af2e3305a", checked := Tryz.checked }
namespace Rows
def none {H : Type} : Left H := { results := [], args := [] }

/- WHAT THE LISTED PACKAGE-LEVEL VARIABLES READ AS WHEN THE CALL BEGINS. Each datum BY PROGRAM (the guide's laid-datum.mjs) off the statement by which the dump's own 'gosem.cut.vars' lays the variable. In a bare row this is a premise. The card (YtonceehdmnkffaaGreatDoorCards.lean) ties it to the program's text. -/
def laid_paycycle_rules_shapes {H : Type} : DataW H := .agg [.agg [.lit (.int .i64 0), .lit (.bool false), .lit (.int .i64 0), .lit (.int .i64 0)], .agg [.lit (.int .i64 0), .lit (.bool false), .lit (.int .i64 0), .lit (.int .i64 1000000000000)], .agg [.lit (.int .i64 0), .lit (.bool true), .lit (.int .i64 0), .lit (.int .i64 0)], .agg [.lit (.int .i64 0), .lit (.bool true), .lit (.int .i64 0), .lit (.int .i64 0)], .agg [.lit (.int .i64 1), .lit (.bool false), .lit (.int .i64 0), .lit (.int .i64 1000000)], .agg [.lit (.int .i64 1), .lit (.bool true), .lit (.int .i64 0), .lit (.int .i64 0)], .agg [.lit (.int .i64 1), .lit (.bool false), .lit (.int .i64 0), .lit (.int .i64 0)], .agg [.lit (.int .i64 2), .lit (.bool false), .lit (.int .i64 0), .lit (.int .i64 0)], .agg [.lit (.int .i64 2), .lit (.bool false), .lit (.int .i64 0), .lit (.int .i64 0)], .agg [.lit (.int .i64 1), .lit (.bool false), .lit (.int .i64 1), .lit (.int .i64 1000000)], .agg [.lit (.int .i64 1), .lit (.bool false), .lit (.int .i64 1), .lit (.int .i64 1000000)], .agg [.lit (.int .i64 2), .lit (.bool false), .lit (.int .i64 0), .lit (.int .i64 0)], .agg [.lit (.int .i64 2), .lit (.bool false), .lit (.int .i64 0), .lit (.int .i64 0)], .agg [.lit (.int .i64 4), .lit (.bool false), .lit (.int .i64 1), .lit (.int .i64 3)]]

/-- 'paycyclelaw.RetroChecks': WHATEVER THE INPUT: true; the input reads as it did. -/
def retroChecksSpec : ChangeSpec := { name := "retroChecks", fn := fun _ => fun
  | [d] => { results := [.lit (.bool true)], args := [d] }
  | _ => none }
def retroChecksRow : OpenClaim := { program := "ytonceehdmnkffaagreatdoor", sum := "3dcbad09eb7db37070742d6fa5f6d67e4483220cb79e60eb63b2781af2e3305a", func := "paycycle/paycyclelaw.RetroChecks", spec := "retroChecks", unfollowed := true, recurses := true, named := ["paycycle/rules.shapes"], loops := true, apart := false, laid := [("paycycle/rules.shapes", laid_paycycle_rules_shapes)] }
def RetroChecksSaid : Prop := retroChecksRow.holds Tryz.pinned (OpenSpec.ofChange retroChecksSpec)

/-- ITS FALSE NEIGHBOUR: 'it returns false'. Refute it at one input. -/
def retroChecksWrong : ChangeSpec := { name := "retroChecks", fn := fun _ => fun
  | [d] => { results := [.lit (.bool false)], args := [d] }
  | _ => none }
def RetroChecksWrongFalsely : Prop := retroChecksRow.holds Tryz.pinned (OpenSpec.ofChange retroChecksWrong)

/-- 'paycyclelaw.RetroFresh': WHATEVER THE INPUT: true; the input reads as it did. -/
def retroFreshSpec : ChangeSpec := { name := "retroFresh", fn := fun _ => fun
  | [d1, d2, d3, d4] => { results := [.lit (.bool true)], args := [d1, d2, d3, d4] }
  | _ => none }
def retroFreshRow : OpenClaim := { program := "ytonceehdmnkffaagreatdoor", sum := "3dcbad09eb7db37070742d6fa5f6d67e4483220cb79e60eb63b2781af2e3305a", func := "paycycle/paycyclelaw.RetroFresh", spec := "retroFresh", unfollowed := true, recurses := true, named := ["paycycle/rules.shapes"], loops := true, apart := false, laid := [("paycycle/rules.shapes", laid_paycycle_rules_shapes)] }
def RetroFreshSaid : Prop := retroFreshRow.holds Tryz.pinned (OpenSpec.ofChange retroFreshSpec)

/-- ITS FALSE NEIGHBOUR: 'it returns false'. Refute it at one input. -/
def retroFreshWrong : ChangeSpec := { name := "retroFresh", fn := fun _ => fun
  | [d1, d2, d3, d4] => { results := [.lit (.bool false)], args := [d1, d2, d3, d4] }
  | _ => none }
def RetroFreshWrongFalsely : Prop := retroFreshRow.holds Tryz.pinned (OpenSpec.ofChange retroFreshWrong)

/-- 'paycyclelaw.RetroFirst': WHATEVER THE INPUT: true; the input reads as it did. -/
def retroFirstSpec : ChangeSpec := { name := "retroFirst", fn := fun _ => fun
  | [d1, d2, d3, d4] => { results := [.lit (.bool true)], args := [d1, d2, d3, d4] }
  | _ => none }
def retroFirstRow : OpenClaim := { program := "ytonceehdmnkffaagreatdoor", sum := "3dcbad09eb7db37070742d6fa5f6d67e4483220cb79e60eb63b2781af2e3305a", func := "paycycle/paycyclelaw.RetroFirst", spec := "retroFirst", unfollowed := true, recurses := true, named := ["paycycle/rules.shapes"], loops := true, apart := false, laid := [("paycycle/rules.shapes", laid_paycycle_rules_shapes)] }
def RetroFirstSaid : Prop := retroFirstRow.holds Tryz.pinned (OpenSpec.ofChange retroFirstSpec)

/-- ITS FALSE NEIGHBOUR: 'it returns false'. Refute it at one input. -/
def retroFirstWrong : ChangeSpec := { name := "retroFirst", fn := fun _ => fun
  | [d1, d2, d3, d4] => { results := [.lit (.bool false)], args := [d1, d2, d3, d4] }
  | _ => none }
def RetroFirstWrongFalsely : Prop := retroFirstRow.holds Tryz.pinned (OpenSpec.ofChange retroFirstWrong)

/-- 'paycyclelaw.RetroDelta': WHATEVER THE INPUT: true; the input reads as it did. -/
def retroDeltaSpec : ChangeSpec := { name := "retroDelta", fn := fun _ => fun
  | [d1, d2, d3, d4, d5] => { results := [.lit (.bool true)], args := [d1, d2, d3, d4, d5] }
  | _ => none }
def retroDeltaRow : OpenClaim := { program := "ytonceehdmnkffaagreatdoor", sum := "3dcbad09eb7db37070742d6fa5f6d67e4483220cb79e60eb63b2781af2e3305a", func := "paycycle/paycyclelaw.RetroDelta", spec := "retroDelta", unfollowed := true, recurses := true, named := ["paycycle/rules.shapes"], loops := true, apart := false, laid := [("paycycle/rules.shapes", laid_paycycle_rules_shapes)] }
def RetroDeltaSaid : Prop := retroDeltaRow.holds Tryz.pinned (OpenSpec.ofChange retroDeltaSpec)

/-- ITS FALSE NEIGHBOUR: 'it returns false'. Refute it at one input. -/
def retroDeltaWrong : ChangeSpec := { name := "retroDelta", fn := fun _ => fun
  | [d1, d2, d3, d4, d5] => { results := [.lit (.bool false)], args := [d1, d2, d3, d4, d5] }
  | _ => none }
def RetroDeltaWrongFalsely : Prop := retroDeltaRow.holds Tryz.pinned (OpenSpec.ofChange retroDeltaWrong)

/-- 'paycyclelaw.RetroMakes': WHATEVER THE INPUT: true; the input reads as it did. -/
def retroMakesSpec : ChangeSpec := { name := "retroMakes", fn := fun _ => fun
  | [d1, d2, d3, d4, d5] => { results := [.lit (.bool true)], args := [d1, d2, d3, d4, d5] }
  | _ => none }
def retroMakesRow : OpenClaim := { program := "ytonceehdmnkffaagreatdoor", sum := "3dcbad09eb7db37070742d6fa5f6d67e4483220cb79e60eb63b2781af2e3305a", func := "paycycle/paycyclelaw.RetroMakes", spec := "retroMakes", unfollowed := true, recurses := true, named := ["paycycle/rules.shapes"], loops := true, apart := false, laid := [("paycycle/rules.shapes", laid_paycycle_rules_shapes)] }
def RetroMakesSaid : Prop := retroMakesRow.holds Tryz.pinned (OpenSpec.ofChange retroMakesSpec)

/-- ITS FALSE NEIGHBOUR: 'it returns false'. Refute it at one input. -/
def retroMakesWrong : ChangeSpec := { name := "retroMakes", fn := fun _ => fun
  | [d1, d2, d3, d4, d5] => { results := [.lit (.bool false)], args := [d1, d2, d3, d4, d5] }
  | _ => none }
def RetroMakesWrongFalsely : Prop := retroMakesRow.holds Tryz.pinned (OpenSpec.ofChange retroMakesWrong)

/-- 'paycyclelaw.RetroAhead': WHATEVER THE INPUT: true; the input reads as it did. -/
def retroAheadSpec : ChangeSpec := { name := "retroAhead", fn := fun _ => fun
  | [d1, d2, d3, d4, d5] => { results := [.lit (.bool true)], args := [d1, d2, d3, d4, d5] }
  | _ => none }
def retroAheadRow : OpenClaim := { program := "ytonceehdmnkffaagreatdoor", sum := "3dcbad09eb7db37070742d6fa5f6d67e4483220cb79e60eb63b2781af2e3305a", func := "paycycle/paycyclelaw.RetroAhead", spec := "retroAhead", unfollowed := true, recurses := true, named := ["paycycle/rules.shapes"], loops := true, apart := false, laid := [("paycycle/rules.shapes", laid_paycycle_rules_shapes)] }
def RetroAheadSaid : Prop := retroAheadRow.holds Tryz.pinned (OpenSpec.ofChange retroAheadSpec)

/-- ITS FALSE NEIGHBOUR: 'it returns false'. Refute it at one input. -/
def retroAheadWrong : ChangeSpec := { name := "retroAhead", fn := fun _ => fun
  | [d1, d2, d3, d4, d5] => { results := [.lit (.bool false)], args := [d1, d2, d3, d4, d5] }
  | _ => none }
def RetroAheadWrongFalsely : Prop := retroAheadRow.holds Tryz.pinned (OpenSpec.ofChange retroAheadWrong)

/-- 'paycyclelaw.RetroOn': WHATEVER THE INPUT: true; the input reads as it did. -/
def retroOnSpec : ChangeSpec := { name := "retroOn", fn := fun _ => fun
  | [d1, d2, d3, d4, d5] => { results := [.lit (.bool true)], args := [d1, d2, d3, d4, d5] }
  | _ => none }
def retroOnRow : OpenClaim := { program := "ytonceehdmnkffaagreatdoor", sum := "3dcbad09eb7db37070742d6fa5f6d67e4483220cb79e60eb63b2781af2e3305a", func := "paycycle/paycyclelaw.RetroOn", spec := "retroOn", unfollowed := true, recurses := true, named := ["paycycle/rules.shapes"], loops := true, apart := false, laid := [("paycycle/rules.shapes", laid_paycycle_rules_shapes)] }
def RetroOnSaid : Prop := retroOnRow.holds Tryz.pinned (OpenSpec.ofChange retroOnSpec)

/-- ITS FALSE NEIGHBOUR: 'it returns false'. Refute it at one input. -/
def retroOnWrong : ChangeSpec := { name := "retroOn", fn := fun _ => fun
  | [d1, d2, d3, d4, d5] => { results := [.lit (.bool false)], args := [d1, d2, d3, d4, d5] }
  | _ => none }
def RetroOnWrongFalsely : Prop := retroOnRow.holds Tryz.pinned (OpenSpec.ofChange retroOnWrong)

/- THE SECOND FORM. 'bulk': how many values and letters a reading holds, each counted each time it is reached (what is shared counts as often as it is met; a slice's spare places count too). A statement '..UptoSaid' is the law's where the arguments, and the package variables that the reading takes, are together of bulk at most 1048576: NARROWER than '..Said'. Prove '..Said' where nothing that the law and all that it calls make is longer than what came in: it says more and counts as full. Else prove '..UptoSaid'. A law counts once. -/
mutual
def uptoBulk {H : Type} : DataW H → Nat
  | .lit (.string bytes) => bytes.length + 1
  | .lit _ => 1
  | .nil => 1
  | .ptr d => uptoBulk d + 1
  | .slice elems spare => uptoBulkAll elems + uptoBulkAll spare + 1
  | .agg parts => uptoBulkAll parts + 1
  | .iface _ d => uptoBulk d + 1
  | .map entries => uptoBulkEntries entries + 1
  | .held _ => 1
def uptoBulkAll {H : Type} : List (DataW H) → Nat
  | [] => 0
  | d :: r => uptoBulk d + uptoBulkAll r
def uptoBulkEntries {H : Type} : List (Lit × DataW H) → Nat
  | [] => 0
  | x :: r => uptoBulkEntry x + uptoBulkEntries r
def uptoBulkEntry {H : Type} : Lit × DataW H → Nat
  | (.string bytes, d) => bytes.length + uptoBulk d + 1
  | (_, d) => uptoBulk d + 1
 end
def uptoSmall : (H : Type) → List (DataW H) → Bool := fun _ ds => decide (uptoBulkAll ds ≤ 1048576)
def OpenSpec.upto (s : _root_.Go.ChangeSpec) : _root_.Go.OpenSpec := { _root_.Go.OpenSpec.ofChange s with cond := some uptoSmall }

/-- 'paycyclelaw.RetroChecks', WHERE WHAT IT READS IS OF BULK AT MOST 1048576: true; the input reads as it did. -/
def retroChecksUptoRow : OpenClaim := { program := "ytonceehdmnkffaagreatdoor", sum := "3dcbad09eb7db37070742d6fa5f6d67e4483220cb79e60eb63b2781af2e3305a", func := "paycycle/paycyclelaw.RetroChecks", spec := "retroChecks", unfollowed := true, recurses := true, named := ["paycycle/rules.shapes"], loops := true, apart := false, laid := [("paycycle/rules.shapes", laid_paycycle_rules_shapes)], narrowed := true }
def RetroChecksUptoSaid : Prop := retroChecksUptoRow.holds Tryz.pinned (OpenSpec.upto retroChecksSpec)

/-- 'paycyclelaw.RetroFresh', WHERE WHAT IT READS IS OF BULK AT MOST 1048576: true; the input reads as it did. -/
def retroFreshUptoRow : OpenClaim := { program := "ytonceehdmnkffaagreatdoor", sum := "3dcbad09eb7db37070742d6fa5f6d67e4483220cb79e60eb63b2781af2e3305a", func := "paycycle/paycyclelaw.RetroFresh", spec := "retroFresh", unfollowed := true, recurses := true, named := ["paycycle/rules.shapes"], loops := true, apart := false, laid := [("paycycle/rules.shapes", laid_paycycle_rules_shapes)], narrowed := true }
def RetroFreshUptoSaid : Prop := retroFreshUptoRow.holds Tryz.pinned (OpenSpec.upto retroFreshSpec)

/-- 'paycyclelaw.RetroFirst', WHERE WHAT IT READS IS OF BULK AT MOST 1048576: true; the input reads as it did. -/
def retroFirstUptoRow : OpenClaim := { program := "ytonceehdmnkffaagreatdoor", sum := "3dcbad09eb7db37070742d6fa5f6d67e4483220cb79e60eb63b2781af2e3305a", func := "paycycle/paycyclelaw.RetroFirst", spec := "retroFirst", unfollowed := true, recurses := true, named := ["paycycle/rules.shapes"], loops := true, apart := false, laid := [("paycycle/rules.shapes", laid_paycycle_rules_shapes)], narrowed := true }
def RetroFirstUptoSaid : Prop := retroFirstUptoRow.holds Tryz.pinned (OpenSpec.upto retroFirstSpec)

/-- 'paycyclelaw.RetroDelta', WHERE WHAT IT READS IS OF BULK AT MOST 1048576: true; the input reads as it did. -/
def retroDeltaUptoRow : OpenClaim := { program := "ytonceehdmnkffaagreatdoor", sum := "3dcbad09eb7db37070742d6fa5f6d67e4483220cb79e60eb63b2781af2e3305a", func := "paycycle/paycyclelaw.RetroDelta", spec := "retroDelta", unfollowed := true, recurses := true, named := ["paycycle/rules.shapes"], loops := true, apart := false, laid := [("paycycle/rules.shapes", laid_paycycle_rules_shapes)], narrowed := true }
def RetroDeltaUptoSaid : Prop := retroDeltaUptoRow.holds Tryz.pinned (OpenSpec.upto retroDeltaSpec)

/-- 'paycyclelaw.RetroMakes', WHERE WHAT IT READS IS OF BULK AT MOST 1048576: true; the input reads as it did. -/
def retroMakesUptoRow : OpenClaim := { program := "ytonceehdmnkffaagreatdoor", sum := "3dcbad09eb7db37070742d6fa5f6d67e4483220cb79e60eb63b2781af2e3305a", func := "paycycle/paycyclelaw.RetroMakes", spec := "retroMakes", unfollowed := true, recurses := true, named := ["paycycle/rules.shapes"], loops := true, apart := false, laid := [("paycycle/rules.shapes", laid_paycycle_rules_shapes)], narrowed := true }
def RetroMakesUptoSaid : Prop := retroMakesUptoRow.holds Tryz.pinned (OpenSpec.upto retroMakesSpec)

/-- 'paycyclelaw.RetroAhead', WHERE WHAT IT READS IS OF BULK AT MOST 1048576: true; the input reads as it did. -/
def retroAheadUptoRow : OpenClaim := { program := "ytonceehdmnkffaagreatdoor", sum := "3dcbad09eb7db37070742d6fa5f6d67e4483220cb79e60eb63b2781af2e3305a", func := "paycycle/paycyclelaw.RetroAhead", spec := "retroAhead", unfollowed := true, recurses := true, named := ["paycycle/rules.shapes"], loops := true, apart := false, laid := [("paycycle/rules.shapes", laid_paycycle_rules_shapes)], narrowed := true }
def RetroAheadUptoSaid : Prop := retroAheadUptoRow.holds Tryz.pinned (OpenSpec.upto retroAheadSpec)

/-- 'paycyclelaw.RetroOn', WHERE WHAT IT READS IS OF BULK AT MOST 1048576: true; the input reads as it did. -/
def retroOnUptoRow : OpenClaim := { program := "ytonceehdmnkffaagreatdoor", sum := "3dcbad09eb7db37070742d6fa5f6d67e4483220cb79e60eb63b2781af2e3305a", func := "paycycle/paycyclelaw.RetroOn", spec := "retroOn", unfollowed := true, recurses := true, named := ["paycycle/rules.shapes"], loops := true, apart := false, laid := [("paycycle/rules.shapes", laid_paycycle_rules_shapes)], narrowed := true }
def RetroOnUptoSaid : Prop := retroOnUptoRow.holds Tryz.pinned (OpenSpec.upto retroOnSpec)

end Rows
end Go.Proofs.YtonceehdmnkffaaGreatDoor
