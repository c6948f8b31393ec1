/-
  NARROWER THAN 'FOR EVERY INPUT', by the rows' own cells (each row's printed sentence says how): BindKnown: laid · BindLines: loops, laid · BindUses: loops, laid · CodeChecks: laid · CodeRuns: laid · CodeEnds: laid.
  DERIVED. THE GIVEN ROWS OF THIS SEAT. 6 by the template 'for every input the law returns true; each argument reads behind the call as it read before'; 0 by the template 'total and deterministic' (their statements: YtfmlbgcfildidaaDoorTotals.lean).
  GIVEN WITH THE SEED: the statements are not yours to turn. If you find one false, say at which input.
  Laid BY PROGRAM, IN A SANDBOX (cutbox-rows.mjs): the forced cells as the released guide's own fill.sh prints them over the translation 5dad26f7caea58b4… (all of the seat's roots in one cut). By AI agents, Wed Nov 11 2026. No macro, syntax, notation, axiom, sorry.
-/
import Derived.Test.YtfmlbgcfildidaaDoorChecked
import GoSem.Claim
import GoSem.ClaimJoined
import GoSem.ClaimMapViews
import Derived.JoinedTies
import Derived.KernelRfl
namespace Go.Proofs.YtfmlbgcfildidaaDoor
/- THE CELL 'sum', in the pinned program and in every row, IS THE sha256 OF THE DUMP (.gsa) THAT YtfmlbgcfildidaaDoorProg.lean LOADS. Nothing in Lean hashes anything: it is a label: what it is worth is what the hold of that sum in a sandbox is worth. -/
noncomputable def Tryd.pinned : Pinned := { name := "ytfmlbgcfildidaadoor", sum := "5dad26f7caea58b474e83b1bc986c57a7b6cae0904231a4a448255a6d1b6ce44", checked := Tryd.checked }
namespace Rows
def none {H : Type} : Left H := { results := [], args := [] }

/- WHAT THE LISTED PACKAGE-LEVEL VARIABLES READ AS WHEN THE CALL BEGINS. Each datum BY PROGRAM (the guide's laid-datum.mjs) off the statement by which the dump's own 'gosem.cut.vars' lays the variable. In a bare row this is a premise. The card (YtfmlbgcfildidaaDoorCards.lean) ties it to the program's text. -/
def laid_paycycle_rules_shapes {H : Type} : DataW H := .agg [.agg [.lit (.int .i64 0), .lit (.bool false), .lit (.int .i64 0), .lit (.int .i64 0)], .agg [.lit (.int .i64 0), .lit (.bool false), .lit (.int .i64 0), .lit (.int .i64 1000000000000)], .agg [.lit (.int .i64 0), .lit (.bool true), .lit (.int .i64 0), .lit (.int .i64 0)], .agg [.lit (.int .i64 0), .lit (.bool true), .lit (.int .i64 0), .lit (.int .i64 0)], .agg [.lit (.int .i64 1), .lit (.bool false), .lit (.int .i64 0), .lit (.int .i64 1000000)], .agg [.lit (.int .i64 1), .lit (.bool true), .lit (.int .i64 0), .lit (.int .i64 0)], .agg [.lit (.int .i64 1), .lit (.bool false), .lit (.int .i64 0), .lit (.int .i64 0)], .agg [.lit (.int .i64 2), .lit (.bool false), .lit (.int .i64 0), .lit (.int .i64 0)], .agg [.lit (.int .i64 2), .lit (.bool false), .lit (.int .i64 0), .lit (.int .i64 0)], .agg [.lit (.int .i64 1), .lit (.bool false), .lit (.int .i64 1), .lit (.int .i64 1000000)], .agg [.lit (.int .i64 1), .lit (.bool false), .lit (.int .i64 1), .lit (.int .i64 1000000)], .agg [.lit (.int .i64 2), .lit (.bool false), .lit (.int .i64 0), .lit (.int .i64 0)], .agg [.lit (.int .i64 2), .lit (.bool false), .lit (.int .i64 0), .lit (.int .i64 0)], .agg [.lit (.int .i64 4), .lit (.bool false), .lit (.int .i64 1), .lit (.int .i64 3)]]
def laid_paycycle_code_effects {H : Type} : DataW H := .agg [.agg [.lit (.int .i64 0), .lit (.int .i64 0)], .agg [.lit (.int .i64 0), .lit (.int .i64 1)], .agg [.lit (.int .i64 0), .lit (.int .i64 1)], .agg [.lit (.int .i64 0), .lit (.int .i64 1)], .agg [.lit (.int .i64 0), .lit (.int .i64 1)], .agg [.lit (.int .i64 1), .lit (.int .i64 1)], .agg [.lit (.int .i64 1), .lit (.int .i64 1)], .agg [.lit (.int .i64 1), .lit (.int .i64 1)], .agg [.lit (.int .i64 2), .lit (.int .i64 1)], .agg [.lit (.int .i64 2), .lit (.int .i64 1)], .agg [.lit (.int .i64 1), .lit (.int .i64 1)], .agg [.lit (.int .i64 1), .lit (.int .i64 1)], .agg [.lit (.int .i64 2), .lit (.int .i64 1)], .agg [.lit (.int .i64 2), .lit (.int .i64 1)], .agg [.lit (.int .i64 0), .lit (.int .i64 0)], .agg [.lit (.int .i64 2), .lit (.int .i64 0)], .agg [.lit (.int .i64 1), .lit (.int .i64 0)]]

/-- 'paycyclelaw.BindKnown': WHATEVER THE INPUT: true; the input reads as it did. -/
def bindKnownSpec : ChangeSpec := { name := "bindKnown", fn := fun _ => fun
  | [d] => { results := [.lit (.bool true)], args := [d] }
  | _ => none }
def bindKnownRow : OpenClaim := { program := "ytfmlbgcfildidaadoor", sum := "5dad26f7caea58b474e83b1bc986c57a7b6cae0904231a4a448255a6d1b6ce44", func := "paycycle/paycyclelaw.BindKnown", spec := "bindKnown", unfollowed := true, recurses := true, named := ["paycycle/rules.shapes"], apart := false, laid := [("paycycle/rules.shapes", laid_paycycle_rules_shapes)] }
def BindKnownSaid : Prop := bindKnownRow.holds Tryd.pinned (OpenSpec.ofChange bindKnownSpec)

/-- ITS FALSE NEIGHBOUR: 'it returns false'. Refute it at one input. -/
def bindKnownWrong : ChangeSpec := { name := "bindKnown", fn := fun _ => fun
  | [d] => { results := [.lit (.bool false)], args := [d] }
  | _ => none }
def BindKnownWrongFalsely : Prop := bindKnownRow.holds Tryd.pinned (OpenSpec.ofChange bindKnownWrong)

/-- 'paycyclelaw.BindLines': WHATEVER THE INPUT: true; the input reads as it did. -/
def bindLinesSpec : ChangeSpec := { name := "bindLines", fn := fun _ => fun
  | [d1, d2] => { results := [.lit (.bool true)], args := [d1, d2] }
  | _ => none }
def bindLinesRow : OpenClaim := { program := "ytfmlbgcfildidaadoor", sum := "5dad26f7caea58b474e83b1bc986c57a7b6cae0904231a4a448255a6d1b6ce44", func := "paycycle/paycyclelaw.BindLines", spec := "bindLines", unfollowed := true, recurses := true, named := ["paycycle/rules.shapes"], loops := true, apart := false, laid := [("paycycle/rules.shapes", laid_paycycle_rules_shapes)] }
def BindLinesSaid : Prop := bindLinesRow.holds Tryd.pinned (OpenSpec.ofChange bindLinesSpec)

/-- ITS FALSE NEIGHBOUR: 'it returns false'. Refute it at one input. -/
def bindLinesWrong : ChangeSpec := { name := "bindLines", fn := fun _ => fun
  | [d1, d2] => { results := [.lit (.bool false)], args := [d1, d2] }
  | _ => none }
def BindLinesWrongFalsely : Prop := bindLinesRow.holds Tryd.pinned (OpenSpec.ofChange bindLinesWrong)

/-- 'paycyclelaw.BindUses': WHATEVER THE INPUT: true; the input reads as it did. -/
def bindUsesSpec : ChangeSpec := { name := "bindUses", fn := fun _ => fun
  | [d1, d2] => { results := [.lit (.bool true)], args := [d1, d2] }
  | _ => none }
def bindUsesRow : OpenClaim := { program := "ytfmlbgcfildidaadoor", sum := "5dad26f7caea58b474e83b1bc986c57a7b6cae0904231a4a448255a6d1b6ce44", func := "paycycle/paycyclelaw.BindUses", spec := "bindUses", unfollowed := true, recurses := true, named := ["paycycle/rules.shapes"], loops := true, apart := false, laid := [("paycycle/rules.shapes", laid_paycycle_rules_shapes)] }
def BindUsesSaid : Prop := bindUsesRow.holds Tryd.pinned (OpenSpec.ofChange bindUsesSpec)

/-- ITS FALSE NEIGHBOUR: 'it returns false'. Refute it at one input. -/
def bindUsesWrong : ChangeSpec := { name := "bindUses", fn := fun _ => fun
  | [d1, d2] => { results := [.lit (.bool false)], args := [d1, d2] }
  | _ => none }
def BindUsesWrongFalsely : Prop := bindUsesRow.holds Tryd.pinned (OpenSpec.ofChange bindUsesWrong)

/-- 'paycyclelaw.CodeChecks': WHATEVER THE INPUT: true; the input reads as it did. -/
def codeChecksSpec : ChangeSpec := { name := "codeChecks", fn := fun _ => fun
  | [d1, d2, d3] => { results := [.lit (.bool true)], args := [d1, d2, d3] }
  | _ => none }
def codeChecksRow : OpenClaim := { program := "ytfmlbgcfildidaadoor", sum := "5dad26f7caea58b474e83b1bc986c57a7b6cae0904231a4a448255a6d1b6ce44", func := "paycycle/paycyclelaw.CodeChecks", spec := "codeChecks", unfollowed := true, recurses := true, named := ["paycycle/code.effects"], apart := false, laid := [("paycycle/code.effects", laid_paycycle_code_effects)] }
def CodeChecksSaid : Prop := codeChecksRow.holds Tryd.pinned (OpenSpec.ofChange codeChecksSpec)

/-- ITS FALSE NEIGHBOUR: 'it returns false'. Refute it at one input. -/
def codeChecksWrong : ChangeSpec := { name := "codeChecks", fn := fun _ => fun
  | [d1, d2, d3] => { results := [.lit (.bool false)], args := [d1, d2, d3] }
  | _ => none }
def CodeChecksWrongFalsely : Prop := codeChecksRow.holds Tryd.pinned (OpenSpec.ofChange codeChecksWrong)

/-- 'paycyclelaw.CodeRuns': WHATEVER THE INPUT: true; the input reads as it did. -/
def codeRunsSpec : ChangeSpec := { name := "codeRuns", fn := fun _ => fun
  | [d1, d2, d3] => { results := [.lit (.bool true)], args := [d1, d2, d3] }
  | _ => none }
def codeRunsRow : OpenClaim := { program := "ytfmlbgcfildidaadoor", sum := "5dad26f7caea58b474e83b1bc986c57a7b6cae0904231a4a448255a6d1b6ce44", func := "paycycle/paycyclelaw.CodeRuns", spec := "codeRuns", unfollowed := true, recurses := true, named := ["paycycle/code.effects"], apart := false, laid := [("paycycle/code.effects", laid_paycycle_code_effects)] }
def CodeRunsSaid : Prop := codeRunsRow.holds Tryd.pinned (OpenSpec.ofChange codeRunsSpec)

/-- ITS FALSE NEIGHBOUR: 'it returns false'. Refute it at one input. -/
def codeRunsWrong : ChangeSpec := { name := "codeRuns", fn := fun _ => fun
  | [d1, d2, d3] => { results := [.lit (.bool false)], args := [d1, d2, d3] }
  | _ => none }
def CodeRunsWrongFalsely : Prop := codeRunsRow.holds Tryd.pinned (OpenSpec.ofChange codeRunsWrong)

/-- 'paycyclelaw.CodeEnds': WHATEVER THE INPUT: true; the input reads as it did. -/
def codeEndsSpec : ChangeSpec := { name := "codeEnds", fn := fun _ => fun
  | [d1, d2, d3] => { results := [.lit (.bool true)], args := [d1, d2, d3] }
  | _ => none }
def codeEndsRow : OpenClaim := { program := "ytfmlbgcfildidaadoor", sum := "5dad26f7caea58b474e83b1bc986c57a7b6cae0904231a4a448255a6d1b6ce44", func := "paycycle/paycyclelaw.CodeEnds", spec := "codeEnds", unfollowed := true, recurses := true, named := ["paycycle/code.effects"], apart := false, laid := [("paycycle/code.effects", laid_paycycle_code_effects)] }
def CodeEndsSaid : Prop := codeEndsRow.holds Tryd.pinned (OpenSpec.ofChange codeEndsSpec)

/-- ITS FALSE NEIGHBOUR: 'it returns false'. Refute it at one input. -/
def codeEndsWrong : ChangeSpec := { name := "codeEnds", fn := fun _ => fun
  | [d1, d2, d3] => { results := [.lit (.bool false)], args := [d1, d2, d3] }
  | _ => none }
def CodeEndsWrongFalsely : Prop := codeEndsRow.holds Tryd.pinned (OpenSpec.ofChange codeEndsWrong)

/- THE SECOND FORM. 'bulk': how many values and letters a reading holds, each counted each time it is reached (what is shared counts as often as it is met; a slice's spare places count too). A statement '..UptoSaid' is the law's where the arguments, and the package variables that the reading takes, are together of bulk at most 1048576: NARROWER than '..Said'. Prove '..Said' where nothing that the law and all that it calls make is longer than what came in: it says more and counts as full. Else prove '..UptoSaid'. A law counts once. -/
mutual
def uptoBulk {H : Type} : DataW H → Nat
  | .lit (.string bytes) => bytes.length + 1
  | .lit _ => 1
  | .nil => 1
  | .ptr d => uptoBulk d + 1
  | .slice elems spare => uptoBulkAll elems + uptoBulkAll spare + 1
  | .agg parts => uptoBulkAll parts + 1
  | .iface _ d => uptoBulk d + 1
  | .map entries => uptoBulkEntries entries + 1
  | .held _ => 1
def uptoBulkAll {H : Type} : List (DataW H) → Nat
  | [] => 0
  | d :: r => uptoBulk d + uptoBulkAll r
def uptoBulkEntries {H : Type} : List (Lit × DataW H) → Nat
  | [] => 0
  | x :: r => uptoBulkEntry x + uptoBulkEntries r
def uptoBulkEntry {H : Type} : Lit × DataW H → Nat
  | (.string bytes, d) => bytes.length + uptoBulk d + 1
  | (_, d) => uptoBulk d + 1
 end
def uptoSmall : (H : Type) → List (DataW H) → Bool := fun _ ds => decide (uptoBulkAll ds ≤ 1048576)
def OpenSpec.upto (s : _root_.Go.ChangeSpec) : _root_.Go.OpenSpec := { _root_.Go.OpenSpec.ofChange s with cond := some uptoSmall }

/-- 'paycyclelaw.BindKnown', WHERE WHAT IT READS IS OF BULK AT MOST 1048576: true; the input reads as it did. -/
def bindKnownUptoRow : OpenClaim := { program := "ytfmlbgcfildidaadoor", sum := "5dad26f7caea58b474e83b1bc986c57a7b6cae0904231a4a448255a6d1b6ce44", func := "paycycle/paycyclelaw.BindKnown", spec := "bindKnown", unfollowed := true, recurses := true, named := ["paycycle/rules.shapes"], apart := false, laid := [("paycycle/rules.shapes", laid_paycycle_rules_shapes)], narrowed := true }
def BindKnownUptoSaid : Prop := bindKnownUptoRow.holds Tryd.pinned (OpenSpec.upto bindKnownSpec)

/-- 'paycyclelaw.BindLines', WHERE WHAT IT READS IS OF BULK AT MOST 1048576: true; the input reads as it did. -/
def bindLinesUptoRow : OpenClaim := { program := "ytfmlbgcfildidaadoor", sum := "5dad26f7caea58b474e83b1bc986c57a7b6cae0904231a4a448255a6d1b6ce44", func := "paycycle/paycyclelaw.BindLines", spec := "bindLines", unfollowed := true, recurses := true, named := ["paycycle/rules.shapes"], loops := true, apart := false, laid := [("paycycle/rules.shapes", laid_paycycle_rules_shapes)], narrowed := true }
def BindLinesUptoSaid : Prop := bindLinesUptoRow.holds Tryd.pinned (OpenSpec.upto bindLinesSpec)

/-- 'paycyclelaw.BindUses', WHERE WHAT IT READS IS OF BULK AT MOST 1048576: true; the input reads as it did. -/
def bindUsesUptoRow : OpenClaim := { program := "ytfmlbgcfildidaadoor", sum := "5dad26f7caea58b474e83b1bc986c57a7b6cae0904231a4a448255a6d1b6ce44", func := "paycycle/paycyclelaw.BindUses", spec := "bindUses", unfollowed := true, recurses := true, named := ["paycycle/rules.shapes"], loops := true, apart := false, laid := [("paycycle/rules.shapes", laid_paycycle_rules_shapes)], narrowed := true }
def BindUsesUptoSaid : Prop := bindUsesUptoRow.holds Tryd.pinned (OpenSpec.upto bindUsesSpec)

/-- 'paycyclelaw.CodeChecks', WHERE WHAT IT READS IS OF BULK AT MOST 1048576: true; the input reads as it did. -/
def codeChecksUptoRow : OpenClaim := { program := "ytfmlbgcfildidaadoor", sum := "5dad26f7caea58b474e83b1bc986c57a7b6cae0904231a4a448255a6d1b6ce44", func := "paycycle/paycyclelaw.CodeChecks", spec := "codeChecks", unfollowed := true, recurses := true, named := ["paycycle/code.effects"], apart := false, laid := [("paycycle/code.effects", laid_paycycle_code_effects)], narrowed := true }
def CodeChecksUptoSaid : Prop := codeChecksUptoRow.holds Tryd.pinned (OpenSpec.upto codeChecksSpec)

/-- 'paycyclelaw.CodeRuns', WHERE WHAT IT READS IS OF BULK AT MOST 1048576: true; the input reads as it did. -/
def codeRunsUptoRow : OpenClaim := { program := "ytfmlbgcfildidaadoor", sum := "5dad26f7caea58b474e83b1bc986c57a7b6cae0904231a4a448255a6d1b6ce44", func := "paycycle/paycyclelaw.CodeRuns", spec := "codeRuns", unfollowed := true, recurses := true, named := ["paycycle/code.effects"], apart := false, laid := [("paycycle/code.effects", laid_paycycle_code_effects)], narrowed := true }
def CodeRunsUptoSaid : Prop := codeRunsUptoRow.holds Tryd.pinned (OpenSpec.upto codeRunsSpec)

/-- 'paycyclelaw.CodeEnds', WHERE WHAT IT READS IS OF BULK AT MOST 1048576: true; the input reads as it did. -/
def codeEndsUptoRow : OpenClaim := { program := "ytfmlbgcfildidaadoor", sum := "5dad26f7caea58b474e83b1bc986c57a7b6cae0904231a4a448255a6d1b6ce44", func := "paycycle/paycyclelaw.CodeEnds", spec := "codeEnds", unfollowed := true, recurses := true, named := ["paycycle/code.effects"], apart := false, laid := [("paycycle/code.effects", laid_paycycle_code_effects)], narrowed := true }
def CodeEndsUptoSaid : Prop := codeEndsUptoRow.holds Tryd.pinned (OpenSpec.upto codeEndsSpec)

end Rows
end Go.Proofs.YtfmlbgcfildidaaDoor
