/-
  RulesPrints: for every input the law answers true, and each argument reads behind the call as it read before; the library's tables lie as the program's text lays them (the card ties that to the text). Here: the frame from the walk to the card.
-/
import Derived.Test.YtchiifnciijagaaGreatDoorCards
import Derived.Test.YtchiifnciijagaaGreatDoorTie
import Derived.Test.YtchiifnciijagaaGreatDoorRZ
import Derived.Test.YtchiifnciijagaaGreatDoorRY
import Derived.ProofKit
import Derived.OpenShut
import Derived.ShutString
import Derived.LaidMore
import Derived.SizedLaws
import Derived.Stop.Joined
import Derived.Stop.LaidErr
import Derived.Lib.LaidTab
import Derived.LaidLaws
import Derived.Lib.SmallJoins
import Derived.Deep.Slices
namespace Go.Proofs.YtchiifnciijagaaGreatDoor.rulesPrintsDone
open Go.ChangeShapes Go.WideShapes Go.ChangeAt Go.RowKit
open Go.ChangeMaps (open_string shut_string)
set_option linter.unusedVariables false

theorem own : ownKnob Tryz.prog.godebug = none := by kernel_rfl
theorem laidOut : laidOutB Tryz.prog = true := by kernel_rfl
theorem gE : Tryz.prog.globalNamed "strconv.ErrRange" = some 7 := by kernel_rfl
theorem gEType : (Tryz.prog.globals[7]?).map (·.type) = some 55 := by kernel_rfl
theorem star : "*" ++ "errors.errorString" = "*errors.errorString" := by decide
theorem rowE (u : TypeId) (h : Tryz.prog.typeName? 3 u = some "*errors.errorString") : u = 135 :=
  typeName_ptr_named (nm := "errors.errorString") (by rw [star]; kernel_rfl) (by kernel_rfl) (by decide) u (by rw [star]; exact h)
theorem cellsE : Tryz.prog.cellsOf 137 = 1 := by kernel_rfl
theorem cellsS : Tryz.prog.cellsOf 9 = 1 := by kernel_rfl

/-- What the row's list gives the walk. -/
theorem table0 {W : World} (h0 : laidMetH Tryz.prog Rows.rulesPrintsRow.laid W) : PVars W ∧ Shp W := by
  rw [MakeChecks.laidMetH_plain _ _ _ (by kernel_rfl)] at h0
  have h : laidMet Tryz.prog [("math/bits.deBruijn32tab", Rows.laid_math_bits_deBruijn32tab), ("math/bits.deBruijn64tab", Rows.laid_math_bits_deBruijn64tab), ("internal/strconv.uint64pow10", Rows.laid_internal_strconv_uint64pow10), ("strconv.ErrRange", Rows.laid_strconv_ErrRange), ("strconv.ErrSyntax", Rows.laid_strconv_ErrSyntax), ("paycycle/rules.lineWords", Rows.laid_paycycle_rules_lineWords), ("paycycle/rules.testSigns", Rows.laid_paycycle_rules_testSigns), ("paycycle/rules.shapes", Rows.laid_paycycle_rules_shapes)] W := h0
  obtain ⟨a1, s1, hv1, _⟩ := laid_sentinel (laidMet.tail (laidMet.tail (laidMet.tail h))) gE gEType Tryz.underlying55 rowE Tryz.underlying135 Tryz.underlying137 rfl rfl Tryz.underlying9 cellsE cellsS
  exact ⟨⟨⟨_, by simpa using World.var?_cell gE hv1 0, .inr ⟨_, _, rfl⟩⟩, ofLW (Lib.laidMet.reads h0 (by simp [Rows.rulesPrintsRow])), ofTS (Lib.laidMet.reads h0 (by simp [Rows.rulesPrintsRow]))⟩, shp_of (Lib.laidMet.reads h0 (by simp [Rows.rulesPrintsRow]))⟩
theorem gTabType : (Tryz.prog.globals[3]?).map (·.type) = some 112 := by kernel_rfl
theorem tabD : (Rows.laid_internal_strconv_uint64pow10 : DataW Unit) = Lib.tabData .u64 Lib.pow10Tab := by kernel_rfl
theorem tableT {W : World} (h0 : laidMetH Tryz.prog Rows.rulesPrintsRow.laid W) : Mny.Tab W := by
  rw [MakeChecks.laidMetH_plain _ _ _ (by kernel_rfl)] at h0
  have h : laidMet Tryz.prog [("math/bits.deBruijn32tab", Rows.laid_math_bits_deBruijn32tab), ("math/bits.deBruijn64tab", Rows.laid_math_bits_deBruijn64tab), ("internal/strconv.uint64pow10", Lib.tabData .u64 Lib.pow10Tab), ("strconv.ErrRange", Rows.laid_strconv_ErrRange), ("strconv.ErrSyntax", Rows.laid_strconv_ErrSyntax), ("paycycle/rules.lineWords", Rows.laid_paycycle_rules_lineWords), ("paycycle/rules.testSigns", Rows.laid_paycycle_rules_testSigns), ("paycycle/rules.shapes", Rows.laid_paycycle_rules_shapes)] W := by
    rw [← tabD]; exact h0
  exact Lib.tabIs_of_head Mny.tab_global gTabType Tryz.underlying112 Tryz.underlying104 (by kernel_rfl) (by kernel_rfl) (laidMet.tail (laidMet.tail h))
/-- All of it. -/
theorem table {W : World} (h0 : laidMetH Tryz.prog Rows.rulesPrintsRow.laid W) : PVars W ∧ Shp W ∧ Mny.Tab W := ⟨(table0 h0).1, (table0 h0).2, tableT h0⟩

/-- The door's own heap meets the condition. -/
theorem door_met (os : Os) (args : Array Value) : laidMetH Tryz.prog Rows.rulesPrintsRow.laid ((World.doorLaid Tryz.prog 90 os).forCall (fun _ _ => 0) ⟨#[], args, []⟩).memory :=
  laidMetH_of_parts3 (fuel := 8) (laidMet_of_run' 8 (by kernel_rfl) (by kernel_rfl)) (by kernel_rfl) (by kernel_rfl)

set_option maxRecDepth 100000 in
theorem lifted (os : Os) (started : os.Started) (H : Type) (enc : TypeId × Value → H) :
    ReturnsInHanded {} Tryz.checked os 4 .any (fun w args => (Rows.rulesPrintsSpec.pre enc Tryz.prog Tryz.f4 [] false w args ∧ laidMetH Tryz.prog Rows.rulesPrintsRow.laid w) ∧ sizedMet enc Tryz.prog Tryz.f4 (OpenSpec.ofChange Rows.rulesPrintsSpec) false w args)
      (Rows.rulesPrintsSpec.post enc Tryz.prog Tryz.f4 false true false false) := by
  refine returnsInHanded_of_change_and (C := Tryz.checked) (X := fun w _ => laidMetH Tryz.prog Rows.rulesPrintsRow.laid w) (fun _ _ _ hh h => h.of_heap hh) own started (by kernel_rfl) Tryz.func4
    (ChangeSpec.witness_shaped (enc := enc) (C := Tryz.checked) (os := os) (X := fun w _ => laidMetH Tryz.prog Rows.rulesPrintsRow.laid w) false (World.doorLaid Tryz.prog 90 os) #[.slice none 0 0] 8 rfl (World.shaped_of_RefB (by kernel_rfl) (by kernel_rfl)) (by kernel_rfl) (by kernel_rfl) (by kernel_rfl) (door_met os _)) ?_
  intro W base args ds gs before hval0 hW _ _ hL _
  have hval : ∀ (j : Nat) t v, Tryz.f4.params[j]? = some t → args[j]? = some v → Value.okWide Tryz.prog W .any base t v := hval0
  have hW' := hW
  obtain ⟨p, q, hA0, hV, rfl, hfz, hnd⟩ := hW
  have hA : DataW.TrodAll enc Tryz.prog W 0 (fun _ => true) true Tryz.f4.params.toList args.toList ds p := hA0
  rw [Tryz.params4] at hA hval
  obtain ⟨v0, vs0, d0, ds0, p0, q0, hargs, rfl, rfl, h0, r0⟩ := trodAll_cons hA
  obtain ⟨rfl, rfl, rfl⟩ := trodAll_nil r0
  obtain rfl : args = #[v0] := by cases args; simp_all
  obtain ⟨rfl, rfl⟩ := trodVars_none hV
  obtain ⟨x0, len0, cap0, rfl⟩ := okWide_slice Tryz.underlying22 (hval 0 22 v0 rfl rfl)
  have k0 := h0
  have lt0 : ∀ x ∈ p0, x.block < W.heap.size := by obtain ⟨m, hm⟩ := k0; exact DataW.trod_lt m _ _ _ hm
  obtain ⟨z0, c0, n0, ml0, lc0, mc0⟩ : ∃ l : List Ln, CameL W x0 l ∧ l.length = len0 ∧ len0 ≤ maxLen ∧ len0 ≤ cap0 ∧ cap0 ≤ maxLen := by
    obtain ⟨fuel, hf⟩ := k0
    have hf' : DataW.trod _ Tryz.prog W 0 (fun _ => true) true fuel 22 [.slice x0 len0 cap0] = _ := hf
    obtain ⟨a, len, cap, l, he, c, n, ml⟩ := open_lines hf'
    injection he with ha hl hc
    subst ha hl hc
    refine ⟨l, c, n, ml, ?_⟩
    rcases Deep.open_slice Tryz.underlying22 hf' with ⟨hcs, _⟩ | ⟨a', len', cap', m, n', D, Pl, hcs, _, hl, hm, _, _, _⟩
    · simp at hcs
      obtain ⟨_, h1, h2⟩ := hcs
      exact ⟨by omega, by omega⟩
    · simp at hcs
      obtain ⟨_, h1, h2⟩ := hcs
      exact ⟨by omega, by omega⟩
  clear hA0 hval0
  refine (walk_rulesPrints x0 len0 cap0 z0 (w := W) c0 n0 ml0 (table hL)).mono fun e W' ⟨he, bel⟩ => ?_
  subst he
  exact ⟨_, rfl, _, _, _, [], _, [], hW', trodAll_mk1 (shut_bool Tryz.underlying4 _), (trodAll_cons_mk (Below.trod laidOut (by kernel_rfl) (of_decide_eq_true (by kernel_rfl)) k0 bel lt0) trodAll_mk0), rfl, bel.frame _, fun h => by cases h⟩

theorem said : Rows.RulesPrintsSaid :=
  OpenClaim.holds_of_wide 4 Tryz.f4 rfl rfl rfl rfl rfl rfl rfl ⟨rfl, rfl, rfl, rfl, rfl⟩ rfl rfl rfl rfl rfl (by kernel_rfl) Tryz.func4 (by kernel_rfl)
    (of_decide_eq_true (by kernel_rfl)) (by unfold Func.isWrapper; first | (rw [if_pos (by decide +kernel)]; kernel_rfl) | (rw [if_neg (by decide +kernel)]; exact ⟨rfl, rfl⟩))
    (fun os started H enc _ => lifted os started H enc)

/-- No parameter wants a stand-in; the program's own looks are off. -/
theorem plain (f : FuncId) (fn : Func) (hf : Tryz.pinned.checked.prog.funcNamed "paycycle/paycyclelaw.RulesPrints" = some f) (hfn : Tryz.pinned.checked.prog.funcs[f]? = some fn) :
    true = Tryz.pinned.checked.prog.looks [] ∧ ∀ (j : Nat) t, fn.params[j]? = some t → Tryz.pinned.checked.prog.wantsStandIn t = false := by
  obtain rfl : f = 4 := Option.some.inj ((show Tryz.prog.funcNamed "paycycle/paycyclelaw.RulesPrints" = some 4 by kernel_rfl).symm.trans hf) |>.symm
  obtain rfl : fn = Tryz.f4 := (Option.some.inj (Tryz.func4.symm.trans hfn)).symm
  refine ⟨by kernel_rfl, fun j t ht => ?_⟩
  rw [Tryz.params4] at ht
  have hm : t ∈ [22] := by simpa using Array.mem_of_getElem? ht
  have hall : ([22].all fun u => !Tryz.prog.wantsStandIn u) = true := by kernel_rfl
  exact (show Tryz.prog.wantsStandIn t = false by simpa using List.all_eq_true.1 hall t hm)
end Go.Proofs.YtchiifnciijagaaGreatDoor.rulesPrintsDone

namespace Go.Proofs.YtchiifnciijagaaGreatDoor
open rulesPrintsDone
/-- THE CARD. -/
theorem rulesPrints_card : Rows.RulesPrintsCardSaid :=
  Claim7.holds_tied_plain_at .later [] _ _ _ _ rulesPrintsDone.said (fun _ h => by cases h) (by kernel_rfl) (fun _ h => by cases h) rulesPrints_row_tie rfl ⟨rfl, rfl⟩ (by kernel_rfl) rfl rulesPrintsDone.plain (by kernel_rfl)
#print axioms rulesPrints_card
end Go.Proofs.YtchiifnciijagaaGreatDoor
