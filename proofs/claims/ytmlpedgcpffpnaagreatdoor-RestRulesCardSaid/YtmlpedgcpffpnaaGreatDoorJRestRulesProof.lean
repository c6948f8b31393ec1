/-
  RestRules: for every input the law answers true, and each argument reads behind the call as it read before; the library's tables lie as the program's text lays them (the card ties that to the text). Here: the frame from the walk to the card.
-/
import Derived.Test.YtmlpedgcpffpnaaGreatDoorCards
import Derived.Test.YtmlpedgcpffpnaaGreatDoorTie
import Derived.Test.YtmlpedgcpffpnaaGreatDoorKRA
import Derived.Test.YtmlpedgcpffpnaaGreatDoorKQV
import Derived.Test.YtmlpedgcpffpnaaGreatDoorKQU
import Derived.ProofKit
import Derived.OpenShut
import Derived.ShutString
import Derived.LaidMore
import Derived.SizedLaws
import Derived.Stop.Joined
import Derived.Stop.LaidErr
import Derived.Lib.LaidTab
import Derived.LaidLaws
import Derived.Lib.SmallJoins
import Derived.Deep.Slices
namespace Go.Proofs.YtmlpedgcpffpnaaGreatDoor.restRulesDone
open Go.ChangeShapes Go.WideShapes Go.ChangeAt Go.RowKit
open Go.ChangeMaps (open_string shut_string)
set_option linter.unusedVariables false

theorem own : ownKnob Tryz.prog.godebug = none := by kernel_rfl
theorem laidOut : laidOutB Tryz.prog = true := by kernel_rfl
theorem gE : Tryz.prog.globalNamed "strconv.ErrRange" = some 7 := by kernel_rfl
theorem gEType : (Tryz.prog.globals[7]?).map (·.type) = some 153 := by kernel_rfl
theorem star : "*" ++ "errors.errorString" = "*errors.errorString" := by decide
theorem rowE (u : TypeId) (h : Tryz.prog.typeName? 3 u = some "*errors.errorString") : u = 255 :=
  typeName_ptr_named (nm := "errors.errorString") (by rw [star]; kernel_rfl) (by kernel_rfl) (by decide) u (by rw [star]; exact h)
theorem cellsE : Tryz.prog.cellsOf 257 = 1 := by kernel_rfl
theorem cellsS : Tryz.prog.cellsOf 9 = 1 := by kernel_rfl

/-- What the row's list gives the walk. -/
theorem table0 {W : World} (h0 : laidMetH Tryz.prog Rows.restRulesRow.laid W) : PVars W ∧ Shp W := by
  rw [MakeChecks.laidMetH_plain _ _ _ (by kernel_rfl)] at h0
  have h : laidMet Tryz.prog [("math/bits.deBruijn32tab", Rows.laid_math_bits_deBruijn32tab), ("math/bits.deBruijn64tab", Rows.laid_math_bits_deBruijn64tab), ("internal/strconv.uint64pow10", Rows.laid_internal_strconv_uint64pow10), ("strconv.ErrRange", Rows.laid_strconv_ErrRange), ("strconv.ErrSyntax", Rows.laid_strconv_ErrSyntax), ("paycycle/rules.lineWords", Rows.laid_paycycle_rules_lineWords), ("paycycle/rules.testSigns", Rows.laid_paycycle_rules_testSigns), ("paycycle/rules.shapes", Rows.laid_paycycle_rules_shapes), ("paycycle/code.effects", Rows.laid_paycycle_code_effects), ("paycycle/code.doOf", Rows.laid_paycycle_code_doOf)] W := h0
  obtain ⟨a1, s1, hv1, _⟩ := laid_sentinel (laidMet.tail (laidMet.tail (laidMet.tail h))) gE gEType Tryz.underlying153 rowE Tryz.underlying255 Tryz.underlying257 rfl rfl Tryz.underlying9 cellsE cellsS
  exact ⟨⟨⟨_, by simpa using World.var?_cell gE hv1 0, .inr ⟨_, _, rfl⟩⟩, ofLW (Lib.laidMet.reads h0 (by simp [Rows.restRulesRow])), ofTS (Lib.laidMet.reads h0 (by simp [Rows.restRulesRow]))⟩, shp_of (Lib.laidMet.reads h0 (by simp [Rows.restRulesRow]))⟩
theorem gTabType : (Tryz.prog.globals[5]?).map (·.type) = some 233 := by kernel_rfl
theorem tabD : (Rows.laid_internal_strconv_uint64pow10 : DataW Unit) = Lib.tabData .u64 Lib.pow10Tab := by kernel_rfl
theorem tableT {W : World} (h0 : laidMetH Tryz.prog Rows.restRulesRow.laid W) : Mny.Tab W := by
  rw [MakeChecks.laidMetH_plain _ _ _ (by kernel_rfl)] at h0
  have h : laidMet Tryz.prog [("math/bits.deBruijn32tab", Rows.laid_math_bits_deBruijn32tab), ("math/bits.deBruijn64tab", Rows.laid_math_bits_deBruijn64tab), ("internal/strconv.uint64pow10", Lib.tabData .u64 Lib.pow10Tab), ("strconv.ErrRange", Rows.laid_strconv_ErrRange), ("strconv.ErrSyntax", Rows.laid_strconv_ErrSyntax), ("paycycle/rules.lineWords", Rows.laid_paycycle_rules_lineWords), ("paycycle/rules.testSigns", Rows.laid_paycycle_rules_testSigns), ("paycycle/rules.shapes", Rows.laid_paycycle_rules_shapes), ("paycycle/code.effects", Rows.laid_paycycle_code_effects), ("paycycle/code.doOf", Rows.laid_paycycle_code_doOf)] W := by
    rw [← tabD]; exact h0
  exact Lib.tabIs_of_head Mny.tab_global gTabType Tryz.underlying233 Tryz.underlying105 (by kernel_rfl) (by kernel_rfl) (laidMet.tail (laidMet.tail h))
/-- All of it. -/
theorem table1 {W : World} (h0 : laidMetH Tryz.prog Rows.restRulesRow.laid W) : PVars W ∧ Shp W ∧ Mny.Tab W := ⟨(table0 h0).1, (table0 h0).2, tableT h0⟩
theorem table {W : World} (h0 : laidMetH Tryz.prog Rows.restRulesRow.laid W) : RVars W ∧ Doo W ∧ Eff W := by
  have h1 := h0
  rw [MakeChecks.laidMetH_plain _ _ _ (by kernel_rfl)] at h1
  exact ⟨⟨(table1 h0).1, (table1 h0).2.1, (table1 h0).2.2⟩, doo_of (Lib.laidMet.reads h1 (by simp [Rows.restRulesRow])), eff_of (Lib.laidMet.reads h1 (by simp [Rows.restRulesRow]))⟩

/-- The door's own heap meets the condition. -/
theorem door_met (os : Os) (args : Array Value) : laidMetH Tryz.prog Rows.restRulesRow.laid ((World.doorLaid Tryz.prog 116 os).forCall (fun _ _ => 0) ⟨#[], args, []⟩).memory :=
  laidMetH_of_parts3 (fuel := 8) (laidMet_of_run' 8 (by kernel_rfl) (by kernel_rfl)) (by kernel_rfl) (by kernel_rfl)

set_option maxRecDepth 100000 in
theorem lifted (os : Os) (started : os.Started) (H : Type) (enc : TypeId × Value → H) :
    ReturnsInHanded {} Tryz.checked os 5 .any (fun w args => (Rows.restRulesSpec.pre enc Tryz.prog Tryz.f5 [] false w args ∧ laidMetH Tryz.prog Rows.restRulesRow.laid w) ∧ sizedMet enc Tryz.prog Tryz.f5 (OpenSpec.ofChange Rows.restRulesSpec) false w args)
      (Rows.restRulesSpec.post enc Tryz.prog Tryz.f5 false true false false) := by
  refine returnsInHanded_of_change_and (C := Tryz.checked) (X := fun w _ => laidMetH Tryz.prog Rows.restRulesRow.laid w) (fun _ _ _ hh h => h.of_heap hh) own started (by kernel_rfl) Tryz.func5
    (ChangeSpec.witness_shaped (enc := enc) (C := Tryz.checked) (os := os) (X := fun w _ => laidMetH Tryz.prog Rows.restRulesRow.laid w) false (World.doorLaid Tryz.prog 116 os) #[.string ⟨#[]⟩, .agg #[.slice none 0 0, .slice none 0 0, .slice none 0 0]] 8 rfl (World.shaped_of_RefB (by kernel_rfl) (by kernel_rfl)) (by kernel_rfl) (by kernel_rfl) (by kernel_rfl) (door_met os _)) ?_
  intro W base args ds gs before hval0 hW _ hsz0 hL _
  have hsz : (DataW.weightsEach Tryz.prog (Tryz.f5.params.toList ++ Rows.restRulesSpec.plain.varTypes Tryz.prog) (ds ++ gs)).all (· ≤ reachBytes) = true := hsz0
  clear hsz0
  have hval : ∀ (j : Nat) t v, Tryz.f5.params[j]? = some t → args[j]? = some v → Value.okWide Tryz.prog W .any base t v := hval0
  have hW' := hW
  obtain ⟨p, q, hA0, hV, rfl, hfz, hnd⟩ := hW
  have hA : DataW.TrodAll enc Tryz.prog W 0 (fun _ => true) true Tryz.f5.params.toList args.toList ds p := hA0
  rw [Tryz.params5] at hA hval hsz
  obtain ⟨v0, vs0, d0, ds0, p0, q0, hargs, rfl, rfl, h0, r0⟩ := trodAll_cons hA
  obtain ⟨v1, vs1, d1, ds1, p1, q1, rfl, rfl, rfl, h1, r1⟩ := trodAll_cons r0
  obtain ⟨rfl, rfl, rfl⟩ := trodAll_nil r1
  obtain rfl : args = #[v0, v1] := by cases args; simp_all
  obtain ⟨rfl, rfl⟩ := trodVars_none hV
  obtain ⟨a0, rfl, rfl, rfl, wf0⟩ := open_string Tryz.underlying9 (hval 0 9 v0 rfl rfl) h0
  have k1 := h1
  have lt1 : ∀ x ∈ p1, x.block < W.heap.size := by obtain ⟨m, hm⟩ := k1; exact DataW.trod_lt m _ _ _ hm
  obtain ⟨x11, n11, c11, x21, n21, c21, x31, n31, c31, kn1, rfl, ck1, e11, e21, e31⟩ : ∃ (a1 : Option Addr) (n1 c1 : Nat) (a2 : Option Addr) (n2 c2 : Nat) (a3 : Option Addr) (n3 c3 : Nat) (kn : Kn), v1 = .agg #[.slice a1 n1 c1, .slice a2 n2 c2, .slice a3 n3 c3] ∧ CameK W a1 a2 a3 kn ∧ kn.ins.length = n1 ∧ kn.tbs.length = n2 ∧ kn.yrs.length = n3 := by
    obtain ⟨e0, e1, e2, y0, y1, y2, m, rfl, _, _, hy0, hy1, hy2⟩ := Joins.open_agg3 Tryz.underlying26 (by kernel_rfl) (by kernel_rfl) (hval 1 26 v1 rfl rfl) h1
    obtain ⟨a1, n1, c1, l1, rfl, ca1, nf1, ln1, ml1⟩ := open_ams hy0
    obtain ⟨a2, n2, c2, l2, rfl, ca2, ln2, ml2⟩ := open_tbs hy1
    obtain ⟨a3, n3, c3, l3, rfl, ca3, nf3, ln3, ml3⟩ := open_ams hy2
    exact ⟨a1, n1, c1, a2, n2, c2, a3, n3, c3, ⟨l1, l2, l3⟩, rfl, ⟨ca1, ca2, ca3, nf1, nf3, by simp only; omega, by simp only; omega, by simp only; omega⟩, ln1, ln2, ln3⟩
  have rc0 : a0.size ≤ 140737488351232 := by
    have h := sized_string hsz (j := 0) (t := 9) rfl rfl
    rw [Array.length_toList] at h
    exact h
  clear hA0 hval0
  refine (walk_restRules a0 rc0 x11 n11 c11 x21 n21 c21 x31 n31 c31 kn1 (w := W) ck1 e11 e21 e31 (table hL)).mono fun e W' ⟨he, bel⟩ => ?_
  subst he
  exact ⟨_, rfl, _, _, _, [], _, [], hW', trodAll_mk1 (shut_bool Tryz.underlying4 _), (trodAll_cons_mk (shut_string Tryz.underlying9 wf0) (trodAll_cons_mk (Below.trod laidOut (by kernel_rfl) (of_decide_eq_true (by kernel_rfl)) k1 bel lt1) trodAll_mk0)), rfl, bel.frame _, fun h => by cases h⟩

theorem said : Rows.RestRulesSaid :=
  OpenClaim.holds_of_wide 5 Tryz.f5 rfl rfl rfl rfl rfl rfl rfl ⟨rfl, rfl, rfl, rfl, rfl⟩ rfl rfl rfl rfl rfl (by kernel_rfl) Tryz.func5 (by kernel_rfl)
    (of_decide_eq_true (by kernel_rfl)) (by unfold Func.isWrapper; first | (rw [if_pos (by decide +kernel)]; kernel_rfl) | (rw [if_neg (by decide +kernel)]; exact ⟨rfl, rfl⟩))
    (fun os started H enc _ => lifted os started H enc)

/-- No parameter wants a stand-in; the program's own looks are off. -/
theorem plain (f : FuncId) (fn : Func) (hf : Tryz.pinned.checked.prog.funcNamed "paycycle/paycyclelaw.RestRules" = some f) (hfn : Tryz.pinned.checked.prog.funcs[f]? = some fn) :
    true = Tryz.pinned.checked.prog.looks [] ∧ ∀ (j : Nat) t, fn.params[j]? = some t → Tryz.pinned.checked.prog.wantsStandIn t = false := by
  obtain rfl : f = 5 := Option.some.inj ((show Tryz.prog.funcNamed "paycycle/paycyclelaw.RestRules" = some 5 by kernel_rfl).symm.trans hf) |>.symm
  obtain rfl : fn = Tryz.f5 := (Option.some.inj (Tryz.func5.symm.trans hfn)).symm
  refine ⟨by kernel_rfl, fun j t ht => ?_⟩
  rw [Tryz.params5] at ht
  have hm : t ∈ [9, 26] := by simpa using Array.mem_of_getElem? ht
  have hall : ([9, 26].all fun u => !Tryz.prog.wantsStandIn u) = true := by kernel_rfl
  exact (show Tryz.prog.wantsStandIn t = false by simpa using List.all_eq_true.1 hall t hm)
end Go.Proofs.YtmlpedgcpffpnaaGreatDoor.restRulesDone

namespace Go.Proofs.YtmlpedgcpffpnaaGreatDoor
open restRulesDone
/-- THE CARD. -/
theorem restRules_card : Rows.RestRulesCardSaid :=
  Claim7.holds_tied_plain_at .later [] _ _ _ _ restRulesDone.said (fun _ h => by cases h) (by kernel_rfl) (fun _ h => by cases h) restRules_row_tie rfl ⟨rfl, rfl⟩ (by kernel_rfl) rfl restRulesDone.plain (by kernel_rfl)
#print axioms restRules_card
end Go.Proofs.YtmlpedgcpffpnaaGreatDoor
