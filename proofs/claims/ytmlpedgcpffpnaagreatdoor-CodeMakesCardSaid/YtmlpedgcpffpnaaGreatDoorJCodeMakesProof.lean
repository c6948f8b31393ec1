/-
  CodeMakes: for every input the law answers true, and each argument reads behind the call as it read before; the library's tables lie as the program's text lays them (the card ties that to the text). Here: the frame from the walk to the card.
-/
import Derived.Test.YtmlpedgcpffpnaaGreatDoorCards
import Derived.Test.YtmlpedgcpffpnaaGreatDoorTie
import Derived.Test.YtmlpedgcpffpnaaGreatDoorK2
import Derived.Test.YtmlpedgcpffpnaaGreatDoorK1
import Derived.ProofKit
import Derived.OpenShut
import Derived.ShutString
import Derived.LaidMore
import Derived.SizedLaws
import Derived.Stop.Joined
import Derived.Stop.LaidErr
import Derived.Lib.LaidTab
import Derived.LaidLaws
import Derived.Lib.SmallJoins
import Derived.Deep.Slices
namespace Go.Proofs.YtmlpedgcpffpnaaGreatDoor.codeMakesDone
open Go.ChangeShapes Go.WideShapes Go.ChangeAt Go.RowKit
open Go.ChangeMaps (open_string shut_string)
set_option linter.unusedVariables false

theorem own : ownKnob Tryz.prog.godebug = none := by kernel_rfl
theorem laidOut : laidOutB Tryz.prog = true := by kernel_rfl

/-- What the row's list gives the walk. -/
theorem table {W : World} (h0 : laidMetH Tryz.prog Rows.codeMakesRow.laid W) : Shp W ∧ Doo W ∧ Eff W := by
  rw [MakeChecks.laidMetH_plain _ _ _ (by kernel_rfl)] at h0
  exact ⟨shp_of (Lib.laidMet.reads h0 (by simp [Rows.codeMakesRow])), doo_of (Lib.laidMet.reads h0 (by simp [Rows.codeMakesRow])), eff_of (Lib.laidMet.reads h0 (by simp [Rows.codeMakesRow]))⟩

/-- The door's own heap meets the condition. -/
theorem door_met (os : Os) (args : Array Value) : laidMetH Tryz.prog Rows.codeMakesRow.laid ((World.doorLaid Tryz.prog 116 os).forCall (fun _ _ => 0) ⟨#[], args, []⟩).memory :=
  laidMetH_of_parts3 (fuel := 8) (laidMet_of_run' 8 (by kernel_rfl) (by kernel_rfl)) (by kernel_rfl) (by kernel_rfl)

set_option maxRecDepth 100000 in
theorem lifted (os : Os) (started : os.Started) (H : Type) (enc : TypeId × Value → H) :
    ReturnsInHanded {} Tryz.checked os 3 .any (fun w args => (Rows.codeMakesSpec.pre enc Tryz.prog Tryz.f3 [] false w args ∧ laidMetH Tryz.prog Rows.codeMakesRow.laid w) ∧ sizedMet enc Tryz.prog Tryz.f3 (OpenSpec.ofChange Rows.codeMakesSpec) false w args)
      (Rows.codeMakesSpec.post enc Tryz.prog Tryz.f3 false true false false) := by
  refine returnsInHanded_of_change_and (C := Tryz.checked) (X := fun w _ => laidMetH Tryz.prog Rows.codeMakesRow.laid w) (fun _ _ _ hh h => h.of_heap hh) own started (by kernel_rfl) Tryz.func3
    (ChangeSpec.witness_shaped (enc := enc) (C := Tryz.checked) (os := os) (X := fun w _ => laidMetH Tryz.prog Rows.codeMakesRow.laid w) false (World.doorLaid Tryz.prog 116 os) #[.slice none 0 0, .agg #[.slice none 0 0, .slice none 0 0, .slice none 0 0]] 8 rfl (World.shaped_of_RefB (by kernel_rfl) (by kernel_rfl)) (by kernel_rfl) (by kernel_rfl) (by kernel_rfl) (door_met os _)) ?_
  intro W base args ds gs before hval0 hW _ _ hL _
  have hval : ∀ (j : Nat) t v, Tryz.f3.params[j]? = some t → args[j]? = some v → Value.okWide Tryz.prog W .any base t v := hval0
  have hW' := hW
  obtain ⟨p, q, hA0, hV, rfl, hfz, hnd⟩ := hW
  have hA : DataW.TrodAll enc Tryz.prog W 0 (fun _ => true) true Tryz.f3.params.toList args.toList ds p := hA0
  rw [Tryz.params3] at hA hval
  obtain ⟨v0, vs0, d0, ds0, p0, q0, hargs, rfl, rfl, h0, r0⟩ := trodAll_cons hA
  obtain ⟨v1, vs1, d1, ds1, p1, q1, rfl, rfl, rfl, h1, r1⟩ := trodAll_cons r0
  obtain ⟨rfl, rfl, rfl⟩ := trodAll_nil r1
  obtain rfl : args = #[v0, v1] := by cases args; simp_all
  obtain ⟨rfl, rfl⟩ := trodVars_none hV
  obtain ⟨x0, len0, cap0, rfl⟩ := okWide_slice Tryz.underlying22 (hval 0 22 v0 rfl rfl)
  have k0 := h0
  have lt0 : ∀ x ∈ p0, x.block < W.heap.size := by obtain ⟨m, hm⟩ := k0; exact DataW.trod_lt m _ _ _ hm
  obtain ⟨z0, c0, n0, ml0, lc0, mc0⟩ : ∃ l : List Ln, CameL W x0 l ∧ l.length = len0 ∧ len0 ≤ maxLen ∧ len0 ≤ cap0 ∧ cap0 ≤ maxLen := by
    obtain ⟨fuel, hf⟩ := k0
    have hf' : DataW.trod _ Tryz.prog W 0 (fun _ => true) true fuel 22 [.slice x0 len0 cap0] = _ := hf
    obtain ⟨a, len, cap, l, he, c, n, ml⟩ := open_lines hf'
    injection he with ha hl hc
    subst ha hl hc
    refine ⟨l, c, n, ml, ?_⟩
    rcases Deep.open_slice Tryz.underlying22 hf' with ⟨hcs, _⟩ | ⟨a', len', cap', m, n', D, Pl, hcs, _, hl, hm, _, _, _⟩
    · simp at hcs
      obtain ⟨_, h1, h2⟩ := hcs
      exact ⟨by omega, by omega⟩
    · simp at hcs
      obtain ⟨_, h1, h2⟩ := hcs
      exact ⟨by omega, by omega⟩
  have k1 := h1
  have lt1 : ∀ x ∈ p1, x.block < W.heap.size := by obtain ⟨m, hm⟩ := k1; exact DataW.trod_lt m _ _ _ hm
  obtain ⟨x11, n11, c11, x21, n21, c21, x31, n31, c31, kn1, rfl, ck1, e11, e21, e31⟩ : ∃ (a1 : Option Addr) (n1 c1 : Nat) (a2 : Option Addr) (n2 c2 : Nat) (a3 : Option Addr) (n3 c3 : Nat) (kn : Kn), v1 = .agg #[.slice a1 n1 c1, .slice a2 n2 c2, .slice a3 n3 c3] ∧ CameK W a1 a2 a3 kn ∧ kn.ins.length = n1 ∧ kn.tbs.length = n2 ∧ kn.yrs.length = n3 := by
    obtain ⟨e0, e1, e2, y0, y1, y2, m, rfl, _, _, hy0, hy1, hy2⟩ := Joins.open_agg3 Tryz.underlying26 (by kernel_rfl) (by kernel_rfl) (hval 1 26 v1 rfl rfl) h1
    obtain ⟨a1, n1, c1, l1, rfl, ca1, nf1, ln1, ml1⟩ := open_ams hy0
    obtain ⟨a2, n2, c2, l2, rfl, ca2, ln2, ml2⟩ := open_tbs hy1
    obtain ⟨a3, n3, c3, l3, rfl, ca3, nf3, ln3, ml3⟩ := open_ams hy2
    exact ⟨a1, n1, c1, a2, n2, c2, a3, n3, c3, ⟨l1, l2, l3⟩, rfl, ⟨ca1, ca2, ca3, nf1, nf3, by simp only; omega, by simp only; omega, by simp only; omega⟩, ln1, ln2, ln3⟩
  clear hA0 hval0
  refine (walk_codeMakes x0 len0 cap0 z0 x11 n11 c11 x21 n21 c21 x31 n31 c31 kn1 (w := W) c0 n0 ml0 ck1 e11 e21 e31 (table hL)).mono fun e W' ⟨he, bel⟩ => ?_
  subst he
  exact ⟨_, rfl, _, _, _, [], _, [], hW', trodAll_mk1 (shut_bool Tryz.underlying4 _), (trodAll_cons_mk (Below.trod laidOut (by kernel_rfl) (of_decide_eq_true (by kernel_rfl)) k0 bel lt0) (trodAll_cons_mk (Below.trod laidOut (by kernel_rfl) (of_decide_eq_true (by kernel_rfl)) k1 bel lt1) trodAll_mk0)), rfl, bel.frame _, fun h => by cases h⟩

theorem said : Rows.CodeMakesSaid :=
  OpenClaim.holds_of_wide 3 Tryz.f3 rfl rfl rfl rfl rfl rfl rfl ⟨rfl, rfl, rfl, rfl, rfl⟩ rfl rfl rfl rfl rfl (by kernel_rfl) Tryz.func3 (by kernel_rfl)
    (of_decide_eq_true (by kernel_rfl)) (by unfold Func.isWrapper; first | (rw [if_pos (by decide +kernel)]; kernel_rfl) | (rw [if_neg (by decide +kernel)]; exact ⟨rfl, rfl⟩))
    (fun os started H enc _ => lifted os started H enc)

/-- No parameter wants a stand-in; the program's own looks are off. -/
theorem plain (f : FuncId) (fn : Func) (hf : Tryz.pinned.checked.prog.funcNamed "paycycle/paycyclelaw.CodeMakes" = some f) (hfn : Tryz.pinned.checked.prog.funcs[f]? = some fn) :
    true = Tryz.pinned.checked.prog.looks [] ∧ ∀ (j : Nat) t, fn.params[j]? = some t → Tryz.pinned.checked.prog.wantsStandIn t = false := by
  obtain rfl : f = 3 := Option.some.inj ((show Tryz.prog.funcNamed "paycycle/paycyclelaw.CodeMakes" = some 3 by kernel_rfl).symm.trans hf) |>.symm
  obtain rfl : fn = Tryz.f3 := (Option.some.inj (Tryz.func3.symm.trans hfn)).symm
  refine ⟨by kernel_rfl, fun j t ht => ?_⟩
  rw [Tryz.params3] at ht
  have hm : t ∈ [22, 26] := by simpa using Array.mem_of_getElem? ht
  have hall : ([22, 26].all fun u => !Tryz.prog.wantsStandIn u) = true := by kernel_rfl
  exact (show Tryz.prog.wantsStandIn t = false by simpa using List.all_eq_true.1 hall t hm)
end Go.Proofs.YtmlpedgcpffpnaaGreatDoor.codeMakesDone

namespace Go.Proofs.YtmlpedgcpffpnaaGreatDoor
open codeMakesDone
/-- THE CARD. -/
theorem codeMakes_card : Rows.CodeMakesCardSaid :=
  Claim7.holds_tied_plain_at .later [] _ _ _ _ codeMakesDone.said (fun _ h => by cases h) (by kernel_rfl) (fun _ h => by cases h) codeMakes_row_tie rfl ⟨rfl, rfl⟩ (by kernel_rfl) rfl codeMakesDone.plain (by kernel_rfl)
#print axioms codeMakes_card
end Go.Proofs.YtmlpedgcpffpnaaGreatDoor
