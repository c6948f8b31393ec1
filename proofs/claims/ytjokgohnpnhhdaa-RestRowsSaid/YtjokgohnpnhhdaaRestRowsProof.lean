/-
  RestRows: for every input the law answers true, and each argument reads behind the call as it read before. Here: the frame from the walk to the statement.
-/
import Derived.Test.YtjokgohnpnhhdaaRows
import Derived.Test.YtjokgohnpnhhdaaLRestRows
import Derived.ProofKit
import Derived.OpenShut
import Derived.Lib.SmallJoins
import Derived.SizedLaws
import Derived.Deep.Slices

namespace Go.Proofs.Ytjokgohnpnhhdaa.restRowsDone
open Go.ChangeShapes Go.WideShapes Go.ChangeAt Go.RowKit
set_option linter.unusedVariables false

theorem own : ownKnob Try.prog.godebug = none := by kernel_rfl
theorem laidOut : laidOutB Try.prog = true := by kernel_rfl

/-- What the walk gives. -/
theorem contract (H : Type) (enc : TypeId × Value → H) (W : World) (base : Nat) (args : Array Value) (ds gs : List (DataW H)) (before : List MemPlace)
    (hval : ∀ (j : Nat) t v, Try.f6.params[j]? = some t → args[j]? = some v → Value.okWide Try.prog W .any base t v)
    (hW : DataW.Whole enc Try.prog Try.f6.params.toList Rows.restRowsSpec.vars false W args.toList ds gs before) (hsz0 : (DataW.weightsEach Try.prog (Try.f6.params.toList ++ Rows.restRowsSpec.plain.varTypes Try.prog) (ds ++ gs)).all (· ≤ reachBytes) = true) :
    Calls Try.prog 6 args W fun e W' => ∃ v, e = .returned v ∧ Rows.restRowsSpec.post enc Try.prog Try.f6 false true false false W args v W' := by
  have hW' := hW
  obtain ⟨p, q, hA0, hV, rfl, hfz, hnd⟩ := hW
  have hA : DataW.TrodAll enc Try.prog W 0 (fun _ => true) true Try.f6.params.toList args.toList ds p := hA0
  rw [Try.params6] at hA hval
  obtain ⟨v0, vs0, d0, ds0, p0, q0, hargs, rfl, rfl, h0, r0⟩ := trodAll_cons hA
  obtain ⟨v1, vs1, d1, ds1, p1, q1, rfl, rfl, rfl, h1, r1⟩ := trodAll_cons r0
  obtain ⟨rfl, rfl, rfl⟩ := trodAll_nil r1
  obtain rfl : args = #[v0, v1] := by cases args; simp_all
  obtain ⟨rfl, rfl⟩ := trodVars_none hV
  have hsz := hsz0
  obtain ⟨x0, len0, cap0, rfl⟩ := okWide_slice Try.underlying22 (hval 0 22 v0 rfl rfl)
  have k0 := h0
  have lt0 : ∀ x ∈ p0, x.block < W.heap.size := by obtain ⟨m, hm⟩ := k0; exact DataW.trod_lt m _ _ _ hm
  obtain ⟨z0, c0, n0, ml0, wf0⟩ : ∃ l : List Rw, CameR W x0 l ∧ l.length = len0 ∧ len0 ≤ maxLen ∧ ∀ r ∈ l, RowWf r := by
    obtain ⟨fuel, hf⟩ := h0
    exact open_rows (by simpa [Value.cells] using hf)
  have sz0 : len0 * 32 ≤ 140737488351232 := by
    obtain ⟨fuel, hf⟩ := k0
    rcases Deep.open_slice Try.underlying22 hf with ⟨hcs, _⟩ | ⟨a', len', cap', m, n, D, Pl, hcs, _, _, _, _, hx, _⟩
    · simp [Value.cells] at hcs
      omega
    · simp [Value.cells] at hcs
      obtain ⟨_, rfl, _⟩ := hcs
      have hd : d0 = _ := congrArg Prod.fst hx
      have h := sized_slice hsz (j := 0) (t := 22) (e := 24) rfl (by rw [hd]; rfl) Try.underlying22
      rw [show Try.prog.bytesOf 24 = 32 by kernel_rfl] at h
      simp at h
      unfold reachBytes at h
      omega
  obtain ⟨e01, e11, e21, e31, y01, y11, y21, y31, m1, rfl, rfl, rfl, hy01, hy11, hy21, hy31⟩ := Joins.open_agg4 Try.underlying24 (by kernel_rfl) (by kernel_rfl) (hval 1 24 v1 rfl rfl) h1
  obtain ⟨ya1, q01, rfl, wfa1⟩ := DataW.trod_int Try.underlying3 hy01
  obtain ⟨yb1, q11, rfl, wfb1⟩ := DataW.trod_int Try.underlying3 hy11
  obtain ⟨yc1, q21, rfl, wfc1⟩ := DataW.trod_int Try.underlying3 hy21
  obtain ⟨yd1, q31, rfl⟩ := DataW.trod_bool Try.underlying4 hy31
  simp at q01 q11 q21 q31
  subst q01 q11 q21 q31
  clear hA0
  refine (walk_restRows x0 len0 cap0 z0 c0 n0 ml0 wf0 sz0 ya1 yb1 yc1 yd1 wfa1 wfb1 wfc1 (w := W)).mono fun e W' ⟨he, bel⟩ => ?_
  subst he
  exact ⟨_, rfl, _, _, _, [], _, [], hW', trodAll_mk1 (shut_bool Try.underlying4 _), (trodAll_cons_mk (Below.trod laidOut (by kernel_rfl) (of_decide_eq_true (by kernel_rfl)) k0 bel lt0) (trodAll_cons_mk (Joins.shut_agg4 (y0 := (.lit (.int .i64 ya1), [])) (y1 := (.lit (.int .i64 yb1), [])) (y2 := (.lit (.int .i64 yc1), [])) (y3 := (.lit (.bool yd1), [])) Try.underlying24 (by kernel_rfl) (by kernel_rfl) ⟨1, trod_int_mk 0 Try.underlying3 wfa1⟩ ⟨1, trod_int_mk 0 Try.underlying3 wfb1⟩ ⟨1, trod_int_mk 0 Try.underlying3 wfc1⟩ ⟨1, by simp [DataW.trod, Try.underlying4]⟩) trodAll_mk0)), rfl, bel.frame _, fun h => by cases h⟩

set_option maxRecDepth 100000 in
theorem lifted (os : Os) (started : os.Started) (H : Type) (enc : TypeId × Value → H) :
    ReturnsInHanded {} Try.checked os 6 .any (Rows.restRowsSpec.pre6 enc Try.prog Try.f6 Rows.restRowsRow.domain false) (Rows.restRowsSpec.post enc Try.prog Try.f6 false true false false) := by
  refine returnsInHanded_of_change_sized (C := Try.checked) own started (by kernel_rfl) Try.func6
    (ChangeSpec.witness6 (enc := enc) (C := Try.checked) false ⟨#[], #[.slice none 0 0, .agg #[.int .i64 0, .int .i64 0, .int .i64 0, .bool false]], []⟩ 8 (by kernel_rfl) (by kernel_rfl) (by kernel_rfl) (by kernel_rfl)) ?_
  intro W base args ds gs before hval hW _ hs _
  exact contract H enc W base args ds gs before hval hW hs
end Go.Proofs.Ytjokgohnpnhhdaa.restRowsDone

namespace Go.Proofs.Ytjokgohnpnhhdaa
/-- THE STATEMENT. -/
theorem restRows_said : Rows.RestRowsSaid :=
  OpenClaim.holds_of_wide 6 Try.f6 rfl rfl rfl rfl rfl rfl rfl ⟨rfl, rfl, rfl, rfl, rfl⟩ rfl rfl rfl rfl rfl (by kernel_rfl) Try.func6 (by kernel_rfl)
    (of_decide_eq_true (by kernel_rfl)) (by unfold Func.isWrapper; first | (rw [if_pos (by decide +kernel)]; kernel_rfl) | (rw [if_neg (by decide +kernel)]; exact ⟨rfl, rfl⟩))
    (fun os started H enc _ => restRowsDone.lifted os started H enc)
#print axioms restRows_said
end Go.Proofs.Ytjokgohnpnhhdaa
