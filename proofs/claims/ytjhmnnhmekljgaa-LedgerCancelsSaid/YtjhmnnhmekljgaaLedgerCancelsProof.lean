/-
  LedgerCancels: for every input the law answers true, and each argument reads behind the call as it read before. Here: the frame from the walk to the statement.
-/
import Derived.Test.YtjhmnnhmekljgaaRows
import Derived.Test.YtjhmnnhmekljgaaLLedgerCancels
import Derived.Test.YtjhmnnhmekljgaaQSz
import Derived.ProofKit
import Derived.OpenShut
import Derived.Lib.SmallJoins

import Derived.SizedLaws
import Derived.Deep.Slices

namespace Go.Proofs.Ytjhmnnhmekljgaa.ledgerCancelsDone
open Go.ChangeShapes Go.WideShapes Go.ChangeAt Go.RowKit

set_option linter.unusedVariables false

theorem own : ownKnob Try.prog.godebug = none := by kernel_rfl
theorem laidOut : laidOutB Try.prog = true := by kernel_rfl

set_option maxRecDepth 100000 in
/-- What the walk gives. -/
theorem contract (H : Type) (enc : TypeId × Value → H) (W : World) (base : Nat) (args : Array Value) (ds gs : List (DataW H)) (before : List MemPlace)
    (hval : ∀ (j : Nat) t v, Try.f9.params[j]? = some t → args[j]? = some v → Value.okWide Try.prog W .any base t v)
    (hW : DataW.Whole enc Try.prog Try.f9.params.toList Rows.ledgerCancelsSpec.vars false W args.toList ds gs before) (hsz0 : (DataW.weightsEach Try.prog (Try.f9.params.toList ++ Rows.ledgerCancelsSpec.plain.varTypes Try.prog) (ds ++ gs)).all (· ≤ reachBytes) = true) :
    Calls Try.prog 9 args W fun e W' => ∃ v, e = .returned v ∧ Rows.ledgerCancelsSpec.post enc Try.prog Try.f9 false true false false W args v W' := by
  have hW' := hW
  obtain ⟨p, q, hA0, hV, rfl, hfz, hnd⟩ := hW
  have hA : DataW.TrodAll enc Try.prog W 0 (fun _ => true) true Try.f9.params.toList args.toList ds p := hA0
  rw [Try.params9] at hA hval
  obtain ⟨v0, vs0, d0, ds0, p0, q0, hargs, rfl, rfl, h0, r0⟩ := trodAll_cons hA
  obtain ⟨v1, vs1, d1, ds1, p1, q1, rfl, rfl, rfl, h1, r1⟩ := trodAll_cons r0
  obtain ⟨v2, vs2, d2, ds2, p2, q2, rfl, rfl, rfl, h2, r2⟩ := trodAll_cons r1
  obtain ⟨rfl, rfl, rfl⟩ := trodAll_nil r2
  obtain rfl : args = #[v0, v1, v2] := by cases args; simp_all
  obtain ⟨rfl, rfl⟩ := trodVars_none hV
  have hsz := hsz0
  have k0 := h0
  have lt0 : ∀ x ∈ p0, x.block < W.heap.size := by obtain ⟨m, hm⟩ := k0; exact DataW.trod_lt m _ _ _ hm
  obtain ⟨x0, len0, cap0, z0, rfl, c0, n0, ml0, wf0⟩ : ∃ (a : Option Addr) (len cap : Nat) (l : List En), v0 = .slice a len cap ∧ CameE W a l ∧ l.length = len ∧ len ≤ maxLen ∧ ∀ j, j < len → (Lit.int .i64 (enth l j).day).wf = true := by
    obtain ⟨x, len, cap, rfl⟩ := okWide_slice Try.underlying22 (hval 0 22 v0 rfl rfl)
    obtain ⟨fuel, hf⟩ := h0
    exact openEns (by simpa [Value.cells] using hf)
  have sz0 : len0 * 32 ≤ 140737488351232 := by
    obtain ⟨fuel, hf⟩ := k0
    rcases Deep.open_slice Try.underlying22 hf with ⟨hcs, _⟩ | ⟨a', len', cap', m, n, D, Pl, hcs, _, _, _, _, hx, _⟩
    · simp [Value.cells] at hcs
      omega
    · simp [Value.cells] at hcs
      obtain ⟨_, rfl, _⟩ := hcs
      have hd : d0 = _ := congrArg Prod.fst hx
      have h := sized_slice hsz (j := 0) (t := 22) (e := 29) rfl (by rw [hd]; rfl) Try.underlying22
      rw [show Try.prog.bytesOf 29 = 32 by kernel_rfl] at h
      simp at h
      unfold reachBytes at h
      omega
  have k1 := h1
  have lt1 : ∀ x ∈ p1, x.block < W.heap.size := by obtain ⟨m, hm⟩ := k1; exact DataW.trod_lt m _ _ _ hm
  obtain ⟨r1', ra1, rc1, rfl, rp1, rw1⟩ : ∃ (r : En) (a : Option Addr) (c : Nat), v1 = .agg #[.int .i64 r.day, .slice a r.ps.length c] ∧ PsAt W a r.ps ∧ (Lit.int .i64 r.day).wf = true := by
    obtain ⟨cs, rfl, hs⟩ := okWide_struct Try.underlying29 (hval 1 29 v1 rfl rfl)
    obtain ⟨fuel, hf⟩ := h1
    obtain ⟨d, a, c, l, e, hp, hw⟩ := openEn (by rw [Array.length_toList]; exact hs.trans cellsEn) (by simpa [Value.cells] using hf)
    obtain ⟨cl⟩ := cs
    dsimp only at e
    subst e
    exact ⟨⟨d, l⟩, a, c, rfl, hp, hw⟩
  have rs1 : r1'.ps.length * 24 ≤ 140737488351232 := by
    obtain ⟨fuel, hf⟩ := k1
    exact enSized (x := (d1, p1)) (by simpa [Value.cells] using hf) (fun k hk => by
      have := List.all_eq_true.1 hsz k (DataW.weights_mem_each (j := 1) rfl rfl k hk)
      simpa using this)
  obtain ⟨a2, rfl, rfl, rfl, wf2⟩ := open_int Try.underlying3 (hval 2 3 v2 rfl rfl) h2
  clear hA0
  refine (walk_ledgerCancels x0 len0 cap0 z0 c0 n0 ml0 wf0 sz0 r1' ra1 rc1 rp1 rw1 rs1 a2 wf2 (w := W)).mono fun e W' ⟨he, bel⟩ => ?_
  subst he
  exact ⟨_, rfl, _, _, _, [], _, [], hW', trodAll_mk1 (shut_bool Try.underlying4 _), (trodAll_cons_mk (Below.trod laidOut (by kernel_rfl) (of_decide_eq_true (by kernel_rfl)) k0 bel lt0) (trodAll_cons_mk (Below.trod laidOut (by kernel_rfl) (of_decide_eq_true (by kernel_rfl)) k1 bel lt1) (trodAll_cons_mk (shut_int Try.underlying3 wf2) trodAll_mk0))), rfl, bel.frame _, fun h => by cases h⟩

set_option maxRecDepth 100000 in
theorem lifted (os : Os) (started : os.Started) (H : Type) (enc : TypeId × Value → H) :
    ReturnsInHanded {} Try.checked os 9 .any (Rows.ledgerCancelsSpec.pre6 enc Try.prog Try.f9 Rows.ledgerCancelsRow.domain false) (Rows.ledgerCancelsSpec.post enc Try.prog Try.f9 false true false false) := by
  refine returnsInHanded_of_change_sized (C := Try.checked) own started (by kernel_rfl) Try.func9
    (ChangeSpec.witness6 (enc := enc) (C := Try.checked) false ⟨#[], #[.slice none 0 0, .agg #[.int .i64 0, .slice none 0 0], .int .i64 0], []⟩ 8 (by kernel_rfl) (by kernel_rfl) (by kernel_rfl) (by kernel_rfl)) ?_
  intro W base args ds gs before hval hW _ hs _
  exact contract H enc W base args ds gs before hval hW hs
end Go.Proofs.Ytjhmnnhmekljgaa.ledgerCancelsDone

namespace Go.Proofs.Ytjhmnnhmekljgaa
/-- THE STATEMENT. -/
theorem ledgerCancels_said : Rows.LedgerCancelsSaid :=
  OpenClaim.holds_of_wide 9 Try.f9 rfl rfl rfl rfl rfl rfl rfl ⟨rfl, rfl, rfl, rfl, rfl⟩ rfl rfl rfl rfl rfl (by kernel_rfl) Try.func9 (by kernel_rfl)
    (of_decide_eq_true (by kernel_rfl)) (by unfold Func.isWrapper; first | (rw [if_pos (by decide +kernel)]; kernel_rfl) | (rw [if_neg (by decide +kernel)]; exact ⟨rfl, rfl⟩))
    (fun os started H enc _ => ledgerCancelsDone.lifted os started H enc)
#print axioms ledgerCancels_said
end Go.Proofs.Ytjhmnnhmekljgaa
