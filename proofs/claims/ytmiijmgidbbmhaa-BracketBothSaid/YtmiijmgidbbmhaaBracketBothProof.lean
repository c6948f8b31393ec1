/-
  BracketBoth: for every input the law answers true, and each argument reads behind the call as it read before. Here: the frame from the walk to the statement.
-/
import Derived.Test.YtmiijmgidbbmhaaRows
import Derived.Test.YtmiijmgidbbmhaaLBracketBoth
import Derived.ProofKit
import Derived.OpenShut
import Derived.Lib.SmallJoins



namespace Go.Proofs.Ytmiijmgidbbmhaa.bracketBothDone
open Go.ChangeShapes Go.WideShapes Go.ChangeAt Go.RowKit
set_option linter.unusedVariables false

theorem own : ownKnob Try.prog.godebug = none := by kernel_rfl
theorem laidOut : laidOutB Try.prog = true := by kernel_rfl

/-- What the walk gives. -/
theorem contract (H : Type) (enc : TypeId × Value → H) (W : World) (base : Nat) (args : Array Value) (ds gs : List (DataW H)) (before : List MemPlace)
    (hval : ∀ (j : Nat) t v, Try.f7.params[j]? = some t → args[j]? = some v → Value.okWide Try.prog W .any base t v)
    (hW : DataW.Whole enc Try.prog Try.f7.params.toList Rows.bracketBothSpec.vars false W args.toList ds gs before) :
    Calls Try.prog 7 args W fun e W' => ∃ v, e = .returned v ∧ Rows.bracketBothSpec.post enc Try.prog Try.f7 false true false false W args v W' := by
  have hW' := hW
  obtain ⟨p, q, hA0, hV, rfl, hfz, hnd⟩ := hW
  have hA : DataW.TrodAll enc Try.prog W 0 (fun _ => true) true Try.f7.params.toList args.toList ds p := hA0
  rw [Try.params7] at hA hval
  obtain ⟨v0, vs0, d0, ds0, p0, q0, hargs, rfl, rfl, h0, r0⟩ := trodAll_cons hA
  obtain ⟨v1, vs1, d1, ds1, p1, q1, rfl, rfl, rfl, h1, r1⟩ := trodAll_cons r0
  obtain ⟨rfl, rfl, rfl⟩ := trodAll_nil r1
  obtain rfl : args = #[v0, v1] := by cases args; simp_all
  obtain ⟨rfl, rfl⟩ := trodVars_none hV

  have k0 := h0
  have lt0 : ∀ x ∈ p0, x.block < W.heap.size := by obtain ⟨m, hm⟩ := k0; exact DataW.trod_lt m _ _ _ hm
  obtain ⟨s0, x0, len0, cap0, z0, rfl, sm0, c0, n0, ml0⟩ : ∃ (s : ByteArray) (a : Option Addr) (len cap : Nat) (l : List Bk), v0 = .agg #[.string s, .slice a len cap] ∧ s.size ≤ 9223372036854775807 ∧ CameB W a l ∧ l.length = len ∧ len ≤ maxLen := by
    obtain ⟨e0, e1, y0, y1, m, rfl, _, _, hy0, hy1⟩ := Joins.open_agg2 Try.underlying24 (by kernel_rfl) (by kernel_rfl) (hval 0 24 v0 rfl rfl) h0
    obtain ⟨s, q0, _, hs⟩ := DataW.trod_string Try.underlying9 hy0
    obtain ⟨a, len, cap, l, rfl, c, n, ml⟩ := open_bks hy1
    simp at q0
    subst q0
    exact ⟨s, a, len, cap, l, rfl, by unfold maxLen at hs; omega, c, n, ml⟩
  have k1 := h1
  have lt1 : ∀ x ∈ p1, x.block < W.heap.size := by obtain ⟨m, hm⟩ := k1; exact DataW.trod_lt m _ _ _ hm
  obtain ⟨s1, x1, len1, cap1, z1, rfl, sm1, c1, n1, ml1⟩ : ∃ (s : ByteArray) (a : Option Addr) (len cap : Nat) (l : List Bk), v1 = .agg #[.string s, .slice a len cap] ∧ s.size ≤ 9223372036854775807 ∧ CameB W a l ∧ l.length = len ∧ len ≤ maxLen := by
    obtain ⟨e0, e1, y0, y1, m, rfl, _, _, hy0, hy1⟩ := Joins.open_agg2 Try.underlying24 (by kernel_rfl) (by kernel_rfl) (hval 1 24 v1 rfl rfl) h1
    obtain ⟨s, q0, _, hs⟩ := DataW.trod_string Try.underlying9 hy0
    obtain ⟨a, len, cap, l, rfl, c, n, ml⟩ := open_bks hy1
    simp at q0
    subst q0
    exact ⟨s, a, len, cap, l, rfl, by unfold maxLen at hs; omega, c, n, ml⟩
  clear hA0
  refine (walk_bracketBoth s0 sm0 x0 len0 cap0 z0 c0 n0 ml0 s1 sm1 x1 len1 cap1 z1 c1 n1 ml1 (w := W)).mono fun e W' ⟨he, bel⟩ => ?_
  subst he
  exact ⟨_, rfl, _, _, _, [], _, [], hW', trodAll_mk1 (shut_bool Try.underlying4 _), (trodAll_cons_mk (Below.trod laidOut (by kernel_rfl) (of_decide_eq_true (by kernel_rfl)) k0 bel lt0) (trodAll_cons_mk (Below.trod laidOut (by kernel_rfl) (of_decide_eq_true (by kernel_rfl)) k1 bel lt1) trodAll_mk0)), rfl, bel.frame _, fun h => by cases h⟩

set_option maxRecDepth 100000 in
theorem lifted (os : Os) (started : os.Started) (H : Type) (enc : TypeId × Value → H) :
    ReturnsInHanded {} Try.checked os 7 .any (Rows.bracketBothSpec.pre6 enc Try.prog Try.f7 Rows.bracketBothRow.domain false) (Rows.bracketBothSpec.post enc Try.prog Try.f7 false true false false) := by
  refine returnsInHanded_of_change (C := Try.checked) own started (by kernel_rfl) Try.func7
    (ChangeSpec.witness6 (enc := enc) (C := Try.checked) false ⟨#[], #[.agg #[.string ⟨#[]⟩, .slice none 0 0], .agg #[.string ⟨#[]⟩, .slice none 0 0]], []⟩ 8 (by kernel_rfl) (by kernel_rfl) (by kernel_rfl) (by kernel_rfl)) ?_
  intro W base args ds gs before hval hW _ _
  exact contract H enc W base args ds gs before hval hW
end Go.Proofs.Ytmiijmgidbbmhaa.bracketBothDone

namespace Go.Proofs.Ytmiijmgidbbmhaa
/-- THE STATEMENT. -/
theorem bracketBoth_said : Rows.BracketBothSaid :=
  OpenClaim.holds_of_wide 7 Try.f7 rfl rfl rfl rfl rfl rfl rfl ⟨rfl, rfl, rfl, rfl, rfl⟩ rfl rfl rfl rfl rfl (by kernel_rfl) Try.func7 (by kernel_rfl)
    (of_decide_eq_true (by kernel_rfl)) (by unfold Func.isWrapper; first | (rw [if_pos (by decide +kernel)]; kernel_rfl) | (rw [if_neg (by decide +kernel)]; exact ⟨rfl, rfl⟩))
    (fun os started H enc _ => bracketBothDone.lifted os started H enc)
#print axioms bracketBoth_said
end Go.Proofs.Ytmiijmgidbbmhaa
