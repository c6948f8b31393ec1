/-
  Promises M2, M4: totals laid together by person, year and name: the walk of together.
-/
import Derived.Test.YtfamnlaignjhkaaOListW
namespace Go.Proofs.Ytfamnlaignjhkaa
open Go.RowKit Go.Sort Go.Maps Go.WideMaps

/-- The sums of totals, one by one. -/
def stepG (g : Ky → Option Int) (t : Tt) : Ky → Option Int := putG g (keyT t) ((g (keyT t)).getD 0 + t.mon)
def sumsOf (L : List Tt) : Ky → Option Int := L.foldl stepG (fun _ => none)
theorem sumsOf_snoc (L : List Tt) (t : Tt) : sumsOf (L ++ [t]) = stepG (sumsOf L) t := by unfold sumsOf; rw [List.foldl_append]; rfl
/-- What a key comes to. -/
def sumK (k : Ky) : List Tt → Int
  | [] => 0
  | t :: r => (if keyT t = k then t.mon else 0) + sumK k r
theorem sumK_append (k : Ky) : ∀ L M : List Tt, sumK k (L ++ M) = sumK k L + sumK k M
  | [], M => by simp [sumK]
  | t :: r, M => by rw [List.cons_append, sumK, sumK, sumK_append k r M]; omega
theorem sumsOf_some (k : Ky) (L : List Tt) : ((∃ t ∈ L, keyT t = k) → sumsOf L k = some (sumK k L)) ∧ ((¬ ∃ t ∈ L, keyT t = k) → sumsOf L k = none ∧ sumK k L = 0) := by
  suffices h : ∀ R : List Tt, ((∃ t ∈ R.reverse, keyT t = k) → sumsOf R.reverse k = some (sumK k R.reverse)) ∧ ((¬ ∃ t ∈ R.reverse, keyT t = k) → sumsOf R.reverse k = none ∧ sumK k R.reverse = 0) by
    have := h L.reverse
    rwa [List.reverse_reverse] at this
  intro R
  induction R with
  | nil =>
    refine ⟨fun ⟨t, ht, _⟩ => by simp at ht, fun _ => ⟨rfl, rfl⟩⟩
  | cons t R ih =>
    rw [List.reverse_cons, sumsOf_snoc, sumK_append]
    obtain ⟨h1, h2⟩ := ih
    by_cases e : keyT t = k
    · refine ⟨fun _ => ?_, fun hn => absurd ⟨t, by simp, e⟩ hn⟩
      subst e
      unfold stepG putG
      rw [if_pos rfl]
      congr 1
      simp only [sumK, if_true]
      by_cases hx : ∃ t' ∈ R.reverse, keyT t' = keyT t
      · rw [h1 hx]; simp
      · rw [(h2 hx).1, (h2 hx).2]; simp
    · have e1 : stepG (sumsOf R.reverse) t k = sumsOf R.reverse k := by
        unfold stepG putG
        rw [if_neg (fun q => e q.symm)]
      have e2 : sumK k [t] = 0 := by simp [sumK, e]
      rw [e1, e2, Int.add_zero]
      refine ⟨fun ⟨t', ht', q⟩ => h1 ⟨t', ?_, q⟩, fun hn => h2 fun ⟨t', ht', q⟩ => hn ⟨t', by simp at ht' ⊢; exact .inl ht', q⟩⟩
      simp at ht'
      rcases ht' with ht' | rfl
      · simpa using ht'
      · exact absurd q e
theorem sumsOf_getD (k : Ky) (L : List Tt) : (sumsOf L k).getD 0 = sumK k L := by
  by_cases h : ∃ t ∈ L, keyT t = k
  · rw [(sumsOf_some k L).1 h]; rfl
  · rw [((sumsOf_some k L).2 h).1, ((sumsOf_some k L).2 h).2]; rfl
/-- A total that may be added. -/
def OkT (t : Tt) : Prop := 1 ≤ t.per ∧ t.per ≤ 999 ∧ 2000 ≤ t.yr ∧ t.yr ≤ 2199 ∧ -1000000000000 ≤ t.mon ∧ t.mon ≤ 1000000000000 ∧ t.nam.size ≤ 8
theorem OkT.wf {t : Tt} (h : OkT t) : WfK (keyT t) := by
  obtain ⟨h1, h2, h3, h4, _, _, h7⟩ := h
  exact ⟨WalkArith.wf_i64 (by show _ ∧ _; constructor <;> (show _; simp only [keyT]; omega)), WalkArith.wf_i64 (by show _ ∧ _; constructor <;> (show _; simp only [keyT]; omega)), by show t.nam.size ≤ maxLen; unfold maxLen; omega⟩
theorem sumK_bound (k : Ky) : ∀ {L : List Tt}, (∀ t ∈ L, OkT t) → -(1000000000000 * (L.length : Int)) ≤ sumK k L ∧ sumK k L ≤ 1000000000000 * (L.length : Int)
  | [], _ => by simp [sumK]
  | t :: r, h => by
    have ih := sumK_bound k (L := r) fun x hx => h x (by simp [hx])
    have ht := h t (by simp)
    obtain ⟨_, _, _, _, h5, h6, _⟩ := ht
    rw [sumK, List.length_cons]
    push_cast
    split <;> omega
/-- Slices of totals, one behind the other. -/
def LsAt (w : World) (b : Nat) (Ls : List (List Tt)) : Prop := b < w.heap.size ∧ ∀ j, j < Ls.length → ∃ a c, w.cell? ⟨b, j, none⟩ = some (.slice a (Ls.getD j []).length c) ∧ CameO w a (Ls.getD j [])
theorem LsAt.below {w w' : World} {b : Nat} {Ls : List (List Tt)} (h : LsAt w b Ls) (hb : Go.RowKit.Below w.heap.size w w') : LsAt w' b Ls :=
  ⟨Nat.lt_of_lt_of_le h.1 hb.size, fun j hj => by
    obtain ⟨a, c, h1, h2⟩ := h.2 j hj
    exact ⟨a, c, (hb.cell (p := ⟨b, j, none⟩) h.1).trans h1, h2.below hb⟩⟩
theorem flat_take {Ls : List (List Tt)} {j : Nat} (hj : j < Ls.length) : (Ls.take (j + 1)).flatten = (Ls.take j).flatten ++ Ls.getD j [] := by
  rw [List.take_add_one, List.flatten_append, List.getD_eq_getElem?_getD, List.getElem?_eq_getElem hj]
  simp
theorem otake_snoc {l : List Tt} {k : Nat} (h : k < l.length) : l.take (k + 1) = l.take k ++ [onth l k] := by
  rw [List.take_add_one, List.getElem?_eq_getElem h]
  simp [onth, List.getD_eq_getElem?_getD, h]
theorem make_sums (w : World) : (Instr.makeMap 65 none).run Try.prog w = .ok (.map (some w.heap.size)) (w.alloc (.map #[] 0)) := by
  simp [Instr.makeMap, Result.andThen]
end Go.Proofs.Ytfamnlaignjhkaa
