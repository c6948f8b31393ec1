/-
  Promise G4: all Froms of two tables, rising, each once: plain mathematics.
-/
import Derived.Test.YtmiijmgidbbmhaaKConcat
import Derived.Lib.SlicesCompact
namespace Go.Proofs.Ytmiijmgidbbmhaa
open Go.RowKit

theorem comp_props (d : Array Int) (hs : ∀ i j, i ≤ j → j < d.size → d[i]! ≤ d[j]!) : ∀ k, k ≤ d.size → (∀ x, x ∈ Lib.compactUpTo d k ↔ ∃ j, j < k ∧ d[j]! = x) ∧ (Lib.compactUpTo d k).Pairwise (· < ·)
  | 0, _ => ⟨fun x => ⟨fun h => by simp [Lib.compactUpTo] at h, fun ⟨j, hj, _⟩ => absurd hj (by omega)⟩, by simp [Lib.compactUpTo]⟩
  | k + 1, hk => by
    have ih := comp_props d hs k (by omega)
    rw [Lib.compactUpTo_succ]
    by_cases hkp : Lib.keeps d k = true
    · rw [if_pos hkp]
      refine ⟨fun x => ?_, ?_⟩
      · rw [List.mem_append, ih.1 x]
        simp only [List.mem_cons, List.not_mem_nil, or_false]
        constructor
        · rintro (⟨j, hj, e⟩ | e)
          · exact ⟨j, by omega, e⟩
          · exact ⟨k, by omega, e.symm⟩
        · rintro ⟨j, hj, e⟩
          by_cases h : j < k
          · exact .inl ⟨j, h, e⟩
          · obtain rfl : j = k := by omega
            exact .inr e.symm
      · rw [List.pairwise_append]
        refine ⟨ih.2, by simp, fun x hx y hy => ?_⟩
        simp only [List.mem_cons, List.not_mem_nil, or_false] at hy
        subst hy
        obtain ⟨j, hj, rfl⟩ := (ih.1 x).1 hx
        have h1 := hs j (k - 1) (by omega) (by omega)
        have h2 := hs (k - 1) k (by omega) (by omega)
        have h3 : d[k]! ≠ d[k - 1]! := fun e => by
          have := Lib.keeps_neg (d := d) (m := k) (by omega) e
          rw [this] at hkp
          cases hkp
        omega
    · rw [if_neg hkp, List.append_nil]
      refine ⟨fun x => ?_, ih.2⟩
      rw [ih.1 x]
      constructor
      · rintro ⟨j, hj, e⟩
        exact ⟨j, by omega, e⟩
      · rintro ⟨j, hj, e⟩
        by_cases h : j < k
        · exact ⟨j, h, e⟩
        · obtain rfl : j = k := by omega
          have hj0 : j ≠ 0 := fun e => hkp (Lib.keeps_lt_one d j (by omega))
          have : d[j]! = d[j - 1]! := by
            by_cases c : d[j]! = d[j - 1]!
            · exact c
            · exact absurd (Lib.keeps_pos c) hkp
          exact ⟨j - 1, by omega, by rw [← this]; exact e⟩
def sortI (zs : List Int) : List Int := zs.mergeSort fun x y => decide (x ≤ y)
/-- All Froms of two lists, rising, each once. -/
def fromsL (l m : List Bk) : List Int := Lib.compact (sortI (l.map Bk.frm ++ m.map Bk.frm))
theorem sortI_le (zs : List Int) : (sortI zs).Pairwise (· ≤ ·) := by
  have h := List.pairwise_mergeSort (le := fun x y : Int => decide (x ≤ y)) (fun a b c h1 h2 => by simp at *; omega) (fun a b => by simp; omega) zs
  exact h.imp (fun h => by simpa using h)
theorem compact_rises (zs : List Int) : (∀ x, x ∈ Lib.compact (sortI zs) ↔ x ∈ zs) ∧ (Lib.compact (sortI zs)).Pairwise (· < ·) := by
  have hp := sortI_le zs
  have hs : ∀ i j, i ≤ j → j < (sortI zs).toArray.size → (sortI zs).toArray[i]! ≤ (sortI zs).toArray[j]! := fun i j hij hj => by
    simp only [List.size_toArray] at hj
    by_cases e : i = j
    · subst e; exact Int.le_refl _
    · have := List.pairwise_iff_getElem.1 hp i j (by omega) hj (by omega)
      simpa [show i < (sortI zs).length by omega, hj] using this
  have h := comp_props (sortI zs).toArray hs (sortI zs).length (by simp)
  refine ⟨fun x => ?_, h.2⟩
  show x ∈ Lib.compactUpTo (sortI zs).toArray (sortI zs).length ↔ _
  rw [h.1 x]
  have hm : x ∈ sortI zs ↔ x ∈ zs := List.mem_mergeSort
  rw [← hm, List.mem_iff_getElem]
  constructor
  · rintro ⟨j, hj, e⟩
    exact ⟨j, hj, by simpa [hj] using e⟩
  · rintro ⟨j, hj, e⟩
    exact ⟨j, hj, by simpa [hj] using e⟩
end Go.Proofs.Ytmiijmgidbbmhaa
