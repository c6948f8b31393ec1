/-
  Promise G4: Froms, put in one by one, each at its place and once: plain mathematics; what an append does that begins a new row.
-/
import Derived.Test.YtmiijmgidbbmhaaKBothW
import Derived.ArgAppend
namespace Go.Proofs.Ytmiijmgidbbmhaa
open Go.RowKit

/-- How many are less than f, from the left. -/
def lessN (f : Int) : List Int → Nat
  | [] => 0
  | x :: r => if x < f then lessN f r + 1 else 0
/-- f put in at its place, if it is not there. -/
def insI (f : Int) (F : List Int) : List Int := if lessN f F < F.length ∧ nth F (lessN f F) = f then F else F.take (lessN f F) ++ ([f] ++ F.drop (lessN f F))
theorem lessN_le (f : Int) : ∀ F, lessN f F ≤ F.length
  | [] => Nat.le_refl _
  | x :: r => by
    simp only [lessN]
    split
    · have := lessN_le f r; simp; omega
    · exact Nat.zero_le _
theorem lessN_lt (f : Int) : ∀ (F : List Int) (j : Nat), j < lessN f F → nth F j < f
  | [], j, h => by simp [lessN] at h
  | x :: r, j, h => by
    simp only [lessN] at h
    split at h
    · rename_i hx
      cases j with
      | zero => exact hx
      | succ j => exact lessN_lt f r j (by omega)
    · omega
theorem lessN_at (f : Int) : ∀ F, lessN f F < F.length → f ≤ nth F (lessN f F)
  | [], h => by simp at h
  | x :: r, h => by
    simp only [lessN] at h ⊢
    split at h
    · rename_i hx
      rw [if_pos hx]
      exact lessN_at f r (by simpa using h)
    · rename_i hx
      rw [if_neg hx]
      show f ≤ x
      omega
theorem lessN_eq {f : Int} {F : List Int} {k : Nat} (hk : k ≤ F.length) (h1 : ∀ j, j < k → nth F j < f) (h2 : k < F.length → f ≤ nth F k) : k = lessN f F := by
  have a1 := lessN_le f F
  rcases (show k < lessN f F ∨ k = lessN f F ∨ lessN f F < k by omega) with e | e | e
  · have := lessN_lt f F k e
    have := h2 (by omega)
    omega
  · exact e
  · have := h1 _ e
    have := lessN_at f F (by omega)
    omega
/-- The Froms of a list, one by one. -/
def insAll (F : List Int) : List Int → List Int
  | [] => F
  | f :: r => insAll (insI f F) r
theorem pair_nth {F : List Int} (h : F.Pairwise (· < ·)) {i j : Nat} (hij : i < j) (hj : j < F.length) : nth F i < nth F j := by
  have := List.pairwise_iff_getElem.1 h i j (by omega) hj hij
  simpa [nth, List.getD_eq_getElem?_getD, show i < F.length by omega, hj] using this
theorem mem_nth {F : List Int} {x : Int} : x ∈ F ↔ ∃ j, j < F.length ∧ nth F j = x := by
  constructor
  · exact nth_of_mem
  · rintro ⟨j, hj, rfl⟩
    unfold nth
    rw [List.getD_eq_getElem?_getD, List.getElem?_eq_getElem hj]
    exact List.getElem_mem hj
theorem insI_props {F : List Int} (h : F.Pairwise (· < ·)) (f : Int) : (insI f F).Pairwise (· < ·) ∧ ∀ x, x ∈ insI f F ↔ x = f ∨ x ∈ F := by
  unfold insI
  have hle := lessN_le f F
  by_cases c : lessN f F < F.length ∧ nth F (lessN f F) = f
  · rw [if_pos c]
    refine ⟨h, fun x => ⟨.inr, ?_⟩⟩
    rintro (rfl | hx)
    · exact mem_nth.2 ⟨_, c.1, c.2⟩
    · exact hx
  · rw [if_neg c]
    have hlt : ∀ x ∈ F.take (lessN f F), x < f := fun x hx => by
      obtain ⟨j, hj, rfl⟩ := List.mem_iff_getElem.1 hx
      rw [List.length_take] at hj
      have := lessN_lt f F j (by omega)
      simpa [nth, List.getD_eq_getElem?_getD, show j < F.length by omega] using this
    have hgt : ∀ x ∈ F.drop (lessN f F), f < x := fun x hx => by
      obtain ⟨j, hj, rfl⟩ := List.mem_iff_getElem.1 hx
      rw [List.length_drop] at hj
      have h1 := lessN_at f F (by omega)
      have h2 : nth F (lessN f F) ≠ f := fun e => c ⟨by omega, e⟩
      have h3 : nth F (lessN f F) ≤ nth F (lessN f F + j) := by
        by_cases e : j = 0
        · subst e; exact Int.le_refl _
        · exact Int.le_of_lt (pair_nth h (by omega) (by omega))
      have e4 : (F.drop (lessN f F))[j] = nth F (lessN f F + j) := by simp [nth, List.getD_eq_getElem?_getD, show lessN f F + j < F.length by omega]
      rw [e4]
      omega
    refine ⟨?_, fun x => ?_⟩
    · rw [List.pairwise_append, List.pairwise_append]
      refine ⟨h.sublist (List.take_sublist _ _), ⟨by simp, h.sublist (List.drop_sublist _ _), fun x hx y hy => ?_⟩, fun x hx y hy => ?_⟩
      · simp at hx
        subst hx
        exact hgt y hy
      · rw [List.mem_append] at hy
        rcases hy with hy | hy
        · simp at hy
          subst hy
          exact hlt x hx
        · have := hlt x hx; have := hgt y hy; omega
    · have e : x ∈ F ↔ x ∈ F.take (lessN f F) ∨ x ∈ F.drop (lessN f F) := by rw [← List.mem_append, List.take_append_drop]
      rw [List.mem_append, List.mem_append, e]
      simp only [List.mem_cons, List.not_mem_nil, or_false]
      constructor
      · rintro (h | h | h)
        · exact .inr (.inl h)
        · exact .inl h
        · exact .inr (.inr h)
      · rintro (h | h | h)
        · exact .inr (.inl h)
        · exact .inl h
        · exact .inr (.inr h)
theorem insAll_props : ∀ (r : List Int) {F : List Int}, F.Pairwise (· < ·) → (insAll F r).Pairwise (· < ·) ∧ ∀ x, x ∈ insAll F r ↔ x ∈ F ∨ x ∈ r
  | [], F, h => ⟨h, fun x => by simp [insAll]⟩
  | f :: r, F, h => by
    have h1 := insI_props h f
    have h2 := insAll_props r h1.1
    refine ⟨h2.1, fun x => ?_⟩
    show x ∈ insAll (insI f F) r ↔ _
    rw [h2.2 x, h1.2 x]
    simp only [List.mem_cons]
    constructor
    · rintro ((h | h) | h)
      · exact .inr (.inl h)
      · exact .inl h
      · exact .inr (.inr h)
    · rintro (h | h | h)
      · exact .inl (.inr h)
      · exact .inl (.inl h)
      · exact .inr h
theorem rising_unique : ∀ {F G : List Int}, F.Pairwise (· < ·) → G.Pairwise (· < ·) → (∀ x, x ∈ F ↔ x ∈ G) → F = G
  | [], [], _, _, _ => rfl
  | [], y :: G, _, _, h => by have := (h y).2 (List.mem_cons_self ..); cases this
  | x :: F, [], _, _, h => by have := (h x).1 (List.mem_cons_self ..); cases this
  | x :: F, y :: G, hF, hG, h => by
    rw [List.pairwise_cons] at hF hG
    have hxy : x = y := by
      have h1 := (h x).1 (List.mem_cons_self ..)
      have h2 := (h y).2 (List.mem_cons_self ..)
      rw [List.mem_cons] at h1 h2
      rcases h1 with h1 | h1
      · exact h1
      · rcases h2 with h2 | h2
        · exact h2.symm
        · have := hG.1 x h1; have := hF.1 y h2; omega
    subst hxy
    have : F = G := rising_unique hF.2 hG.2 (fun z => by
      have := h z
      rw [List.mem_cons, List.mem_cons] at this
      constructor
      · intro hz
        have hne : z ≠ x := fun e => by have := hF.1 z hz; omega
        rcases this.1 (.inr hz) with e | e
        · exact absurd e hne
        · exact e
      · intro hz
        have hne : z ≠ x := fun e => by have := hG.1 z hz; omega
        rcases this.2 (.inr hz) with e | e
        · exact absurd e hne
        · exact e)
    rw [this]
theorem insAll_froms (l m : List Bk) : insAll [] (l.map Bk.frm ++ m.map Bk.frm) = fromsL l m := by
  have h1 := insAll_props (l.map Bk.frm ++ m.map Bk.frm) (F := []) (by simp)
  have h2 := compact_rises (l.map Bk.frm ++ m.map Bk.frm)
  refine rising_unique h1.1 h2.2 (fun x => ?_)
  have h3 : x ∈ fromsL l m ↔ x ∈ l.map Bk.frm ++ m.map Bk.frm := h2.1 x
  rw [h1.2 x, h3]
  simp
theorem insAll_append (F a b : List Int) : insAll F (a ++ b) = insAll (insAll F a) b := by
  induction a generalizing F with
  | nil => rfl
  | cons x r ih => exact ih (insI x F)
end Go.Proofs.Ytmiijmgidbbmhaa
