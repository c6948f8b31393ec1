/-
  Promise A4 (whole), the plain part: shares make the total; none is a whole one off what its weight says; who has more weight has no less; who has none has nothing.
-/
import Derived.Test.YtbbmgainmomafaaMShareV
namespace Go.Proofs.Ytbbmgainmomafaa.Mny
open Go.RowKit

theorem fgTo_max (l : List Int) : ∀ k j, j < k → nth l j ≤ nth l (fgTo l k)
  | 0, j, h => by omega
  | k + 1, j, h => by
    unfold fgTo
    by_cases e : j = k
    · subst e
      split <;> omega
    · have := fgTo_max l k j (by omega)
      split <;> omega
/-- What of the first n numbers is above 0, together. -/
def posSum (r : List Int) : Nat → Int
  | 0 => 0
  | n + 1 => posSum r n + max (nth r n) 0
theorem posSum_set (r : List Int) (i : Nat) (v : Int) (hi : i < r.length) : ∀ n, posSum (r.set i v) n = if i < n then posSum r n - max (nth r i) 0 + max v 0 else posSum r n
  | 0 => by simp [posSum]
  | n + 1 => by
    rw [posSum, posSum, posSum_set r i v hi n, nth_set hi]
    by_cases h : i < n
    · rw [if_pos h, if_neg (by omega), if_pos (by omega)]; omega
    · by_cases e : n = i
      · subst e
        rw [if_neg h, if_pos rfl, if_pos (by omega)]; omega
      · rw [if_neg h, if_neg e, if_neg (by omega)]
theorem sumTo_set (p : List Int) (i : Nat) (v : Int) (hi : i < p.length) : ∀ n, sumTo (p.set i v) n = if i < n then sumTo p n - nth p i + v else sumTo p n
  | 0 => by simp [sumTo]
  | n + 1 => by
    rw [sumTo, sumTo, sumTo_set p i v hi n, nth_set hi]
    by_cases h : i < n
    · rw [if_pos h, if_neg (by omega), if_pos (by omega)]; omega
    · by_cases e : n = i
      · subst e
        rw [if_neg h, if_pos rfl, if_pos (by omega)]; omega
      · rw [if_neg h, if_neg e, if_neg (by omega)]
theorem posSum_some (r : List Int) : ∀ n, 0 < posSum r n → ∃ j, j < n ∧ 0 < nth r j
  | 0, h => by simp [posSum] at h
  | n + 1, h => by
    by_cases e : 0 < nth r n
    · exact ⟨n, by omega, e⟩
    · rw [posSum] at h
      obtain ⟨j, hj, h'⟩ := posSum_some r n (by omega)
      exact ⟨j, by omega, h'⟩

/-- What holds while units are given. -/
structure Inv (n : Nat) (S L : Int) (p0 r0 p r : List Int) (m : Nat) : Prop where
  each : ∀ j, j < n → (nth r j = nth r0 j ∧ nth p j = nth p0 j) ∨ (nth r j = -1 ∧ nth p j = nth p0 j + 1 ∧ 0 < nth r0 j ∧ ∀ i, i < n → nth r0 j < nth r0 i → nth r i = -1)
  rest : S * L - m * (S - 1) ≤ posSum r n
  sum : sumTo p n = sumTo p0 n + m

theorem give_inv {n : Nat} {S L : Int} {p0 r0 : List Int} (hp : p0.length = n) (hr : r0.length = n) (hS : 1 ≤ S) (hr0 : ∀ j, nth r0 j < S) (h0 : S * L ≤ posSum r0 n) :
    ∀ m : Nat, (m : Int) ≤ L → Inv n S L p0 r0 (give m p0 r0).1 (give m p0 r0).2 m
  | 0, _ => ⟨fun j _ => .inl ⟨rfl, rfl⟩, by simpa [give] using h0, by simp [give]⟩
  | m + 1, hm => by
    obtain ⟨i1, i2, i3⟩ := give_inv hp hr hS hr0 h0 m (by omega)
    obtain ⟨l1, l2⟩ := give_length m p0 r0
    have hpos : 0 < posSum (give m p0 r0).2 n := by
      have e : S * L - m * (S - 1) = S * (L - m) + m := by rw [Int.mul_sub, Int.mul_sub]; rw [Int.mul_comm S m]; omega
      have h1 : S * 1 ≤ S * (L - m) := Int.mul_le_mul_of_nonneg_left (by omega) (by omega)
      omega
    obtain ⟨j, hj, hjp⟩ := posSum_some _ _ hpos
    have hmax : ∀ i, i < n → nth (give m p0 r0).2 i ≤ nth (give m p0 r0).2 (fg (give m p0 r0).2) := fun i hi => by
      unfold fg; exact fgTo_max _ _ i (by omega)
    have hq : fg (give m p0 r0).2 < n := by
      have := fgTo_lt (give m p0 r0).2 (by omega) _ (Nat.le_refl _)
      unfold fg; omega
    have hj' := hmax j hj
    rw [give]
    generalize (give m p0 r0).1 = p at *
    generalize (give m p0 r0).2 = r at *
    generalize fg r = q at *
    have hqr : nth r q = nth r0 q ∧ nth p q = nth p0 q := by
      rcases i1 q hq with h | ⟨h, _⟩
      · exact h
      · omega
    have hqS := hr0 q
    refine ⟨fun j hj => ?_, ?_, ?_⟩
    · rw [nth_set (by omega), nth_set (by omega)]
      by_cases e : j = q
      · subst e
        rw [if_pos rfl, if_pos rfl]
        refine .inr ⟨rfl, by omega, by omega, fun i hi hlt => ?_⟩
        rw [nth_set (by omega)]
        have hne : i ≠ j := fun e => by subst e; omega
        rw [if_neg hne]
        have := hmax i hi
        rcases i1 i hi with ⟨h, _⟩ | ⟨h, _⟩
        · omega
        · exact h
      · rw [if_neg e, if_neg e]
        rcases i1 j hj with h | ⟨h1, h2, h3, h4⟩
        · exact .inl h
        · refine .inr ⟨h1, h2, h3, fun i hi hlt => ?_⟩
          rw [nth_set (by omega)]
          split
          · rfl
          · exact h4 i hi hlt
    · rw [posSum_set r q (-1) (by omega), if_pos hq]
      have e : ((m + 1 : Nat) : Int) * (S - 1) = m * (S - 1) + (S - 1) := by rw [Int.natCast_add, Int.add_mul]; simp
      omega
    · rw [sumTo_set p q _ (by omega), if_pos hq]
      omega

/-! ### At a total and weights -/
theorem sums (T S : Int) (l p r : List Int) (hp : ∀ j, nth p j = exactP T S (nth l j)) (hr : ∀ j, nth r j = exactR T S (nth l j)) (n : Nat) : S * sumTo p n + sumTo r n = T * sumTo l n := by
  induction n with
  | zero => simp [sumTo]
  | succ n ih =>
    simp only [sumTo]
    rw [Int.mul_add, Int.mul_add, hp, hr]
    have : S * exactP T S (nth l n) + exactR T S (nth l n) = T * nth l n := by unfold exactP exactR; exact Int.mul_ediv_add_emod (T * nth l n) S
    omega
theorem leftTo_sum (T S : Int) (l p : List Int) (hp : ∀ j, nth p j = exactP T S (nth l j)) (n : Nat) : leftTo T S l n = T - sumTo p n := by
  induction n with
  | zero => simp [leftTo, sumTo]
  | succ n ih => rw [leftTo, sumTo, ih, hp]; omega
theorem posSum_of_nonneg (r : List Int) (h : ∀ j, 0 ≤ nth r j) (n : Nat) : posSum r n = sumTo r n := by
  induction n with
  | zero => rfl
  | succ n ih => rw [posSum, sumTo, ih]; have := h n; omega

/-- WHAT SHARES ARE. -/
theorem share_facts {T : Int} {l : List Int} (hw : Wts T (sumTo l l.length) l) :
    sumTo (shareL T l) l.length = T ∧
    (∀ j, j < l.length → T * nth l j / sumTo l l.length ≤ nth (shareL T l) j ∧ nth (shareL T l) j ≤ T * nth l j / sumTo l l.length + 1 ∧ (nth l j = 0 → nth (shareL T l) j = 0)) ∧
    (∀ i k, i < l.length → k < l.length → nth l k < nth l i → nth (shareL T l) k ≤ nth (shareL T l) i) := by
  obtain ⟨t0, t1, s0, s1, n0, n1, x0, x1, xs⟩ := hw
  have hout : ∀ j, ¬ j < l.length → nth l j = 0 := fun j hj => by unfold nth; rw [List.getD_eq_getElem?_getD, List.getElem?_eq_none (by omega)]; rfl
  have hz : exactP T (sumTo l l.length) 0 = 0 ∧ exactR T (sumTo l l.length) 0 = 0 := by unfold exactP exactR; simp
  have hp : ∀ j, nth (pTo T (sumTo l l.length) l l.length) j = exactP T (sumTo l l.length) (nth l j) := fun j => by
    unfold pTo
    rw [nth_fillTo _ _ _ _ (Nat.le_refl _)]
    by_cases hj : j < l.length
    · rw [if_pos hj]
    · rw [if_neg hj, hout j hj, hz.1]
  have hr : ∀ j, nth (rTo T (sumTo l l.length) l l.length) j = exactR T (sumTo l l.length) (nth l j) := fun j => by
    unfold rTo
    rw [nth_fillTo _ _ _ _ (Nat.le_refl _)]
    by_cases hj : j < l.length
    · rw [if_pos hj]
    · rw [if_neg hj, hout j hj, hz.2]
  have hpl : (pTo T (sumTo l l.length) l l.length).length = l.length := fillTo_length _ _ _
  have hrl : (rTo T (sumTo l l.length) l l.length).length = l.length := fillTo_length _ _ _
  have hR0 : ∀ j, 0 ≤ nth (rTo T (sumTo l l.length) l l.length) j := fun j => by rw [hr]; exact Int.emod_nonneg _ (by omega)
  have hRS : ∀ j, nth (rTo T (sumTo l l.length) l l.length) j < sumTo l l.length := fun j => by rw [hr]; exact Int.emod_lt_of_pos _ (by omega)
  have hs := sums T _ l _ _ hp hr l.length
  have hL := leftTo_sum T _ l _ hp l.length
  have hps := posSum_of_nonneg _ hR0 l.length
  have hrs : 0 ≤ sumTo (rTo T (sumTo l l.length) l l.length) l.length := by
    have : ∀ k, 0 ≤ sumTo (rTo T (sumTo l l.length) l l.length) k := fun k => by
      induction k with
      | zero => simp [sumTo]
      | succ k ih => rw [sumTo]; have := hR0 k; omega
    exact this _
  have hSL : sumTo l l.length * leftTo T (sumTo l l.length) l l.length = posSum (rTo T (sumTo l l.length) l l.length) l.length := by
    rw [hps, hL, Int.mul_sub, Int.mul_comm _ T]; omega
  have hLn : 0 ≤ leftTo T (sumTo l l.length) l l.length := by
    by_cases h : 0 ≤ leftTo T (sumTo l l.length) l l.length
    · exact h
    · have : sumTo l l.length * leftTo T (sumTo l l.length) l l.length ≤ sumTo l l.length * (-1) := Int.mul_le_mul_of_nonneg_left (by omega) (by omega)
      rw [hSL, hps] at this
      omega
  have hI := give_inv hpl hrl s0 hRS (by rw [hSL]; exact Int.le_refl _) (leftTo T (sumTo l l.length) l l.length).toNat (by omega)
  have hsh : shareL T l = (give (leftTo T (sumTo l l.length) l l.length).toNat (pTo T (sumTo l l.length) l l.length) (rTo T (sumTo l l.length) l l.length)).1 := rfl
  rw [hsh]
  obtain ⟨i1, _, i3⟩ := hI
  refine ⟨by rw [i3, hL]; omega, fun j hj => ?_, fun i k hi hk hlt => ?_⟩
  · have e := hp j
    unfold exactP at e
    rcases i1 j hj with ⟨_, h⟩ | ⟨_, h, h3, _⟩
    · rw [h, e]
      exact ⟨Int.le_refl _, by omega, fun h0 => by rw [h0]; simp⟩
    · rw [h, e]
      refine ⟨by omega, by omega, fun h0 => ?_⟩
      rw [hr, h0, hz.2] at h3
      omega
  · have e1 := hp i
    have e2 := hp k
    have q1 := hr i
    have q2 := hr k
    have m1 : sumTo l l.length * exactP T (sumTo l l.length) (nth l i) + exactR T (sumTo l l.length) (nth l i) = T * nth l i := Int.mul_ediv_add_emod _ _
    have m2 : sumTo l l.length * exactP T (sumTo l l.length) (nth l k) + exactR T (sumTo l l.length) (nth l k) = T * nth l k := Int.mul_ediv_add_emod _ _
    have hmono : exactP T (sumTo l l.length) (nth l k) ≤ exactP T (sumTo l l.length) (nth l i) := by
      unfold exactP
      exact Int.ediv_le_ediv (by omega) (Int.mul_le_mul_of_nonneg_left (by omega) t0)
    rcases i1 k hk with ⟨_, h⟩ | ⟨h1, h, h3, h4⟩
    · rcases i1 i hi with ⟨_, h'⟩ | ⟨_, h', _⟩
      · rw [h, h', e1, e2]; exact hmono
      · rw [h, h', e1, e2]; omega
    · rcases i1 i hi with ⟨h5, h'⟩ | ⟨_, h', _⟩
      · by_cases heq : exactP T (sumTo l l.length) (nth l k) = exactP T (sumTo l l.length) (nth l i)
        · exfalso
          have hT : 0 < T := by
            by_cases hT : 0 < T
            · exact hT
            · have hT0 : T = 0 := by omega
              rw [q2] at h3
              unfold exactR at h3
              rw [hT0] at h3
              simp at h3
          have hlt' : T * nth l k < T * nth l i := Int.mul_lt_mul_of_pos_left hlt hT
          rw [heq] at m2
          have := h4 i hi (by rw [q1, q2]; omega)
          have := hR0 i
          omega
        · rw [h, h', e1, e2]; omega
      · rw [h, h', e1, e2]; omega
end Go.Proofs.Ytbbmgainmomafaa.Mny
