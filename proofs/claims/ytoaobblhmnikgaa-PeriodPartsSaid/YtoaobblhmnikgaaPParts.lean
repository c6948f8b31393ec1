/-
  Promise C6: At and Which speak of the same periods.
-/
import Derived.Test.YtoaobblhmnikgaaLPeriodWhich
namespace Go.Proofs.Ytoaobblhmnikgaa
open Go.RowKit Go.Maps

theorem inB_iff {x f t : Int} : inB x f t = true ↔ f ≤ x ∧ x ≤ t := by unfold inB; simp
theorem AtIs.inv {K A L k f t : Int} (h : AtIs K A L k f t 0) : schedE K A L = 0 ∧ (0 ≤ k ∧ k < 5000) ∧ (((K = 1 ∨ K = 2) ∧ A + 7 * K * k + 7 * K - 1 ≤ 73048 ∧ f = A + 7 * K * k ∧ t = A + 7 * K * k + 7 * K - 1) ∨ ((K = 3 ∨ K = 4) ∧ ∃ (k0 m0 : Nat) (d0 : Int), IsCivil A k0 m0 d0 ∧ idx K k0 m0 d0 + k < lim K ∧ f = stt K (idx K k0 m0 d0 + k) ∧ t = stt K (idx K k0 m0 d0 + k + 1) - 1)) := by
  rcases h with ⟨h, _, _, h'⟩ | ⟨hz, ⟨_, _, _, h⟩ | ⟨hk, h⟩⟩
  · exact absurd h'.symm h
  · omega
  · refine ⟨hz, hk, ?_⟩
    by_cases hK2 : K = 1 ∨ K = 2
    · rcases h with ⟨_, ⟨_, _, _, h⟩ | ⟨p, q, r, _⟩⟩ | ⟨h, _⟩ | ⟨h, _⟩
      · omega
      · exact .inl ⟨hK2, p, q, r⟩
      · omega
      · omega
    · have hK : K = 3 ∨ K = 4 := by
        obtain ⟨a, b, _⟩ := schedE_ok hz
        omega
      obtain ⟨_, _, hdA, _, _⟩ := schedE_ok hz
      obtain ⟨k0, m0, d0, hc⟩ := civil_ex hdA
      refine .inr ⟨hK, k0, m0, d0, hc, ?_⟩
      by_cases hl : idx K k0 m0 d0 + k < lim K
      · obtain ⟨a, b, _⟩ := h.unique (per_of_stt (N0 := idx K k0 m0 d0) hK hc rfl hk.1 (.inr ⟨hl, rfl, rfl, rfl⟩))
        exact ⟨hl, a, b⟩
      · obtain ⟨_, _, c⟩ := h.unique (per_of_stt (N0 := idx K k0 m0 d0) hK hc rfl hk.1 (.inl ⟨by omega, rfl, rfl, rfl⟩))
        omega
theorem AtIs.ne {K A L k f t : Int} (h : AtIs K A L k f t 0) : f ≤ t := by
  obtain ⟨_, hk, ⟨hK, _, rfl, rfl⟩ | ⟨hK, k0, m0, d0, hc, hl, rfl, rfl⟩⟩ := h.inv
  · rcases hK with rfl | rfl <;> omega
  · have := idx_in hK hc
    have := stt_lt hK (N := idx K k0 m0 d0 + k) (by omega)
    omega
theorem AtIs.which {K A L k f t x : Int} (h : AtIs K A L k f t 0) (h1 : f ≤ x) (h2 : x ≤ t) : WhichIs K A L x k 0 := by
  obtain ⟨hz, hk, h⟩ := h.inv
  obtain ⟨_, _, hdA, _, _⟩ := schedE_ok hz
  obtain ⟨hA0, hA1⟩ := dayB_iff.1 hdA
  rcases h with ⟨hK, hb, rfl, rfl⟩ | ⟨hK, k0, m0, d0, hc, hl, rfl, rfl⟩
  · rcases hK with rfl | rfl
    · have hq : (x - A) / (7 * 1) = k := by omega
      refine .inr ⟨hz, .inr ⟨dayB_iff.2 (by omega), .inl ⟨by omega, .inr ⟨by omega, .inr ⟨?_, hq.symm, rfl⟩⟩⟩⟩⟩
      rw [hq]; omega
    · have hq : (x - A) / (7 * 2) = k := by omega
      refine .inr ⟨hz, .inr ⟨dayB_iff.2 (by omega), .inl ⟨by omega, .inr ⟨by omega, .inr ⟨?_, hq.symm, rfl⟩⟩⟩⟩⟩
      rw [hq]; omega
  · obtain ⟨hN0, hN1, _, _⟩ := idx_in hK hc
    have hs := stt_bd hK (N := idx K k0 m0 d0 + k) (by omega) hl
    have he : stt K (idx K k0 m0 d0 + k + 1) ≤ stt K (lim K) := stt_le hK (by omega) (by omega)
    rw [stt_end hK] at he
    have hdx : dayB x = true := dayB_iff.2 (by omega)
    obtain ⟨k', m', d', hx⟩ := civil_ex hdx
    obtain ⟨hX0, hX1, hX2, hX3⟩ := idx_in hK hx
    have hi : idx K k' m' d' = idx K k0 m0 d0 + k := idx_only hK hX0 (by omega) hX2 hX3 h1 (by omega)
    exact .inr ⟨hz, .inr ⟨hdx, .inr ⟨by omega, k0, m0, d0, k', m', d', hc, hx, .inr ⟨⟨by omega, .inr ⟨by omega, by omega, rfl⟩⟩, hK⟩⟩⟩⟩
theorem WhichIs.at {K A L x r : Int} (h : WhichIs K A L x r 0) : ∃ f t : Int, AtIs K A L r f t 0 ∧ f ≤ x ∧ x ≤ t := by
  rcases h with ⟨h, _, h'⟩ | ⟨hz, ⟨_, _, h⟩ | ⟨hdx, h⟩⟩
  · exact absurd h'.symm h
  · omega
  · obtain ⟨hK1, hK4, hdA, _, _⟩ := schedE_ok hz
    rcases h with ⟨hK, h⟩ | ⟨hK, k, m, d, k', m', d', hc, hx, h⟩
    · rcases h with ⟨_, _, h⟩ | ⟨hAx, ⟨_, _, h⟩ | ⟨⟨p, q⟩, hr, _⟩⟩
      · omega
      · omega
      · have hKK : K = 1 ∨ K = 2 := by omega
        rcases hKK with rfl | rfl
        · exact ⟨A + 7 * 1 * r, A + 7 * 1 * r + 7 * 1 - 1, .inr ⟨hz, .inr ⟨⟨by omega, by omega⟩, .inl ⟨by omega, .inr ⟨by omega, rfl, rfl, rfl⟩⟩⟩⟩, by omega, by omega⟩
        · exact ⟨A + 7 * 2 * r, A + 7 * 2 * r + 7 * 2 - 1, .inr ⟨hz, .inr ⟨⟨by omega, by omega⟩, .inl ⟨by omega, .inr ⟨by omega, rfl, rfl, rfl⟩⟩⟩⟩, by omega, by omega⟩
    · have hK34 : K = 3 ∨ K = 4 := by omega
      obtain ⟨hX0, hX1, hX2, hX3⟩ := idx_in hK34 hx
      rcases h with ⟨_, _, h⟩ | ⟨⟨hle, ⟨_, _, h⟩ | ⟨h5, hr, _⟩⟩, _⟩
      · omega
      · omega
      · have e : idx K k m d + r = idx K k' m' d' := by omega
        refine ⟨stt K (idx K k' m' d'), stt K (idx K k' m' d' + 1) - 1, .inr ⟨hz, .inr ⟨⟨by omega, by omega⟩, per_of_stt (N0 := idx K k m d) hK34 hc rfl (by omega) (.inr ⟨by omega, by rw [e], by rw [e], rfl⟩)⟩⟩, hX2, by omega⟩
theorem AtIs.next {K A L k f t f' t' : Int} (h : AtIs K A L k f t 0) (h' : AtIs K A L (k + 1) f' t' 0) : f' = t + 1 := by
  obtain ⟨_, hk, ⟨hK, _, rfl, rfl⟩ | ⟨hK, k0, m0, d0, hc, hl, rfl, rfl⟩⟩ := h.inv
  · obtain ⟨_, hk', ⟨_, _, rfl, rfl⟩ | ⟨hK', _⟩⟩ := h'.inv
    · rcases hK with rfl | rfl <;> omega
    · omega
  · obtain ⟨_, hk', ⟨hK', _⟩ | ⟨_, k1, m1, d1, hc', hl', rfl, rfl⟩⟩ := h'.inv
    · omega
    · obtain ⟨rfl, rfl, rfl⟩ := hc.unique hc'
      rw [show idx K k0 m0 d0 + (k + 1) = idx K k0 m0 d0 + k + 1 from by omega]
      omega
/-- In the period: just if Which says so. -/
theorem parts_is {K A L k f t x i : Int} (h : AtIs K A L k f t 0) (hw : WhichIs K A L x i 0) : decide (i = k) = inB x f t := by
  cases hi : inB x f t
  · refine decide_eq_false fun e => ?_
    subst e
    obtain ⟨f', t', ha, a, b⟩ := hw.at
    obtain ⟨rfl, rfl, _⟩ := h.unique ha
    rw [inB_iff.2 ⟨a, b⟩] at hi
    cases hi
  · obtain ⟨a, b⟩ := inB_iff.1 hi
    exact decide_eq_true (hw.unique (h.which a b)).1
theorem parts_not {K A L k f t x i e : Int} (h : AtIs K A L k f t 0) (hw : WhichIs K A L x i e) (he : e ≠ 0) : inB x f t = false := by
  cases hi : inB x f t
  · rfl
  · obtain ⟨a, b⟩ := inB_iff.1 hi
    exact absurd (hw.unique (h.which a b)).2 he
end Go.Proofs.Ytoaobblhmnikgaa
