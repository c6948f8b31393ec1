/-
  Promise C1: in which period a day is; the walk of Which.
-/
import Derived.Test.YtoaobblhmnikgaaLPeriodAt
namespace Go.Proofs.Ytoaobblhmnikgaa
open Go.RowKit Go.Maps

/-- How many periods of months, or halves, are ahead of the one of a date. -/
def idx (K : Int) (k m : Nat) (d : Int) : Int := if K = 3 then (12 * (k : Int) + (m : Int) - 1) * 2 + hf d else 12 * (k : Int) + (m : Int) - 1
theorem idx3 (k m : Nat) (d : Int) : idx 3 k m d = (12 * (k : Int) + (m : Int) - 1) * 2 + hf d := if_pos rfl
theorem idx4 (k m : Nat) (d : Int) : idx 4 k m d = 12 * (k : Int) + (m : Int) - 1 := if_neg (by omega)
theorem stt_lt {K N : Int} (hK : K = 3 ∨ K = 4) (h0 : 0 ≤ N) : stt K N < stt K (N + 1) := by
  rcases hK with rfl | rfl
  · rw [stt3, stt3]
    by_cases hp : N % 2 = 0
    · rw [show (N + 1) / 2 = N / 2 from by omega]; omega
    · rw [show (N + 1) / 2 = N / 2 + 1 from by omega, fm_next (by omega)]
      have := md_bd (2000 + N / 2 / 12) (N / 2 % 12 + 1)
      omega
  · rw [stt4, stt4, fm_next h0]
    have := md_bd (2000 + N / 12) (N % 12 + 1)
    omega
theorem stt_mono {K : Int} (hK : K = 3 ∨ K = 4) {a : Int} (h0 : 0 ≤ a) : ∀ n : Nat, stt K a ≤ stt K (a + n)
  | 0 => by rw [show a + ((0 : Nat) : Int) = a from by omega]; exact Int.le_refl _
  | n + 1 => by
    have h1 := stt_mono hK h0 n
    have h2 := stt_lt hK (N := a + n) (by omega)
    rw [show a + ((n + 1 : Nat) : Int) = a + n + 1 from by omega]
    omega
theorem stt_le {K a b : Int} (hK : K = 3 ∨ K = 4) (h0 : 0 ≤ a) (h : a ≤ b) : stt K a ≤ stt K b := by
  have := stt_mono hK h0 (b - a).toNat
  rwa [show a + ((b - a).toNat : Int) = b from by omega] at this
/-- A date's day is in the period with its number. -/
theorem idx_in {K x : Int} {k m : Nat} {d : Int} (hK : K = 3 ∨ K = 4) (hc : IsCivil x k m d) : 0 ≤ idx K k m d ∧ idx K k m d < lim K ∧ stt K (idx K k m d) ≤ x ∧ x < stt K (idx K k m d + 1) := by
  obtain ⟨he, h0, h1, hd⟩ := civil_fm hc
  have hd1 := hc.d1
  have hm1 := hc.m1
  have hn := fm_next (M := 12 * (k : Int) + (m : Int) - 1) h0
  have hh := hf_bd d
  rcases hK with rfl | rfl
  · rw [idx3]
    show _ ∧ _ < 4800 ∧ _
    rw [stt3, stt3]
    unfold hf at hh ⊢
    by_cases h16 : 16 ≤ d
    · rw [if_pos h16, show ((12 * (k : Int) + (m : Int) - 1) * 2 + 1) / 2 = 12 * (k : Int) + (m : Int) - 1 from by omega, show ((12 * (k : Int) + (m : Int) - 1) * 2 + 1 + 1) / 2 = 12 * (k : Int) + (m : Int) - 1 + 1 from by omega, hn]
      omega
    · rw [if_neg h16, show ((12 * (k : Int) + (m : Int) - 1) * 2 + 0) / 2 = 12 * (k : Int) + (m : Int) - 1 from by omega, show ((12 * (k : Int) + (m : Int) - 1) * 2 + 0 + 1) / 2 = 12 * (k : Int) + (m : Int) - 1 from by omega]
      omega
  · rw [idx4]
    show _ ∧ _ < 2400 ∧ _
    rw [stt4, stt4, hn]
    omega
/-- Only one period has a day. -/
theorem idx_only {K x N M : Int} (hK : K = 3 ∨ K = 4) (hN : 0 ≤ N) (hM : 0 ≤ M) (h1 : stt K N ≤ x) (h2 : x < stt K (N + 1)) (h3 : stt K M ≤ x) (h4 : x < stt K (M + 1)) : N = M := by
  rcases Int.lt_trichotomy N M with h | h | h
  · have := stt_le hK (a := N + 1) (b := M) (by omega) (by omega); omega
  · exact h
  · have := stt_le hK (a := M + 1) (b := N) (by omega) (by omega); omega
theorem idx_stt {K N : Int} {k m : Nat} {d : Int} (hK : K = 3 ∨ K = 4) (h0 : 0 ≤ N) (hc : IsCivil (stt K N) k m d) : idx K k m d = N := by
  obtain ⟨a, _, b, c⟩ := idx_in hK hc
  exact idx_only hK a h0 b c (Int.le_refl _) (stt_lt hK h0)

/-- What Which answers of a right schedule and a day. -/
def WeekW (n A x r e : Int) : Prop := (x < A ∧ r = 0 ∧ e = 3) ∨ (A ≤ x ∧ ((73048 < A + n * ((x - A) / n) + n - 1 ∨ 5000 ≤ (x - A) / n) ∧ r = 0 ∧ e = 3 ∨ (A + n * ((x - A) / n) + n - 1 ≤ 73048 ∧ (x - A) / n < 5000) ∧ r = (x - A) / n ∧ e = 0))
def MonW (K : Int) (N Nx r e : Int) : Prop := (Nx < N ∧ r = 0 ∧ e = 3) ∨ (N ≤ Nx ∧ (5000 ≤ Nx - N ∧ r = 0 ∧ e = 3 ∨ Nx - N < 5000 ∧ r = Nx - N ∧ e = 0)) ∧ (K = 3 ∨ K = 4)
def WhichIs (K A L x r e : Int) : Prop := (schedE K A L ≠ 0 ∧ r = 0 ∧ e = schedE K A L) ∨ (schedE K A L = 0 ∧ (dayB x = false ∧ r = 0 ∧ e = 3 ∨ dayB x = true ∧ ((K ≤ 2 ∧ WeekW (7 * K) A x r e) ∨ (¬ K ≤ 2 ∧ ∃ (k m : Nat) (d : Int) (k' m' : Nat) (d' : Int), IsCivil A k m d ∧ IsCivil x k' m' d' ∧ MonW K (idx K k m d) (idx K k' m' d') r e))))
theorem WhichIs.unique {K A L x r e r' e' : Int} (h : WhichIs K A L x r e) (h' : WhichIs K A L x r' e') : r = r' ∧ e = e' := by
  rcases h with ⟨a, b, c⟩ | ⟨a, ⟨p, b, c⟩ | ⟨p, ⟨s, h⟩ | ⟨s, k, m, d, i, j, o, hc, hx, h⟩⟩⟩ <;> rcases h' with ⟨a', b', c'⟩ | ⟨a', ⟨p', b', c'⟩ | ⟨p', ⟨s', h'⟩ | ⟨s', k', m', d', i', j', o', hc', hx', h'⟩⟩⟩ <;>
  first
  | exact ⟨b.trans b'.symm, c.trans c'.symm⟩
  | exact absurd a' a
  | exact absurd a a'
  | (exfalso; rw [p] at p'; cases p'; done)
  | (exfalso; exact s' s)
  | (exfalso; exact s s')
  | skip
  · rcases h with ⟨a, b, c⟩ | ⟨a, ⟨q, b, c⟩ | ⟨q, b, c⟩⟩ <;> rcases h' with ⟨a', b', c'⟩ | ⟨a', ⟨q', b', c'⟩ | ⟨q', b', c'⟩⟩ <;>
    first
    | exact ⟨b.trans b'.symm, c.trans c'.symm⟩
    | (exfalso; omega)
  · obtain ⟨rfl, rfl, rfl⟩ := hc.unique hc'
    obtain ⟨rfl, rfl, rfl⟩ := hx.unique hx'
    rcases h with ⟨a, b, c⟩ | ⟨⟨a, ⟨q, b, c⟩ | ⟨q, b, c⟩⟩, _⟩ <;> rcases h' with ⟨a', b', c'⟩ | ⟨⟨a', ⟨q', b', c'⟩ | ⟨q', b', c'⟩⟩, _⟩ <;>
    first
    | exact ⟨b.trans b'.symm, c.trans c'.symm⟩
    | (exfalso; omega)
/-- The first period of months, or halves. -/
theorem first_mon {K A L f t e : Int} {k m : Nat} {d : Int} (hK : K = 3 ∨ K = 4) (hz : schedE K A L = 0) (hc : IsCivil A k m d) (h : AtIs K A L 0 f t e) : f = stt K (idx K k m d) ∧ e = 0 := by
  obtain ⟨h0, h1, _, _⟩ := idx_in hK hc
  have hp : PerIs K A 0 (stt K (idx K k m d)) (stt K (idx K k m d + 1) - 1) 0 := per_of_stt (N0 := idx K k m d) hK hc rfl (Int.le_refl _) (.inr ⟨by omega, by rw [Int.add_zero], by rw [Int.add_zero], rfl⟩)
  have ha : AtIs K A L 0 (stt K (idx K k m d)) (stt K (idx K k m d + 1) - 1) 0 := .inr ⟨hz, .inr ⟨⟨by omega, by omega⟩, hp⟩⟩
  obtain ⟨a, _, b⟩ := h.unique ha
  exact ⟨a, b⟩
theorem at_mon {K A L x f t e : Int} {k m k' m' : Nat} {d d' : Int} (hK : K = 3 ∨ K = 4) (hz : schedE K A L = 0) (hc : IsCivil A k m d) (hx : IsCivil x k' m' d') (hle : idx K k m d ≤ idx K k' m' d') (h : AtIs K A L (idx K k' m' d' - idx K k m d) f t e) : e = if idx K k' m' d' - idx K k m d < 5000 then 0 else 3 := by
  obtain ⟨h0, h1, _, _⟩ := idx_in hK hx
  by_cases h5 : idx K k' m' d' - idx K k m d < 5000
  · rw [if_pos h5]
    have hp : PerIs K A (idx K k' m' d' - idx K k m d) (stt K (idx K k' m' d')) (stt K (idx K k' m' d' + 1) - 1) 0 := per_of_stt (N0 := idx K k m d) hK hc rfl (by omega) (.inr ⟨by omega, by rw [show idx K k m d + (idx K k' m' d' - idx K k m d) = idx K k' m' d' from by omega], by rw [show idx K k m d + (idx K k' m' d' - idx K k m d) = idx K k' m' d' from by omega], rfl⟩)
    exact (h.unique (.inr ⟨hz, .inr ⟨⟨by omega, h5⟩, hp⟩⟩)).2.2
  · rw [if_neg h5]
    exact (h.unique (f' := 0) (t' := 0) (.inr ⟨hz, .inl ⟨.inr (by omega), rfl, rfl, rfl⟩⟩)).2.2
end Go.Proofs.Ytoaobblhmnikgaa
