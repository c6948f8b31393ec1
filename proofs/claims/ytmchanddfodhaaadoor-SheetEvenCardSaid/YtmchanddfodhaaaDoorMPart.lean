/-
  Walks of money.Part and the reference's Part: each returns the part, or the error, at every three ints.
-/
import Derived.Test.YtmchanddfodhaaaDoorMRoundU
namespace Go.Proofs.YtmchanddfodhaaaDoor
open Go.RowKit

theorem isMoney_ref (n : Int) (w : World) : Calls Tryd.prog 24 #[.int .i64 n] w fun e w' => e = .returned (.bool (monB n)) ∧ w' = w := by
  by_cases h1 : -1000000000000 ≤ n
  · by_cases h2 : n ≤ 1000000000000
    · have H : Hid (monB n = true) := decide_eq_true ⟨h1, h2⟩
      go_enter Tryd.func24, Tryd.ntmps24
      go_wp2
      go_ret
      exact ⟨ret_bool (by rw [H.out]; try (simp <;> omega)), rfl⟩
    · have H : Hid (monB n = false) := decide_eq_false (by omega)
      go_enter Tryd.func24, Tryd.ntmps24
      go_wp2
      go_ret
      exact ⟨ret_bool (by rw [H.out]; try (simp <;> omega)), rfl⟩
  · have H : Hid (monB n = false) := decide_eq_false (by omega)
    have hd : decide (-1000000000000 ≤ n) = false := decide_eq_false h1
    go_enter Tryd.func24, Tryd.ntmps24
    go_wp2
    go_ret
    exact ⟨ret_bool (by rw [H.out]), rfl⟩

def paE (a r way : Int) : Int := if wayB way = true then (if monB a = true ∧ ratB r = true then 0 else 3) else 7
def paN (a r way : Int) : Int := if wayB way = true ∧ monB a = true ∧ ratB r = true then rd (a * r) 10000 way else 0
theorem pa_zero {a r way : Int} (h : paE a r way ≠ 0) : paN a r way = 0 := by
  unfold paE at h
  unfold paN
  rw [if_neg]
  rintro ⟨h1, h2⟩
  simp [h1, h2] at h
theorem monB_iff {x : Int} : monB x = true ↔ -1000000000000 ≤ x ∧ x ≤ 1000000000000 := by unfold monB; exact decide_eq_true_iff
theorem ratB_iff' {x : Int} : ratB x = true ↔ 0 ≤ x ∧ x ≤ 1000000 := by unfold ratB; exact decide_eq_true_iff
theorem prod_bd {a r : Int} (h1 : -1000000000000 ≤ a) (h2 : a ≤ 1000000000000) (h3 : 0 ≤ r) (h4 : r ≤ 1000000) : -1000000000000000000 ≤ a * r ∧ a * r ≤ 1000000000000000000 := by
  have x1 : a * r ≤ 1000000000000 * r := Int.mul_le_mul_of_nonneg_right h2 h3
  have x2 : -1000000000000 * r ≤ a * r := Int.mul_le_mul_of_nonneg_right h1 h3
  omega

end Go.Proofs.YtmchanddfodhaaaDoor
