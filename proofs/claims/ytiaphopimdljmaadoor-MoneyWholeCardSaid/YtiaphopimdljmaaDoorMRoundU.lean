/-
  Walks of the reference's Round, of money.Part and the reference's Part, of the checks on money and rates, and of the comparisons numberIs and textIs: each returns what the plain functions say, in any world.
-/
import Derived.Test.YtiaphopimdljmaaDoorMRoundV
namespace Go.Proofs.YtiaphopimdljmaaDoor
open Go.RowKit

set_option maxHeartbeats 1000000 in
theorem round_ref (n d way : Int) (w : World) :
    Calls Tryd.prog 12 #[.int .i64 n, .int .i64 d, .int .i64 way] w fun e w' => e = .returned (.tuple #[.int .i64 (rvN n d way), .int .i64 (rvE n d way)]) ∧ w' = w := by
  by_cases w1 : way < 1
  · have H : Hid (rvN n d way = 0 ∧ rvE n d way = 7) := rv_kind (decide_eq_false (by omega))
    go_enter Tryd.func12, Tryd.ntmps12
    go_wp2_with (fail)
    go_ret2
    exact ⟨ret2 H.out.1.symm H.out.2.symm, rfl⟩
  · by_cases w6 : 6 < way
    · have H : Hid (rvN n d way = 0 ∧ rvE n d way = 7) := rv_kind (decide_eq_false (by omega))
      go_enter Tryd.func12, Tryd.ntmps12
      go_wp2_with (fail)
      go_ret2
      exact ⟨ret2 H.out.1.symm H.out.2.symm, rfl⟩
    · have hw : 1 ≤ way ∧ way ≤ 6 := by omega
      have hwB : wayB way = true := decide_eq_true hw
      by_cases h1 : d < 1
      · have H : Hid (rvN n d way = 0 ∧ rvE n d way = 3) := rv_range hwB (decide_eq_false (by omega))
        clear hw hwB
        go_enter Tryd.func12, Tryd.ntmps12
        go_wp2_with (fail)
        go_ret2
        exact ⟨ret2 H.out.1.symm H.out.2.symm, rfl⟩
      · by_cases h2 : 1000000 < d
        · have H : Hid (rvN n d way = 0 ∧ rvE n d way = 3) := rv_range hwB (decide_eq_false (by omega))
          clear hw hwB
          go_enter Tryd.func12, Tryd.ntmps12
          go_wp2_with (fail)
          go_ret2
          exact ⟨ret2 H.out.1.symm H.out.2.symm, rfl⟩
        · by_cases h3 : n < -1000000000000000000
          · have H : Hid (rvN n d way = 0 ∧ rvE n d way = 3) := rv_range hwB (decide_eq_false (by omega))
            clear hw hwB
            go_enter Tryd.func12, Tryd.ntmps12
            go_wp2_with (fail)
            go_ret2
            exact ⟨ret2 H.out.1.symm H.out.2.symm, rfl⟩
          · by_cases h4 : 1000000000000000000 < n
            · have H : Hid (rvN n d way = 0 ∧ rvE n d way = 3) := rv_range hwB (decide_eq_false (by omega))
              clear hw hwB
              go_enter Tryd.func12, Tryd.ntmps12
              go_wp2_with (fail)
              go_ret2
              exact ⟨ret2 H.out.1.symm H.out.2.symm, rfl⟩
            · have H : Hid (rvN n d way = rd n d way ∧ rvE n d way = 0) := rv_ok hwB (decide_eq_true (by omega))
              clear hwB
              go_enter Tryd.func12, Tryd.ntmps12
              go_wp2_with (go_at_call 29; refine (rounded_ref n d way _ (by omega) (by omega) (by omega) (by omega) hw).mono ?_; rintro e w' ⟨rfl, rfl⟩)
              go_ret2
              exact ⟨ret2 H.out.1.symm H.out.2.symm, rfl⟩

/-! ### The checks -/
def monB (n : Int) : Bool := decide (-1000000000000 ≤ n ∧ n ≤ 1000000000000)
def ratB (n : Int) : Bool := decide (0 ≤ n ∧ n ≤ 1000000)
theorem isMoney_any (n : Int) (w : World) : Calls Tryd.prog 31 #[.int .i64 n] w fun e w' => e = .returned (.bool (monB n)) ∧ w' = w := by
  by_cases h1 : -1000000000000 ≤ n
  · by_cases h2 : n ≤ 1000000000000
    · have H : Hid (monB n = true) := decide_eq_true ⟨h1, h2⟩
      go_enter Tryd.func31, Tryd.ntmps31
      go_wp2
      go_ret
      exact ⟨ret_bool (by rw [H.out]; try (simp <;> omega)), rfl⟩
    · have H : Hid (monB n = false) := decide_eq_false (by omega)
      go_enter Tryd.func31, Tryd.ntmps31
      go_wp2
      go_ret
      exact ⟨ret_bool (by rw [H.out]; try (simp <;> omega)), rfl⟩
  · have H : Hid (monB n = false) := decide_eq_false (by omega)
    have hd : decide (-1000000000000 ≤ n) = false := decide_eq_false h1
    go_enter Tryd.func31, Tryd.ntmps31
    go_wp2
    go_ret
    exact ⟨ret_bool (by rw [H.out]), rfl⟩
theorem isRate_any (n : Int) (w : World) : Calls Tryd.prog 32 #[.int .i64 n] w fun e w' => e = .returned (.bool (ratB n)) ∧ w' = w := by
  by_cases h1 : 0 ≤ n
  · by_cases h2 : n ≤ 1000000
    · have H : Hid (ratB n = true) := decide_eq_true ⟨h1, h2⟩
      go_enter Tryd.func32, Tryd.ntmps32
      go_wp2
      go_ret
      exact ⟨ret_bool (by rw [H.out]; try (simp <;> omega)), rfl⟩
    · have H : Hid (ratB n = false) := decide_eq_false (by omega)
      go_enter Tryd.func32, Tryd.ntmps32
      go_wp2
      go_ret
      exact ⟨ret_bool (by rw [H.out]; try (simp <;> omega)), rfl⟩
  · have H : Hid (ratB n = false) := decide_eq_false (by omega)
    have hd : decide (0 ≤ n) = false := decide_eq_false h1
    go_enter Tryd.func32, Tryd.ntmps32
    go_wp2
    go_ret
    exact ⟨ret_bool (by rw [H.out]), rfl⟩

/-! ### numberIs -/
/-- What numberIs says of an answer that is just the wanted one. -/
theorem numberIs_same (n e : Int) (w : World) (h : e ≠ 0 → n = 0) : Calls Tryd.prog 14 #[.int .i64 n, .int .i64 e, .int .i64 e, .int .i64 n] w fun r w' => r = .returned (.bool true) ∧ w' = w := by
  by_cases h0 : e = 0
  · subst h0
    go_enter Tryd.func14, Tryd.ntmps14
    go_wp2
    go_ret
    exact ⟨ret_bool (by simp), rfl⟩
  · have hn := h h0
    subst hn
    clear h
    have hb : (e != 0) = true := by simp [h0]
    go_enter Tryd.func14, Tryd.ntmps14
    go_wp2
    go_ret
    exact ⟨ret_bool (by simp), rfl⟩
end Go.Proofs.YtiaphopimdljmaaDoor
