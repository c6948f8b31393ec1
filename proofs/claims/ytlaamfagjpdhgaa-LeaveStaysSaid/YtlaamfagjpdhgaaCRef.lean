/-
  Promise B1: walks of the reference's calendar: MonthDays, Civil, DayOf, IsDate, WeekdayOf; of the law's dayIs and numberIs.
-/
import Derived.Test.YtlaamfagjpdhgaaCWork
namespace Go.Proofs.Ytlaamfagjpdhgaa
open Go.RowKit Go.Maps

theorem numberIs_same (n e : Int) (w : World) (h : e ≠ 0 → n = 0) : Calls Try.prog 21 #[.int .i64 n, .int .i64 e, .int .i64 e, .int .i64 n] w fun r w' => r = .returned (.bool true) ∧ w' = w := by
  by_cases h0 : e = 0
  · subst h0
    go_enter Try.func21, Try.ntmps21
    go_wp2
    go_ret
    exact ⟨cret_bool (by simp), rfl⟩
  · have hn := h h0
    subst hn
    clear h
    have hb : (e != 0) = true := by simp [h0]
    go_enter Try.func21, Try.ntmps21
    go_wp2
    go_ret
    exact ⟨cret_bool (by simp), rfl⟩
theorem isDay_ref (n : Int) (w : World) : Calls Try.prog 39 #[.int .i64 n] w fun e w' => e = .returned (.bool (dayB n)) ∧ w' = w := by
  by_cases h1 : 0 ≤ n
  · by_cases h2 : n ≤ 73048
    · have H : Hid (dayB n = true) := decide_eq_true ⟨h1, h2⟩
      go_enter Try.func39, Try.ntmps39
      go_wp2
      go_ret
      exact ⟨cret_bool (by rw [H.out]; try (simp <;> omega)), rfl⟩
    · have H : Hid (dayB n = false) := decide_eq_false (by omega)
      go_enter Try.func39, Try.ntmps39
      go_wp2
      go_ret
      exact ⟨cret_bool (by rw [H.out]; try (simp <;> omega)), rfl⟩
  · have H : Hid (dayB n = false) := decide_eq_false (by omega)
    have hd : decide (0 ≤ n) = false := decide_eq_false h1
    go_enter Try.func39, Try.ntmps39
    go_wp2
    go_ret
    exact ⟨cret_bool (by rw [H.out]), rfl⟩
theorem weekday_ref (n : Int) (w : World) (h0 : 0 ≤ n) (h1 : n ≤ 1000000) : Calls Try.prog 79 #[.int .i64 n] w fun e w' => e = .returned (.int .i64 (wkd n)) ∧ w' = w := by
  go_enter Try.func79, Try.ntmps79
  go_wp2
  go_ret
  exact ⟨rfl, rfl⟩

set_option maxHeartbeats 1000000 in
theorem monthDays_ref (y m : Int) (w : World) (h0 : 0 ≤ y) (h1 : 1 ≤ m) (h2 : m ≤ 12) : Calls Try.prog 68 #[.int .i64 y, .int .i64 m] w fun e w' => e = .returned (.int .i64 (md y m)) ∧ Below w.heap.size w w' := by
  have hc : m = 1 ∨ m = 2 ∨ m = 3 ∨ m = 4 ∨ m = 5 ∨ m = 6 ∨ m = 7 ∨ m = 8 ∨ m = 9 ∨ m = 10 ∨ m = 11 ∨ m = 12 := by omega
  clear h1 h2
  rcases hc with rfl | rfl | rfl | rfl | rfl | rfl | rfl | rfl | rfl | rfl | rfl | rfl
  · go_enter Try.func68, Try.ntmps68
    go_wp2_with fail
    go_ret
    exact ⟨cret_int (by simp [md]), (Below.refl _ _).alloc (Nat.le_refl _) _⟩
  · cases hl : lp y
    · go_enter Try.func68, Try.ntmps68
      go_wp2_with (go_at_call 67; refine (leap_ref _ _ h0).mono ?_; rintro e w' ⟨rfl, rfl⟩)
      go_ret
      exact ⟨cret_int (by simp [md, hl]), (Below.refl _ _).alloc (Nat.le_refl _) _⟩
    · go_enter Try.func68, Try.ntmps68
      go_wp2_with (go_at_call 67; refine (leap_ref _ _ h0).mono ?_; rintro e w' ⟨rfl, rfl⟩)
      go_ret
      exact ⟨cret_int (by simp [md, hl]), (Below.refl _ _).alloc (Nat.le_refl _) _⟩
  · go_enter Try.func68, Try.ntmps68
    go_wp2_with fail
    go_ret
    exact ⟨cret_int (by simp [md]), (Below.refl _ _).alloc (Nat.le_refl _) _⟩
  · go_enter Try.func68, Try.ntmps68
    go_wp2_with fail
    go_ret
    exact ⟨cret_int (by simp [md]), (Below.refl _ _).alloc (Nat.le_refl _) _⟩
  · go_enter Try.func68, Try.ntmps68
    go_wp2_with fail
    go_ret
    exact ⟨cret_int (by simp [md]), (Below.refl _ _).alloc (Nat.le_refl _) _⟩
  · go_enter Try.func68, Try.ntmps68
    go_wp2_with fail
    go_ret
    exact ⟨cret_int (by simp [md]), (Below.refl _ _).alloc (Nat.le_refl _) _⟩
  · go_enter Try.func68, Try.ntmps68
    go_wp2_with fail
    go_ret
    exact ⟨cret_int (by simp [md]), (Below.refl _ _).alloc (Nat.le_refl _) _⟩
  · go_enter Try.func68, Try.ntmps68
    go_wp2_with fail
    go_ret
    exact ⟨cret_int (by simp [md]), (Below.refl _ _).alloc (Nat.le_refl _) _⟩
  · go_enter Try.func68, Try.ntmps68
    go_wp2_with fail
    go_ret
    exact ⟨cret_int (by simp [md]), (Below.refl _ _).alloc (Nat.le_refl _) _⟩
  · go_enter Try.func68, Try.ntmps68
    go_wp2_with fail
    go_ret
    exact ⟨cret_int (by simp [md]), (Below.refl _ _).alloc (Nat.le_refl _) _⟩
  · go_enter Try.func68, Try.ntmps68
    go_wp2_with fail
    go_ret
    exact ⟨cret_int (by simp [md]), (Below.refl _ _).alloc (Nat.le_refl _) _⟩
  · go_enter Try.func68, Try.ntmps68
    go_wp2_with fail
    go_ret
    exact ⟨cret_int (by simp [md]), (Below.refl _ _).alloc (Nat.le_refl _) _⟩

theorem yd_cases (y : Int) : (lp y = true ∧ yd y = 366) ∨ (lp y = false ∧ yd y = 365) := by
  unfold yd
  cases lp y <;> simp
end Go.Proofs.Ytlaamfagjpdhgaa
