/-
  Promise B1, the calendar's plain part and walks of isLong, yearDays, monthDays and their references.
-/
import Derived.Test.YtlaamfagjpdhgaaMInts
import Derived.Lib.Hide
namespace Go.Proofs.Ytlaamfagjpdhgaa
open Go.RowKit

theorem cret_bool {a b : Bool} (h : a = b) : Ending.returned (.bool a) = .returned (.bool b) := by rw [h]
theorem cret_int {k : IntKind} {a b : Int} (h : a = b) : Ending.returned (.int k a) = .returned (.int k b) := by rw [h]

/-- Has a year 366 days? -/
def lp (y : Int) : Bool := decide (y % 4 = 0 ∧ (y % 100 ≠ 0 ∨ y % 400 = 0))
def yd (y : Int) : Int := if lp y = true then 366 else 365
def md (y m : Int) : Int := if m = 2 then (if lp y = true then 29 else 28) else if m = 4 ∨ m = 6 ∨ m = 9 ∨ m = 11 then 30 else 31
/-- The day on which a year begins. -/
def ys : Nat → Int
  | 0 => 0
  | k + 1 => ys k + yd (2000 + k)
theorem lp_range {k : Nat} (h : k < 200) : lp (2000 + k) = decide (k % 4 = 0 ∧ k ≠ 100) := by
  unfold lp
  rw [Bool.eq_iff_iff]
  simp only [decide_eq_true_iff]
  omega
theorem ys_closed : ∀ k : Nat, k ≤ 200 → ys k = 365 * k + (k + 3) / 4 - (if 100 < k then 1 else 0)
  | 0, _ => by simp [ys]
  | k + 1, h => by
    have e : yd (2000 + (k : Int)) = if k % 4 = 0 ∧ k ≠ 100 then 366 else 365 := by
      unfold yd; rw [lp_range (by omega)]; simp only [decide_eq_true_iff]
    rw [ys, ys_closed k (by omega), e]
    (repeat' split) <;> omega
theorem ys_bd {k : Nat} (h : k ≤ 200) : 0 ≤ ys k ∧ ys k ≤ 73049 := by
  rw [ys_closed k h]
  split <;> omega

theorem isLong_any (y : Int) (w : World) (h0 : 0 ≤ y) : Calls Try.prog 93 #[.int .i64 y] w fun e w' => e = .returned (.bool (lp y)) ∧ w' = w := by
  by_cases h4 : y % 4 = 0
  · by_cases h1 : y % 100 = 0
    · by_cases h3 : y % 400 = 0
      · have H : Hid (lp y = true) := decide_eq_true ⟨h4, .inr h3⟩
        have b1 : (y % 4 == 0) = true := by simp [h4]
        have b2 : (y % 100 != 0) = false := by simp [h1]
        have b2' : (y % 100 == 0) = true := by simp [h1]
        have b3 : (y % 400 == 0) = true := by simp [h3]
        clear h4 h1 h3
        go_enter Try.func93, Try.ntmps93
        go_wp2
        go_ret
        exact ⟨cret_bool (by rw [H.out]), rfl⟩
      · have H : Hid (lp y = false) := decide_eq_false (by omega)
        have b1 : (y % 4 == 0) = true := by simp [h4]
        have b2 : (y % 100 != 0) = false := by simp [h1]
        have b2' : (y % 100 == 0) = true := by simp [h1]
        have b3 : (y % 400 == 0) = false := by simp [h3]
        clear h4 h1 h3
        go_enter Try.func93, Try.ntmps93
        go_wp2
        go_ret
        exact ⟨cret_bool (by rw [H.out]), rfl⟩
    · have H : Hid (lp y = true) := decide_eq_true ⟨h4, .inl h1⟩
      have b1 : (y % 4 == 0) = true := by simp [h4]
      have b2 : (y % 100 != 0) = true := by simp [h1]
      have b2' : (y % 100 == 0) = false := by simp [h1]
      clear h4 h1
      go_enter Try.func93, Try.ntmps93
      go_wp2
      go_ret
      exact ⟨cret_bool (by rw [H.out]), rfl⟩
  · have H : Hid (lp y = false) := decide_eq_false (by omega)
    have b1 : (y % 4 == 0) = false := by simp [h4]
    have b2' : (y % 100 == 0) = false := by simp; omega
    clear h4
    go_enter Try.func93, Try.ntmps93
    go_wp2
    go_ret
    exact ⟨cret_bool (by rw [H.out]), rfl⟩
theorem leap_ref (y : Int) (w : World) (h0 : 0 ≤ y) : Calls Try.prog 67 #[.int .i64 y] w fun e w' => e = .returned (.bool (lp y)) ∧ w' = w := by
  by_cases h4 : y % 4 = 0
  · by_cases h1 : y % 100 = 0
    · by_cases h3 : y % 400 = 0
      · have H : Hid (lp y = true) := decide_eq_true ⟨h4, .inr h3⟩
        have b1 : (y % 4 == 0) = true := by simp [h4]
        have b2 : (y % 100 != 0) = false := by simp [h1]
        have b2' : (y % 100 == 0) = true := by simp [h1]
        have b3 : (y % 400 == 0) = true := by simp [h3]
        clear h4 h1 h3
        go_enter Try.func67, Try.ntmps67
        go_wp2
        go_ret
        exact ⟨cret_bool (by rw [H.out]), rfl⟩
      · have H : Hid (lp y = false) := decide_eq_false (by omega)
        have b1 : (y % 4 == 0) = true := by simp [h4]
        have b2 : (y % 100 != 0) = false := by simp [h1]
        have b2' : (y % 100 == 0) = true := by simp [h1]
        have b3 : (y % 400 == 0) = false := by simp [h3]
        clear h4 h1 h3
        go_enter Try.func67, Try.ntmps67
        go_wp2
        go_ret
        exact ⟨cret_bool (by rw [H.out]), rfl⟩
    · have H : Hid (lp y = true) := decide_eq_true ⟨h4, .inl h1⟩
      have b1 : (y % 4 == 0) = true := by simp [h4]
      have b2 : (y % 100 != 0) = true := by simp [h1]
      have b2' : (y % 100 == 0) = false := by simp [h1]
      clear h4 h1
      go_enter Try.func67, Try.ntmps67
      go_wp2
      go_ret
      exact ⟨cret_bool (by rw [H.out]), rfl⟩
  · have H : Hid (lp y = false) := decide_eq_false (by omega)
    have b1 : (y % 4 == 0) = false := by simp [h4]
    have b2' : (y % 100 == 0) = false := by simp; omega
    clear h4
    go_enter Try.func67, Try.ntmps67
    go_wp2
    go_ret
    exact ⟨cret_bool (by rw [H.out]), rfl⟩

theorem yearDays_any (y : Int) (w : World) (h0 : 0 ≤ y) : Calls Try.prog 94 #[.int .i64 y] w fun e w' => e = .returned (.int .i64 (yd y)) ∧ w' = w := by
  cases h : lp y
  · have H : Hid (yd y = 365) := by unfold Hid yd; rw [if_neg (by simp [h])]
    go_enter Try.func94, Try.ntmps94
    go_wp2_with (go_at_call 93; refine (isLong_any _ _ h0).mono ?_; rintro e w' ⟨rfl, rfl⟩)
    go_ret
    exact ⟨cret_int H.out.symm, rfl⟩
  · have H : Hid (yd y = 366) := by unfold Hid yd; rw [if_pos h]
    go_enter Try.func94, Try.ntmps94
    go_wp2_with (go_at_call 93; refine (isLong_any _ _ h0).mono ?_; rintro e w' ⟨rfl, rfl⟩)
    go_ret
    exact ⟨cret_int H.out.symm, rfl⟩

theorem monthDays_any (y m : Int) (w : World) (h0 : 0 ≤ y) : Calls Try.prog 85 #[.int .i64 y, .int .i64 m] w fun e w' => e = .returned (.int .i64 (md y m)) ∧ w' = w := by
  by_cases h2 : m = 2
  · subst h2
    cases h : lp y
    · have H : Hid (md y 2 = 28) := by unfold Hid md; rw [if_pos rfl, if_neg (by simp [h])]
      go_enter Try.func85, Try.ntmps85
      go_wp2_with (go_at_call 93; refine (isLong_any _ _ h0).mono ?_; rintro e w' ⟨rfl, rfl⟩)
      go_ret
      exact ⟨cret_int H.out.symm, rfl⟩
    · have H : Hid (md y 2 = 29) := by unfold Hid md; rw [if_pos rfl, if_pos h]
      go_enter Try.func85, Try.ntmps85
      go_wp2_with (go_at_call 93; refine (isLong_any _ _ h0).mono ?_; rintro e w' ⟨rfl, rfl⟩)
      go_ret
      exact ⟨cret_int H.out.symm, rfl⟩
  · by_cases h30 : m = 4 ∨ m = 6 ∨ m = 9 ∨ m = 11
    · have H : Hid (md y m = 30) := by unfold Hid md; rw [if_neg h2, if_pos h30]
      rcases h30 with rfl | rfl | rfl | rfl
      all_goals
        go_enter Try.func85, Try.ntmps85
        go_wp2_with fail
        go_ret
        exact ⟨cret_int H.out.symm, rfl⟩
    · have H : Hid (md y m = 31) := by unfold Hid md; rw [if_neg h2, if_neg h30]
      have b2 : (m == 2) = false := by simp [h2]
      have b4 : (m == 4) = false := by simp; omega
      have b6 : (m == 6) = false := by simp; omega
      have b9 : (m == 9) = false := by simp; omega
      have b11 : (m == 11) = false := by simp; omega
      clear h2 h30
      go_enter Try.func85, Try.ntmps85
      go_wp2_with fail
      go_ret
      exact ⟨cret_int H.out.symm, rfl⟩
end Go.Proofs.Ytlaamfagjpdhgaa
