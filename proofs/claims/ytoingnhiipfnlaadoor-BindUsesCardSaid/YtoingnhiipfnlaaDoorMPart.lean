/-
  Walks of money.Part and the reference's Part: each returns the part, or the error, at every three ints.
-/
import Derived.Test.YtoingnhiipfnlaaDoorMRoundU
namespace Go.Proofs.YtoingnhiipfnlaaDoor
open Go.RowKit

theorem isMoney_ref (n : Int) (w : World) : Calls Tryd.prog 24 #[.int .i64 n] w fun e w' => e = .returned (.bool (monB n)) ∧ w' = w := by
  by_cases h1 : -1000000000000 ≤ n
  · by_cases h2 : n ≤ 1000000000000
    · have H : Hid (monB n = true) := decide_eq_true ⟨h1, h2⟩
      go_enter Tryd.func24, Tryd.ntmps24
      go_wp2
      go_ret
      exact ⟨ret_bool (by rw [H.out]; try (simp <;> omega)), rfl⟩
    · have H : Hid (monB n = false) := decide_eq_false (by omega)
      go_enter Tryd.func24, Tryd.ntmps24
      go_wp2
      go_ret
      exact ⟨ret_bool (by rw [H.out]; try (simp <;> omega)), rfl⟩
  · have H : Hid (monB n = false) := decide_eq_false (by omega)
    have hd : decide (-1000000000000 ≤ n) = false := decide_eq_false h1
    go_enter Tryd.func24, Tryd.ntmps24
    go_wp2
    go_ret
    exact ⟨ret_bool (by rw [H.out]), rfl⟩

def paE (a r way : Int) : Int := if wayB way = true then (if monB a = true ∧ ratB r = true then 0 else 3) else 7
def paN (a r way : Int) : Int := if wayB way = true ∧ monB a = true ∧ ratB r = true then rd (a * r) 10000 way else 0
theorem pa_zero {a r way : Int} (h : paE a r way ≠ 0) : paN a r way = 0 := by
  unfold paE at h
  unfold paN
  rw [if_neg]
  rintro ⟨h1, h2⟩
  simp [h1, h2] at h
theorem monB_iff {x : Int} : monB x = true ↔ -1000000000000 ≤ x ∧ x ≤ 1000000000000 := by unfold monB; exact decide_eq_true_iff
theorem ratB_iff' {x : Int} : ratB x = true ↔ 0 ≤ x ∧ x ≤ 1000000 := by unfold ratB; exact decide_eq_true_iff
theorem prod_bd {a r : Int} (h1 : -1000000000000 ≤ a) (h2 : a ≤ 1000000000000) (h3 : 0 ≤ r) (h4 : r ≤ 1000000) : -1000000000000000000 ≤ a * r ∧ a * r ≤ 1000000000000000000 := by
  have x1 : a * r ≤ 1000000000000 * r := Int.mul_le_mul_of_nonneg_right h2 h3
  have x2 : -1000000000000 * r ≤ a * r := Int.mul_le_mul_of_nonneg_right h1 h3
  omega

set_option maxHeartbeats 1000000 in
theorem part_any (a r way : Int) (w : World) :
    Calls Tryd.prog 109 #[.int .i64 a, .int .i64 r, .int .i64 way] w fun e w' => e = .returned (.tuple #[.int .i64 (paN a r way), .int .i64 (paE a r way)]) ∧ ∃ k, w' = w.drewN k := by
  cases hw : wayB way
  · have H : Hid (paN a r way = 0 ∧ paE a r way = 7) := by simp [Hid, paN, paE, hw]
    go_enter Tryd.func109, Tryd.ntmps109
    go_wp2_with (go_at_call 112; refine (isWay_any _ _).mono ?_; rintro e w' ⟨rfl, rfl⟩)
    go_ret2
    exact ⟨ret2 H.out.1.symm H.out.2.symm, 0, rfl⟩
  · cases hm : monB a
    · have H : Hid (paN a r way = 0 ∧ paE a r way = 3) := by simp [Hid, paN, paE, hw, hm]
      go_enter Tryd.func109, Tryd.ntmps109
      go_wp2_with (first | (go_at_call 112; refine (isWay_any _ _).mono ?_; rintro e w' ⟨rfl, rfl⟩) | (go_at_call 59; refine (isMoney_any _ _).mono ?_; rintro e w' ⟨rfl, rfl⟩))
      go_ret2
      exact ⟨ret2 H.out.1.symm H.out.2.symm, 0, rfl⟩
    · cases hr : ratB r
      · have H : Hid (paN a r way = 0 ∧ paE a r way = 3) := by simp [Hid, paN, paE, hw, hm, hr]
        go_enter Tryd.func109, Tryd.ntmps109
        go_wp2_with (first | (go_at_call 112; refine (isWay_any _ _).mono ?_; rintro e w' ⟨rfl, rfl⟩) | (go_at_call 59; refine (isMoney_any _ _).mono ?_; rintro e w' ⟨rfl, rfl⟩) | (go_at_call 113; refine (isRate_any _ _).mono ?_; rintro e w' ⟨rfl, rfl⟩))
        go_ret2
        exact ⟨ret2 H.out.1.symm H.out.2.symm, 0, rfl⟩
      · have H : Hid (paN a r way = rd (a * r) 10000 way ∧ paE a r way = 0) := by simp [Hid, paN, paE, hw, hm, hr]
        obtain ⟨m1, m2⟩ := monB_iff.1 hm
        obtain ⟨r1, r2⟩ := ratB_iff'.1 hr
        obtain ⟨p1, p2⟩ := prod_bd m1 m2 r1 r2
        have hw' : 1 ≤ way ∧ way ≤ 6 := of_decide_eq_true hw
        go_enter Tryd.func109, Tryd.ntmps109
        go_wp2_with (first | (go_at_call 112; refine (isWay_any _ _).mono ?_; rintro e w' ⟨rfl, rfl⟩) | (go_at_call 59; refine (isMoney_any _ _).mono ?_; rintro e w' ⟨rfl, rfl⟩) | (go_at_call 113; refine (isRate_any _ _).mono ?_; rintro e w' ⟨rfl, rfl⟩) | (go_at_call 114; refine (rounded_any (a * r) 10000 way _ (by omega) (by omega) p1 p2 hw').mono ?_; rintro e w' ⟨rfl, k, rfl⟩))
        go_ret2
        exact ⟨ret2 H.out.1.symm H.out.2.symm, _, rfl⟩

end Go.Proofs.YtoingnhiipfnlaaDoor
