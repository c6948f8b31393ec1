/-
  Walks of money.rounded, money.isWay, money.Round, money.Part, the checks of money and rates, and of their references: each returns what the plain functions say, in any world.
-/
import Derived.Test.YtikkeidapgmcnaaMRoundW
namespace Go.Proofs.Ytikkeidapgmcnaa
open Go.RowKit

set_option maxHeartbeats 1000000 in
/-- THE PROGRAM's rounded COMES TO rd. -/
theorem rounded_any (n d way : Int) (w : World) (hd : 1 ≤ d) (hd' : d ≤ 1000000) (hn : -1000000000000000000 ≤ n) (hn' : n ≤ 1000000000000000000) (hw : 1 ≤ way ∧ way ≤ 6) :
    Calls Try.prog 30 #[.int .i64 n, .int .i64 d, .int .i64 way] w fun e w' => e = .returned (.int .i64 (rd n d way)) ∧ ∃ k, w' = w.drewN k := by
  have HQ : Hid (rdP n d way = rd n d way) := rdP_eq n d way hd hw.1 hw.2
  obtain ⟨q1, q2, q3, q4⟩ := q_bound n d hd hn hn'
  obtain ⟨a, b, c⟩ := tdiv_facts n d hd
  have r1 : -1000000 ≤ n.tmod d := by omega
  have r2 : n.tmod d ≤ 1000000 := by omega
  clear a b c q3 q4
  have d0 : (d == 0) = false := by simp; omega
  by_cases h0 : n.tmod d = 0
  · have hf : rdP n d way = n.tdiv d := by unfold rdP; rw [if_pos (Or.inl h0)]
    have HF : Hid (rd n d way = n.tdiv d) := HQ.out.symm.trans hf
    have h0' : (n.tmod d == 0) = true := by simp [h0]
    clear hf HQ h0
    go_enter Try.func30, Try.ntmps30
    go_wp2_with fail
    go_quiet (fail)
    go_wp2
    go_ret
    exact ⟨ret_int HF.out.symm, _, rfl⟩
  · have h0' : (n.tmod d == 0) = false := by simp [h0]
    cases hs : stepsB (n.tdiv d) (n.tmod d) d way
    · have hf : rdP n d way = n.tdiv d := by unfold rdP; rw [if_pos (Or.inr hs)]
      have HF : Hid (rd n d way = n.tdiv d) := HQ.out.symm.trans hf
      clear hf HQ h0
      go_enter Try.func30, Try.ntmps30
      go_wp2_with fail
      go_quiet (fail)
      go_wp2_with (go_at_call 31; refine (steps_any _ _ _ _ _ r1 r2 hw).mono ?_; rintro e w' ⟨rfl, rfl⟩)
      go_ret
      exact ⟨ret_int HF.out.symm, _, rfl⟩
    · have h1 : n < 0 → rdP n d way = n.tdiv d - 1 := fun h => by unfold rdP; rw [if_neg (by simp [h0, hs]), if_pos h]
      have h2 : 0 ≤ n → rdP n d way = n.tdiv d + 1 := fun h => by unfold rdP; rw [if_neg (by simp [h0, hs]), if_neg (by omega)]
      have HF : Hid ((n < 0 → rd n d way = n.tdiv d - 1) ∧ (0 ≤ n → rd n d way = n.tdiv d + 1)) := ⟨fun h => HQ.out.symm.trans (h1 h), fun h => HQ.out.symm.trans (h2 h)⟩
      clear h1 h2 HQ h0
      go_enter Try.func30, Try.ntmps30
      go_wp2_with fail
      go_quiet (fail)
      go_wp2_with (go_at_call 31; refine (steps_any _ _ _ _ _ r1 r2 hw).mono ?_; rintro e w' ⟨rfl, rfl⟩)
      all_goals go_ret
      · exact ⟨ret_int (HF.out.1 (by assumption)).symm, _, rfl⟩
      · exact ⟨ret_int (HF.out.2 (by assumption)).symm, _, rfl⟩

/-! ### Round -/
/-- The ways and the ranges of Round. -/
def wayB (way : Int) : Bool := decide (1 ≤ way ∧ way ≤ 6)
def rngB (n d : Int) : Bool := decide (1 ≤ d ∧ d ≤ 1000000 ∧ -1000000000000000000 ≤ n ∧ n ≤ 1000000000000000000)
/-- Round's number and its error. -/
def rvE (n d way : Int) : Int := if wayB way = true then (if rngB n d = true then 0 else 3) else 7
def rvN (n d way : Int) : Int := if wayB way = true ∧ rngB n d = true then rd n d way else 0

theorem rv_range {n d way : Int} (hw : wayB way = true) (h : rngB n d = false) : rvN n d way = 0 ∧ rvE n d way = 3 := by simp [rvN, rvE, hw, h]
theorem rv_ok {n d way : Int} (hw : wayB way = true) (h : rngB n d = true) : rvN n d way = rd n d way ∧ rvE n d way = 0 := by simp [rvN, rvE, hw, h]
theorem rv_kind {n d way : Int} (hw : wayB way = false) : rvN n d way = 0 ∧ rvE n d way = 7 := by simp [rvN, rvE, hw]

theorem isWay_any (way : Int) (w : World) : Calls Try.prog 29 #[.int .i64 way] w fun e w' => e = .returned (.bool (wayB way)) ∧ w' = w := by
  by_cases h1 : 1 ≤ way
  · by_cases h2 : way ≤ 6
    · have H : Hid (wayB way = true) := by simp [Hid, wayB, h1, h2]
      go_enter Try.func29, Try.ntmps29
      go_wp2
      go_ret
      exact ⟨ret_bool (by rw [H.out]; try (simp <;> omega)), rfl⟩
    · have H : Hid (wayB way = false) := by simp [Hid, wayB, h2]
      go_enter Try.func29, Try.ntmps29
      go_wp2
      go_ret
      exact ⟨ret_bool (by rw [H.out]; try (simp <;> omega)), rfl⟩
  · have H : Hid (wayB way = false) := by simp [Hid, wayB, h1]
    have hd : decide (1 ≤ way) = false := by simp [h1]
    go_enter Try.func29, Try.ntmps29
    go_wp2
    go_ret
    exact ⟨ret_bool (by rw [H.out]), rfl⟩

theorem ret2 {a b c d : Int} (h : a = b) (k : c = d) : Ending.returned (.tuple #[.int .i64 a, .int .i64 c]) = .returned (.tuple #[.int .i64 b, .int .i64 d]) := by rw [h, k]

set_option maxHeartbeats 1000000 in
theorem round_any (n d way : Int) (w : World) :
    Calls Try.prog 26 #[.int .i64 n, .int .i64 d, .int .i64 way] w fun e w' => e = .returned (.tuple #[.int .i64 (rvN n d way), .int .i64 (rvE n d way)]) ∧ ∃ k, w' = w.drewN k := by
  by_cases hw : 1 ≤ way ∧ way ≤ 6
  · have hwB : wayB way = true := decide_eq_true hw
    by_cases h1 : d < 1
    · have H : Hid (rvN n d way = 0 ∧ rvE n d way = 3) := rv_range hwB (by unfold rngB; exact decide_eq_false (by omega))
      go_enter Try.func26, Try.ntmps26
      go_wp2_with (go_at_call 29; refine (isWay_any _ _).mono ?_; rintro e w' ⟨rfl, rfl⟩)
      go_ret2
      exact ⟨ret2 H.out.1.symm H.out.2.symm, 0, rfl⟩
    · by_cases h2 : 1000000 < d
      · have H : Hid (rvN n d way = 0 ∧ rvE n d way = 3) := rv_range hwB (by unfold rngB; exact decide_eq_false (by omega))
        go_enter Try.func26, Try.ntmps26
        go_wp2_with (go_at_call 29; refine (isWay_any _ _).mono ?_; rintro e w' ⟨rfl, rfl⟩)
        go_ret2
        exact ⟨ret2 H.out.1.symm H.out.2.symm, 0, rfl⟩
      · by_cases h3 : n < -1000000000000000000
        · have H : Hid (rvN n d way = 0 ∧ rvE n d way = 3) := rv_range hwB (by unfold rngB; exact decide_eq_false (by omega))
          go_enter Try.func26, Try.ntmps26
          go_wp2_with (go_at_call 29; refine (isWay_any _ _).mono ?_; rintro e w' ⟨rfl, rfl⟩)
          go_ret2
          exact ⟨ret2 H.out.1.symm H.out.2.symm, 0, rfl⟩
        · by_cases h4 : 1000000000000000000 < n
          · have H : Hid (rvN n d way = 0 ∧ rvE n d way = 3) := rv_range hwB (by unfold rngB; exact decide_eq_false (by omega))
            go_enter Try.func26, Try.ntmps26
            go_wp2_with (go_at_call 29; refine (isWay_any _ _).mono ?_; rintro e w' ⟨rfl, rfl⟩)
            go_ret2
            exact ⟨ret2 H.out.1.symm H.out.2.symm, 0, rfl⟩
          · have H : Hid (rvN n d way = rd n d way ∧ rvE n d way = 0) := rv_ok hwB (by unfold rngB; exact decide_eq_true (by omega))
            go_enter Try.func26, Try.ntmps26
            go_wp2_with (first
              | (go_at_call 29; refine (isWay_any _ _).mono ?_; rintro e w' ⟨rfl, rfl⟩)
              | (go_at_call 30; refine (rounded_any n d way _ (by omega) (by omega) (by omega) (by omega) hw).mono ?_; rintro e w' ⟨rfl, k, rfl⟩))
            go_ret2
            exact ⟨ret2 H.out.1.symm H.out.2.symm, _, rfl⟩
  · have hwB : wayB way = false := decide_eq_false hw
    have H : Hid (rvN n d way = 0 ∧ rvE n d way = 7) := rv_kind hwB
    go_enter Try.func26, Try.ntmps26
    go_wp2_with (go_at_call 29; refine (isWay_any _ _).mono ?_; rintro e w' ⟨rfl, rfl⟩)
    go_ret2
    exact ⟨ret2 H.out.1.symm H.out.2.symm, 0, rfl⟩
end Go.Proofs.Ytikkeidapgmcnaa
