/-
  Walks of money.stepsAway, money.rounded, money.isWay, money.Round, money.Part and of their references: each returns what the plain functions say, in any world, within the stated bounds.
-/
import Derived.Test.YtikkeidapgmcnaaProg
import Derived.Test.YtikkeidapgmcnaaMRound
import Derived.WalkKit
import Derived.WalkSpells
import Derived.WalkLawsBesides
import Derived.Deep.QuietTactic
import Derived.BigQuiet
import Derived.Outline
namespace Go.Proofs.Ytikkeidapgmcnaa
open Go.RowKit

theorem ret_bool {a b : Bool} (h : a = b) : Ending.returned (.bool a) = .returned (.bool b) := by rw [h]
theorem ret_int {k : IntKind} {a b : Int} (h : a = b) : Ending.returned (.int k a) = .returned (.int k b) := by rw [h]

theorem max_le {r : Int} (h : -r ≤ r) : max r (-r) = r := by omega
theorem max_lt {r : Int} (h : r < -r) : max r (-r) = -r := by omega

theorem steps_any (whole rest d way : Int) (w : World) (h1 : -1000000 ≤ rest) (h2 : rest ≤ 1000000) (hw : 1 ≤ way ∧ way ≤ 6) :
    Calls Try.prog 31 #[.int .i64 whole, .int .i64 rest, .int .i64 d, .int .i64 way] w fun e w' => e = .returned (.bool (stepsB whole rest d way)) ∧ w' = w := by
  have hw' : way = 1 ∨ way = 2 ∨ way = 3 ∨ way = 4 ∨ way = 5 ∨ way = 6 := by omega
  clear hw
  by_cases hr : rest < -rest
  · have hm := max_lt hr
    have HM : Hid (max rest (-rest) = -rest) := hm
    clear hm
    rcases hw' with rfl | rfl | rfl | rfl | rfl | rfl
    all_goals
      go_enter Try.func31, Try.ntmps31
      go_wp2
      all_goals go_ret
      all_goals refine ⟨ret_bool ?_, rfl⟩
      all_goals (unfold stepsB; rw [HM.out]; simp [*]; try rfl)
  · have hm := max_le (Int.not_lt.1 hr)
    have HM : Hid (max rest (-rest) = rest) := hm
    clear hm
    rcases hw' with rfl | rfl | rfl | rfl | rfl | rfl
    all_goals
      go_enter Try.func31, Try.ntmps31
      go_wp2
      all_goals go_ret
      all_goals refine ⟨ret_bool ?_, rfl⟩
      all_goals (unfold stepsB; rw [HM.out]; simp [*]; try rfl)

theorem q_bound (n d : Int) (hd : 1 ≤ d) (hn : -1000000000000000000 ≤ n) (hn' : n ≤ 1000000000000000000) :
    -1000000000000000000 ≤ n.tdiv d ∧ n.tdiv d ≤ 1000000000000000000 ∧ -1000000000000000000 ≤ n / d ∧ n / d ≤ 1000000000000000000 := by
  have h0 := rd_bound n d 3 hd hn hn'
  have h1 : -1000000000000000000 ≤ n / d := Int.le_ediv_of_mul_le (by omega) (by
    have : (-1000000000000000000) * d ≤ (-1000000000000000000) * 1 := Int.mul_le_mul_of_nonpos_left (by omega) (by omega)
    omega)
  have h2 : n / d ≤ 1000000000000000000 := by
    by_cases h : 0 ≤ n
    · exact Int.le_trans (Int.ediv_le_self d h) hn'
    · have : n / d < 0 := Int.ediv_neg_of_neg_of_pos (by omega) (by omega)
      omega
  have h3 := tdiv_floor n d hd
  rcases h3 with ⟨_, h, _⟩ | ⟨hn, _, _, h, _⟩
  · omega
  · have : n / d < 0 := Int.ediv_neg_of_neg_of_pos (by omega) (by omega)
    omega

/-- Rounding by a quotient that is the floor. -/
def upQ (n d Q way : Int) : Bool :=
  if way = 1 then decide (n < 0)
  else if way = 2 then decide (0 < n)
  else if way = 4 then true
  else if way = 5 then decide (d < 2 * (n - Q * d)) || (decide (2 * (n - Q * d) = d) && decide (0 < n))
  else if way = 6 then decide (d < 2 * (n - Q * d)) || (decide (2 * (n - Q * d) = d) && decide (Q % 2 ≠ 0))
  else false
theorem rd_Q (n d Q way : Int) (hQ : n / d = Q) (hR : n % d = n - Q * d) : rd n d way = if n - Q * d = 0 then Q else if upQ n d Q way = true then Q + 1 else Q := by
  unfold rd goesUp upQ
  rw [hQ, hR]
theorem rd_Q0 (n d Q way : Int) (hQ : n / d = Q) (hR : n % d = n - Q * d) (h : n - Q * d = 0) : rd n d way = Q := by
  rw [rd_Q n d Q way hQ hR, if_pos h]
theorem rd_Qu (n d Q way : Int) (hQ : n / d = Q) (hR : n % d = n - Q * d) (h : 0 < n - Q * d) (hu : upQ n d Q way = true) : rd n d way = Q + 1 := by
  rw [rd_Q n d Q way hQ hR, if_neg (by omega), if_pos hu]
theorem rd_Qd (n d Q way : Int) (hQ : n / d = Q) (hR : n % d = n - Q * d) (h : 0 < n - Q * d) (hu : upQ n d Q way = false) : rd n d way = Q := by
  rw [rd_Q n d Q way hQ hR, if_neg (by omega), if_neg (by simp [hu])]

set_option maxHeartbeats 4000000 in
/-- The reference's Rounded, where the truncated quotient is the floor. -/
theorem rounded_ref1 (n d way : Int) (w : World) (hd : 1 ≤ d) (hd' : d ≤ 1000000) (hn : -1000000000000000000 ≤ n) (hn' : n ≤ 1000000000000000000) (hw : 1 ≤ way ∧ way ≤ 6)
    (hQ : n / d = n.tdiv d) (hR : n % d = n - n.tdiv d * d) (a1 : n.tdiv d * d ≤ n) (a2 : n - d < n.tdiv d * d) :
    Calls Try.prog 14 #[.int .i64 n, .int .i64 d, .int .i64 way] w fun e w' => e = .returned (.int .i64 (rd n d way)) ∧ w' = w := by
  have hw' : way = 1 ∨ way = 2 ∨ way = 3 ∨ way = 4 ∨ way = 5 ∨ way = 6 := by omega
  clear hw
  obtain ⟨q1, q2, q3, q4⟩ := q_bound n d hd hn hn'
  have t2 := tmod2 (n.tdiv d)
  by_cases hX : n - n.tdiv d * d = 0
  · have HQ : Hid (rd n d way = n.tdiv d) := rd_Q0 n d _ way hQ hR hX
    clear hQ hR q3 q4 hw' t2
    go_enter Try.func14, Try.ntmps14
    go_wp2
    go_ret
    exact ⟨ret_int HQ.out.symm, rfl⟩
  · have hX0 : 0 < n - n.tdiv d * d := by omega
    have HU := fun hu => rd_Qu n d _ way hQ hR hX0 hu
    have HD := fun hu => rd_Qd n d _ way hQ hR hX0 hu
    have H : Hid ((upQ n d (n.tdiv d) way = true → rd n d way = n.tdiv d + 1) ∧ (upQ n d (n.tdiv d) way = false → rd n d way = n.tdiv d)) := ⟨HU, HD⟩
    have hne : 0 < n ∨ n < 0 := by
      by_cases h : n = 0
      · subst h; simp at hX0
      · omega
    clear hQ hR q3 q4 HU HD hX
    rcases hw' with rfl | rfl | rfl | rfl | rfl | rfl
    · rcases hne with hp | hp
      · go_enter Try.func14, Try.ntmps14
        go_wp2
        go_ret
        refine ⟨ret_int ?_, rfl⟩
        first
          | (refine Eq.trans ?_ (H.out.1 (by simp [upQ] <;> omega)).symm; omega)
          | (refine Eq.trans ?_ (H.out.2 (by simp [upQ] <;> omega)).symm; omega)
      · go_enter Try.func14, Try.ntmps14
        go_wp2
        go_ret
        refine ⟨ret_int ?_, rfl⟩
        first
          | (refine Eq.trans ?_ (H.out.1 (by simp [upQ] <;> omega)).symm; omega)
          | (refine Eq.trans ?_ (H.out.2 (by simp [upQ] <;> omega)).symm; omega)
    · rcases hne with hp | hp
      · go_enter Try.func14, Try.ntmps14
        go_wp2
        go_ret
        refine ⟨ret_int ?_, rfl⟩
        first
          | (refine Eq.trans ?_ (H.out.1 (by simp [upQ] <;> omega)).symm; omega)
          | (refine Eq.trans ?_ (H.out.2 (by simp [upQ] <;> omega)).symm; omega)
      · go_enter Try.func14, Try.ntmps14
        go_wp2
        go_ret
        refine ⟨ret_int ?_, rfl⟩
        first
          | (refine Eq.trans ?_ (H.out.1 (by simp [upQ] <;> omega)).symm; omega)
          | (refine Eq.trans ?_ (H.out.2 (by simp [upQ] <;> omega)).symm; omega)
    · go_enter Try.func14, Try.ntmps14
      go_wp2
      go_ret
      refine ⟨ret_int ?_, rfl⟩
      first
        | (refine Eq.trans ?_ (H.out.1 (by simp [upQ] <;> omega)).symm; omega)
        | (refine Eq.trans ?_ (H.out.2 (by simp [upQ] <;> omega)).symm; omega)
    · go_enter Try.func14, Try.ntmps14
      go_wp2
      go_ret
      refine ⟨ret_int ?_, rfl⟩
      first
        | (refine Eq.trans ?_ (H.out.1 (by simp [upQ] <;> omega)).symm; omega)
        | (refine Eq.trans ?_ (H.out.2 (by simp [upQ] <;> omega)).symm; omega)
    · rcases Int.lt_trichotomy (2 * (n - n.tdiv d * d)) d with hl | hl | hl
      · go_enter Try.func14, Try.ntmps14
        go_wp2
        go_ret
        refine ⟨ret_int ?_, rfl⟩
        first
          | (refine Eq.trans ?_ (H.out.1 (by simp [upQ] <;> omega)).symm; omega)
          | (refine Eq.trans ?_ (H.out.2 (by simp [upQ] <;> omega)).symm; omega)
      · rcases hne with hp | hp
        · go_enter Try.func14, Try.ntmps14
          go_wp2
          go_ret
          refine ⟨ret_int ?_, rfl⟩
          first
            | (refine Eq.trans ?_ (H.out.1 (by simp [upQ] <;> omega)).symm; omega)
            | (refine Eq.trans ?_ (H.out.2 (by simp [upQ] <;> omega)).symm; omega)
        · go_enter Try.func14, Try.ntmps14
          go_wp2
          go_ret
          refine ⟨ret_int ?_, rfl⟩
          first
            | (refine Eq.trans ?_ (H.out.1 (by simp [upQ] <;> omega)).symm; omega)
            | (refine Eq.trans ?_ (H.out.2 (by simp [upQ] <;> omega)).symm; omega)
      · go_enter Try.func14, Try.ntmps14
        go_wp2
        go_ret
        refine ⟨ret_int ?_, rfl⟩
        first
          | (refine Eq.trans ?_ (H.out.1 (by simp [upQ] <;> omega)).symm; omega)
          | (refine Eq.trans ?_ (H.out.2 (by simp [upQ] <;> omega)).symm; omega)
    · rcases Int.lt_trichotomy (2 * (n - n.tdiv d * d)) d with hl | hl | hl
      · go_enter Try.func14, Try.ntmps14
        go_wp2
        go_ret
        refine ⟨ret_int ?_, rfl⟩
        first
          | (refine Eq.trans ?_ (H.out.1 (by simp [upQ] <;> omega)).symm; omega)
          | (refine Eq.trans ?_ (H.out.2 (by simp [upQ] <;> omega)).symm; omega)
      · by_cases hp : (n.tdiv d).tmod 2 = 0
        · go_enter Try.func14, Try.ntmps14
          go_wp2
          go_ret
          refine ⟨ret_int ?_, rfl⟩
          first
            | (refine Eq.trans ?_ (H.out.1 (by simp [upQ] <;> omega)).symm; omega)
            | (refine Eq.trans ?_ (H.out.2 (by simp [upQ] <;> omega)).symm; omega)
        · go_enter Try.func14, Try.ntmps14
          go_wp2
          go_ret
          refine ⟨ret_int ?_, rfl⟩
          first
            | (refine Eq.trans ?_ (H.out.1 (by simp [upQ] <;> omega)).symm; omega)
            | (refine Eq.trans ?_ (H.out.2 (by simp [upQ] <;> omega)).symm; omega)
      · go_enter Try.func14, Try.ntmps14
        go_wp2
        go_ret
        refine ⟨ret_int ?_, rfl⟩
        first
          | (refine Eq.trans ?_ (H.out.1 (by simp [upQ] <;> omega)).symm; omega)
          | (refine Eq.trans ?_ (H.out.2 (by simp [upQ] <;> omega)).symm; omega)

set_option maxHeartbeats 4000000 in
/-- The reference's Rounded, where the floor is one below the truncated quotient. -/
theorem rounded_ref2 (n d way : Int) (w : World) (hd : 1 ≤ d) (hd' : d ≤ 1000000) (hn : -1000000000000000000 ≤ n) (hn' : n ≤ 1000000000000000000) (hw : 1 ≤ way ∧ way ≤ 6)
    (hQ : n / d = n.tdiv d - 1) (hR : n % d = n - (n.tdiv d - 1) * d) (hX0 : 0 < n - (n.tdiv d - 1) * d) (hX1 : n - (n.tdiv d - 1) * d < d) (a1 : n < n.tdiv d * d) (a2 : n.tdiv d * d < n + d) (hp : n < 0) :
    Calls Try.prog 14 #[.int .i64 n, .int .i64 d, .int .i64 way] w fun e w' => e = .returned (.int .i64 (rd n d way)) ∧ w' = w := by
  have hw' : way = 1 ∨ way = 2 ∨ way = 3 ∨ way = 4 ∨ way = 5 ∨ way = 6 := by omega
  clear hw
  obtain ⟨q1, q2, q3, q4⟩ := q_bound n d hd hn hn'
  have t2 := tmod2 (n.tdiv d - 1)
  have q5 : -1000000000000000000 ≤ n.tdiv d - 1 := by omega
  have HU := fun hu => rd_Qu n d _ way hQ hR hX0 hu
  have HD := fun hu => rd_Qd n d _ way hQ hR hX0 hu
  have H : Hid ((upQ n d (n.tdiv d - 1) way = true → rd n d way = n.tdiv d - 1 + 1) ∧ (upQ n d (n.tdiv d - 1) way = false → rd n d way = n.tdiv d - 1)) := ⟨HU, HD⟩
  clear hQ hR q3 q4 HU HD
  rcases hw' with rfl | rfl | rfl | rfl | rfl | rfl
  · go_enter Try.func14, Try.ntmps14
    go_wp2
    go_ret
    refine ⟨ret_int ?_, rfl⟩
    first
      | (refine Eq.trans ?_ (H.out.1 (by simp [upQ] <;> omega)).symm; omega)
      | (refine Eq.trans ?_ (H.out.2 (by simp [upQ] <;> omega)).symm; omega)
  · go_enter Try.func14, Try.ntmps14
    go_wp2
    go_ret
    refine ⟨ret_int ?_, rfl⟩
    first
      | (refine Eq.trans ?_ (H.out.1 (by simp [upQ] <;> omega)).symm; omega)
      | (refine Eq.trans ?_ (H.out.2 (by simp [upQ] <;> omega)).symm; omega)
  · go_enter Try.func14, Try.ntmps14
    go_wp2
    go_ret
    refine ⟨ret_int ?_, rfl⟩
    first
      | (refine Eq.trans ?_ (H.out.1 (by simp [upQ] <;> omega)).symm; omega)
      | (refine Eq.trans ?_ (H.out.2 (by simp [upQ] <;> omega)).symm; omega)
  · go_enter Try.func14, Try.ntmps14
    go_wp2
    go_ret
    refine ⟨ret_int ?_, rfl⟩
    first
      | (refine Eq.trans ?_ (H.out.1 (by simp [upQ] <;> omega)).symm; omega)
      | (refine Eq.trans ?_ (H.out.2 (by simp [upQ] <;> omega)).symm; omega)
  · rcases Int.lt_trichotomy (2 * (n - (n.tdiv d - 1) * d)) d with hl | hl | hl
    · go_enter Try.func14, Try.ntmps14
      go_wp2
      go_ret
      refine ⟨ret_int ?_, rfl⟩
      first
        | (refine Eq.trans ?_ (H.out.1 (by simp [upQ] <;> omega)).symm; omega)
        | (refine Eq.trans ?_ (H.out.2 (by simp [upQ] <;> omega)).symm; omega)
    · go_enter Try.func14, Try.ntmps14
      go_wp2
      go_ret
      refine ⟨ret_int ?_, rfl⟩
      first
        | (refine Eq.trans ?_ (H.out.1 (by simp [upQ] <;> omega)).symm; omega)
        | (refine Eq.trans ?_ (H.out.2 (by simp [upQ] <;> omega)).symm; omega)
    · go_enter Try.func14, Try.ntmps14
      go_wp2
      go_ret
      refine ⟨ret_int ?_, rfl⟩
      first
        | (refine Eq.trans ?_ (H.out.1 (by simp [upQ] <;> omega)).symm; omega)
        | (refine Eq.trans ?_ (H.out.2 (by simp [upQ] <;> omega)).symm; omega)
  · rcases Int.lt_trichotomy (2 * (n - (n.tdiv d - 1) * d)) d with hl | hl | hl
    · go_enter Try.func14, Try.ntmps14
      go_wp2
      go_ret
      refine ⟨ret_int ?_, rfl⟩
      first
        | (refine Eq.trans ?_ (H.out.1 (by simp [upQ] <;> omega)).symm; omega)
        | (refine Eq.trans ?_ (H.out.2 (by simp [upQ] <;> omega)).symm; omega)
    · by_cases hp : (n.tdiv d - 1).tmod 2 = 0
      · go_enter Try.func14, Try.ntmps14
        go_wp2
        go_ret
        refine ⟨ret_int ?_, rfl⟩
        first
          | (refine Eq.trans ?_ (H.out.1 (by simp [upQ] <;> omega)).symm; omega)
          | (refine Eq.trans ?_ (H.out.2 (by simp [upQ] <;> omega)).symm; omega)
      · go_enter Try.func14, Try.ntmps14
        go_wp2
        go_ret
        refine ⟨ret_int ?_, rfl⟩
        first
          | (refine Eq.trans ?_ (H.out.1 (by simp [upQ] <;> omega)).symm; omega)
          | (refine Eq.trans ?_ (H.out.2 (by simp [upQ] <;> omega)).symm; omega)
    · go_enter Try.func14, Try.ntmps14
      go_wp2
      go_ret
      refine ⟨ret_int ?_, rfl⟩
      first
        | (refine Eq.trans ?_ (H.out.1 (by simp [upQ] <;> omega)).symm; omega)
        | (refine Eq.trans ?_ (H.out.2 (by simp [upQ] <;> omega)).symm; omega)

/-- THE REFERENCE's Rounded COMES TO rd. -/
theorem rounded_ref (n d way : Int) (w : World) (hd : 1 ≤ d) (hd' : d ≤ 1000000) (hn : -1000000000000000000 ≤ n) (hn' : n ≤ 1000000000000000000) (hw : 1 ≤ way ∧ way ≤ 6) :
    Calls Try.prog 14 #[.int .i64 n, .int .i64 d, .int .i64 way] w fun e w' => e = .returned (.int .i64 (rd n d way)) ∧ w' = w := by
  obtain ⟨e, f, g⟩ := ediv_facts n d hd
  rcases tdiv_floor n d hd with ⟨_, h, _⟩ | ⟨hneg, h0, _, h, _⟩
  · exact rounded_ref1 n d way w hd hd' hn hn' hw h.symm (by rw [h]; omega) (by rw [h]; omega) (by rw [h]; omega)
  · have e2 : (n.tdiv d - 1) * d = n / d * d := by rw [h]; congr 1; omega
    have e3 : n.tdiv d * d = n / d * d + d := by rw [h, Int.add_mul, Int.one_mul]
    exact rounded_ref2 n d way w hd hd' hn hn' hw (by omega) (by omega) (by omega) (by omega) (by omega) (by omega) hneg

end Go.Proofs.Ytikkeidapgmcnaa
