/-
  Walks of money.stepsAway, money.rounded, money.isWay, money.Round, money.Part and of their references: each returns what the plain functions say, in any world, within the stated bounds.
-/
import Derived.Test.YtckealcgbjgfhaaDoorProg
import Derived.Test.YtckealcgbjgfhaaDoorMRound
import Derived.WalkKit
import Derived.WalkSpells
import Derived.WalkLawsBesides
import Derived.Deep.QuietTactic
import Derived.BigQuiet
import Derived.Outline
namespace Go.Proofs.YtckealcgbjgfhaaDoor
open Go.RowKit

theorem ret_bool {a b : Bool} (h : a = b) : Ending.returned (.bool a) = .returned (.bool b) := by rw [h]
theorem ret_int {k : IntKind} {a b : Int} (h : a = b) : Ending.returned (.int k a) = .returned (.int k b) := by rw [h]

theorem max_le {r : Int} (h : -r ≤ r) : max r (-r) = r := by omega
theorem max_lt {r : Int} (h : r < -r) : max r (-r) = -r := by omega

theorem steps_any (whole rest d way : Int) (w : World) (h1 : -1000000 ≤ rest) (h2 : rest ≤ 1000000) (hw : 1 ≤ way ∧ way ≤ 6) :
    Calls Tryd.prog 34 #[.int .i64 whole, .int .i64 rest, .int .i64 d, .int .i64 way] w fun e w' => e = .returned (.bool (stepsB whole rest d way)) ∧ w' = w := by
  have hw' : way = 1 ∨ way = 2 ∨ way = 3 ∨ way = 4 ∨ way = 5 ∨ way = 6 := by omega
  clear hw
  by_cases hr : rest < -rest
  · have hm := max_lt hr
    have HM : Hid (max rest (-rest) = -rest) := hm
    clear hm
    rcases hw' with rfl | rfl | rfl | rfl | rfl | rfl
    all_goals
      go_enter Tryd.func34, Tryd.ntmps34
      go_wp2
      all_goals go_ret
      all_goals refine ⟨ret_bool ?_, rfl⟩
      all_goals (unfold stepsB; rw [HM.out]; simp [*]; try rfl)
  · have hm := max_le (Int.not_lt.1 hr)
    have HM : Hid (max rest (-rest) = rest) := hm
    clear hm
    rcases hw' with rfl | rfl | rfl | rfl | rfl | rfl
    all_goals
      go_enter Tryd.func34, Tryd.ntmps34
      go_wp2
      all_goals go_ret
      all_goals refine ⟨ret_bool ?_, rfl⟩
      all_goals (unfold stepsB; rw [HM.out]; simp [*]; try rfl)

theorem q_bound (n d : Int) (hd : 1 ≤ d) (hn : -1000000000000000000 ≤ n) (hn' : n ≤ 1000000000000000000) :
    -1000000000000000000 ≤ n.tdiv d ∧ n.tdiv d ≤ 1000000000000000000 ∧ -1000000000000000000 ≤ n / d ∧ n / d ≤ 1000000000000000000 := by
  have h0 := rd_bound n d 3 hd hn hn'
  have h1 : -1000000000000000000 ≤ n / d := Int.le_ediv_of_mul_le (by omega) (by
    have : (-1000000000000000000) * d ≤ (-1000000000000000000) * 1 := Int.mul_le_mul_of_nonpos_left (by omega) (by omega)
    omega)
  have h2 : n / d ≤ 1000000000000000000 := by
    by_cases h : 0 ≤ n
    · exact Int.le_trans (Int.ediv_le_self d h) hn'
    · have : n / d < 0 := Int.ediv_neg_of_neg_of_pos (by omega) (by omega)
      omega
  have h3 := tdiv_floor n d hd
  rcases h3 with ⟨_, h, _⟩ | ⟨hn, _, _, h, _⟩
  · omega
  · have : n / d < 0 := Int.ediv_neg_of_neg_of_pos (by omega) (by omega)
    omega

end Go.Proofs.YtckealcgbjgfhaaDoor
