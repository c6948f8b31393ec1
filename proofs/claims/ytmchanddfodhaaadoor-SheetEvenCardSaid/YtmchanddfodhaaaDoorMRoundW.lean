/-
  Walks of money.stepsAway, money.rounded, money.isWay, money.Round, money.Part and of their references: each returns what the plain functions say, in any world, within the stated bounds.
-/
import Derived.Test.YtmchanddfodhaaaDoorProg
import Derived.Test.YtmchanddfodhaaaDoorMRound
import Derived.WalkKit
import Derived.WalkSpells
import Derived.WalkLawsBesides
import Derived.Deep.QuietTactic
import Derived.BigQuiet
import Derived.Outline
namespace Go.Proofs.YtmchanddfodhaaaDoor
open Go.RowKit

theorem ret_bool {a b : Bool} (h : a = b) : Ending.returned (.bool a) = .returned (.bool b) := by rw [h]
theorem ret_int {k : IntKind} {a b : Int} (h : a = b) : Ending.returned (.int k a) = .returned (.int k b) := by rw [h]

theorem max_le {r : Int} (h : -r ≤ r) : max r (-r) = r := by omega
theorem max_lt {r : Int} (h : r < -r) : max r (-r) = -r := by omega

theorem q_bound (n d : Int) (hd : 1 ≤ d) (hn : -1000000000000000000 ≤ n) (hn' : n ≤ 1000000000000000000) :
    -1000000000000000000 ≤ n.tdiv d ∧ n.tdiv d ≤ 1000000000000000000 ∧ -1000000000000000000 ≤ n / d ∧ n / d ≤ 1000000000000000000 := by
  have h0 := rd_bound n d 3 hd hn hn'
  have h1 : -1000000000000000000 ≤ n / d := Int.le_ediv_of_mul_le (by omega) (by
    have : (-1000000000000000000) * d ≤ (-1000000000000000000) * 1 := Int.mul_le_mul_of_nonpos_left (by omega) (by omega)
    omega)
  have h2 : n / d ≤ 1000000000000000000 := by
    by_cases h : 0 ≤ n
    · exact Int.le_trans (Int.ediv_le_self d h) hn'
    · have : n / d < 0 := Int.ediv_neg_of_neg_of_pos (by omega) (by omega)
      omega
  have h3 := tdiv_floor n d hd
  rcases h3 with ⟨_, h, _⟩ | ⟨hn, _, _, h, _⟩
  · omega
  · have : n / d < 0 := Int.ediv_neg_of_neg_of_pos (by omega) (by omega)
    omega

end Go.Proofs.YtmchanddfodhaaaDoor
