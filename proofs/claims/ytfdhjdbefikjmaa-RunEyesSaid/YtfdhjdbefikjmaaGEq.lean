/-
  Two runs that are the same are equal.
-/
import Derived.Test.YtfdhjdbefikjmaaGMay
import Derived.ChangeKeysEq
namespace Go.Proofs.Ytfdhjdbefikjmaa
open Go.RowKit

theorem part_who0 (w : World) (S : Nat → Int) : (part 3 #[.int .i64 (S 1), .int .i64 (S 2), .int .i64 (S 3), .int .i64 (S 4), .int .i64 (S 5), .int .i64 (S 6), .int .i64 (S 7)] 0).run Try.prog w = .ok (.int .i64 (S (1 + 0))) w := by kernel_rfl
theorem part_who1 (w : World) (S : Nat → Int) : (part 3 #[.int .i64 (S 1), .int .i64 (S 2), .int .i64 (S 3), .int .i64 (S 4), .int .i64 (S 5), .int .i64 (S 6), .int .i64 (S 7)] 1).run Try.prog w = .ok (.int .i64 (S (1 + 1))) w := by kernel_rfl
theorem part_who2 (w : World) (S : Nat → Int) : (part 3 #[.int .i64 (S 1), .int .i64 (S 2), .int .i64 (S 3), .int .i64 (S 4), .int .i64 (S 5), .int .i64 (S 6), .int .i64 (S 7)] 2).run Try.prog w = .ok (.int .i64 (S (1 + 2))) w := by kernel_rfl
theorem part_who3 (w : World) (S : Nat → Int) : (part 3 #[.int .i64 (S 1), .int .i64 (S 2), .int .i64 (S 3), .int .i64 (S 4), .int .i64 (S 5), .int .i64 (S 6), .int .i64 (S 7)] 3).run Try.prog w = .ok (.int .i64 (S (1 + 3))) w := by kernel_rfl
theorem part_who4 (w : World) (S : Nat → Int) : (part 3 #[.int .i64 (S 1), .int .i64 (S 2), .int .i64 (S 3), .int .i64 (S 4), .int .i64 (S 5), .int .i64 (S 6), .int .i64 (S 7)] 4).run Try.prog w = .ok (.int .i64 (S (1 + 4))) w := by kernel_rfl
theorem part_who5 (w : World) (S : Nat → Int) : (part 3 #[.int .i64 (S 1), .int .i64 (S 2), .int .i64 (S 3), .int .i64 (S 4), .int .i64 (S 5), .int .i64 (S 6), .int .i64 (S 7)] 5).run Try.prog w = .ok (.int .i64 (S (1 + 5))) w := by kernel_rfl
theorem part_who6 (w : World) (S : Nat → Int) : (part 3 #[.int .i64 (S 1), .int .i64 (S 2), .int .i64 (S 3), .int .i64 (S 4), .int .i64 (S 5), .int .i64 (S 6), .int .i64 (S 7)] 6).run Try.prog w = .ok (.int .i64 (S (1 + 6))) w := by kernel_rfl
set_option maxHeartbeats 1000000 in
theorem eq_who (w : World) (S : Nat → Int) : (Op.equalIn 9999 22 (.agg #[.int .i64 (S 1), .int .i64 (S 2), .int .i64 (S 3), .int .i64 (S 4), .int .i64 (S 5), .int .i64 (S 6), .int .i64 (S 7)]) (.agg #[.int .i64 (S 1), .int .i64 (S 2), .int .i64 (S 3), .int .i64 (S 4), .int .i64 (S 5), .int .i64 (S 6), .int .i64 (S 7)])).run Try.prog w = .ok true w := by
  obtain ⟨i0, hi, _, _, _⟩ := info_parts info_i
  have e := run_equalIn_array (P := Try.prog) w 9998 (#[.int .i64 (S 1), .int .i64 (S 2), .int .i64 (S 3), .int .i64 (S 4), .int .i64 (S 5), .int .i64 (S 6), .int .i64 (S 7)]) (#[.int .i64 (S 1), .int .i64 (S 2), .int .i64 (S 3), .int .i64 (S 4), .int .i64 (S 5), .int .i64 (S 6), .int .i64 (S 7)]) (t := 22) (n := 7) (e := 3) (by kernel_rfl) hi
  have hc : Try.prog.cellsOf 3 = 1 := by kernel_rfl
  have hr : List.range 7 = [0, 1, 2, 3, 4, 5, 6] := by decide
  rw [hc, hr] at e
  refine e.trans ?_
  simp only [Op.eqItems, Sem.run_bind, Nat.mul_one, part_who0, part_who1, part_who2, part_who3, part_who4, part_who5, part_who6, Result.andThen_ok, run_equalIn_int w 9997 3 .i64 .i64 _ _ Try.underlying3, BEq.rfl, Bool.not_true, Bool.false_eq_true, if_false, Sem.run_pure]
end Go.Proofs.Ytfdhjdbefikjmaa
