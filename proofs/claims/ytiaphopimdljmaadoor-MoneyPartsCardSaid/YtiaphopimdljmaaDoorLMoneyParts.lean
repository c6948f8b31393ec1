/-
  The walk of the law MoneyParts: it answers true at every three ints, in every world that holds the library's table.
-/
import Derived.Test.YtiaphopimdljmaaDoorMBegun
import Derived.Test.YtiaphopimdljmaaDoorMPart
namespace Go.Proofs.YtiaphopimdljmaaDoor
open Go.RowKit

theorem walk_moneyParts (n : Int) (_ : (Lit.int .i64 n).wf = true) (d : Int) (_ : (Lit.int .i64 d).wf = true) (way : Int) (_ : (Lit.int .i64 way).wf = true) (w : World) (ht : Tab w) :
    Calls Tryd.prog 4 #[.int .i64 n, .int .i64 d, .int .i64 way] w fun e w' => e = .returned (.bool true) ∧ Below w.heap.size w w' := by
  have HT : Hid (Tab w) := ht
  have HZ : Hid (paE n d way ≠ 0 → paN n d way = 0) := pa_zero
  clear ht
  go_enter Tryd.func4, Tryd.ntmps4
  go_wp2_with fail
  refine (part_any n d way w).mono ?_
  rintro e w1 ⟨rfl, k1, rfl⟩
  go_wp2_with fail
  refine (part_ref n d way _).mono ?_
  rintro e w2 ⟨rfl, rfl⟩
  go_wp2_with fail
  refine (begun _ (HT.out.below (below_drewN w k1))).mono ?_
  rintro e w3 ⟨rfl, hb⟩
  have HB : Hid (Below w.heap.size w w3) := (below_drewN w k1).trans hb
  clear hb
  go_wp2_with fail
  refine (numberIs_same _ _ _ HZ.out).mono ?_
  rintro e w4 ⟨rfl, rfl⟩
  go_wp2_with fail
  go_ret
  exact ⟨rfl, HB.out⟩
end Go.Proofs.YtiaphopimdljmaaDoor
