/-
  The walk of the law CalendarMonths: it answers true at every pair of ints.
-/
import Derived.Test.YtllghjmiaddekaaDoorCMonthsR
import Derived.Test.YtllghjmiaddekaaDoorCBegun
namespace Go.Proofs.YtllghjmiaddekaaDoor
open Go.RowKit Go.Maps

theorem MonE.zero {x n r e : Int} (h : MonE x n r e) (he : e ≠ 0) : r = 0 := by
  rcases h with ⟨_, b, _⟩ | ⟨_, _, k, m, d, _, ⟨_, b, _⟩ | ⟨_, _, _, c⟩⟩
  · exact b
  · exact b
  · exact absurd c he
set_option maxHeartbeats 1000000 in
theorem walk_calendarMonths (x : Int) (_ : (Lit.int .i64 x).wf = true) (n : Int) (_ : (Lit.int .i64 n).wf = true) (w : World) (ht : Tab w) :
    Calls Tryd.prog 7 #[.int .i64 x, .int .i64 n] w fun e w' => e = .returned (.bool true) ∧ Below w.heap.size w w' := by
  have HT := Lib.hid ht
  clear ht
  go_enter Tryd.func7, Tryd.ntmps7
  go_wp2_with fail
  refine (Months_any x n w).mono ?_
  rintro e w1 ⟨r, er, rfl, hE, hb1⟩
  have HB1 := Lib.hid hb1
  have HE := Lib.hid hE
  clear hb1 hE
  go_wp2_with fail
  refine (monthsOn_ref x n _).mono ?_
  rintro e w2 ⟨r', er', rfl, hE', hb2⟩
  obtain ⟨rfl, rfl⟩ := hE'.unique HE.out
  have HB2 := Lib.hid (HB1.out.trans (hb2.mono HB1.out.size))
  clear hb2 hE'
  go_wp2_with fail
  refine (begun_any _ (HT.out.below HB2.out)).mono ?_
  rintro e w3 ⟨rfl, hb3⟩
  have HB3 := Lib.hid (HB2.out.trans (hb3.mono HB2.out.size))
  clear hb3
  go_wp2_with fail
  refine (numberIs_same _ _ _ (fun h => HE.out.zero h)).mono ?_
  rintro e w4 ⟨rfl, rfl⟩
  go_wp2_with fail
  go_ret
  exact ⟨rfl, HB3.out⟩
end Go.Proofs.YtllghjmiaddekaaDoor
