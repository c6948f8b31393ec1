/-
  The walk of the law CalendarDay: it answers true at every date.
-/
import Derived.Test.YtllghjmiaddekaaDoorCRefD
namespace Go.Proofs.YtllghjmiaddekaaDoor
open Go.RowKit Go.Maps

set_option maxRecDepth 100000 in
set_option maxHeartbeats 4000000 in
theorem walk_calendarDay (y m d : Int) (_ : (Lit.int .i64 y).wf = true) (_ : (Lit.int .i64 m).wf = true) (_ : (Lit.int .i64 d).wf = true) (w : World) (ht : Tab w) :
    Calls Tryd.prog 4 #[.agg #[.int .i64 y, .int .i64 m, .int .i64 d]] w fun e w' => e = .returned (.bool true) ∧ Below w.heap.size w w' := by
  have HT := Lib.hid ht
  clear ht
  have HZ := Lib.hid ((Below.refl w.heap.size w).alloc (Nat.le_refl _) (.cells #[.int .i64 y, .int .i64 m, .int .i64 d] 23))
  cases hm : dateB y m d
  · go_enter Tryd.func4, Tryd.ntmps4
    go_wp2_with fail
    refine (Day_bad y m d _ hm).mono ?_
    rintro e w1 ⟨rfl, hb1⟩
    have HB1 := Lib.hid hb1
    clear hb1
    obtain ⟨a0, a1, a2⟩ := box_cells (by simpa using HB1.out)
    go_wp2_with fail
    refine (isDate_ref y m d _).mono ?_
    rintro e w2 ⟨rfl, hb2⟩
    have HB2 := Lib.hid (HB1.out.trans (hb2.mono HB1.out.size))
    clear hb2
    have HB2' := Lib.hid (HZ.out.trans (HB2.out.mono HZ.out.size))
    go_wp2_with fail
    refine (begun_any _ (HT.out.below HB2'.out)).mono ?_
    rintro e w3 ⟨rfl, hb3⟩
    have HB3 := Lib.hid (HB2'.out.trans (hb3.mono HB2'.out.size))
    clear hb3
    go_wp2_with fail
    refine (numberIs_same 0 3 _ (fun _ => rfl)).mono ?_
    rintro e w4 ⟨rfl, rfl⟩
    go_wp2_with fail
    go_ret
    exact ⟨rfl, HB3.out⟩
  · go_enter Tryd.func4, Tryd.ntmps4
    go_wp2_with fail
    refine (Day_ok y m d _ hm).mono ?_
    rintro e w1 ⟨rfl, hb1⟩
    have HB1 := Lib.hid hb1
    clear hb1
    obtain ⟨a0, a1, a2⟩ := box_cells (by simpa using HB1.out)
    go_wp2_with fail
    refine (isDate_ref y m d _).mono ?_
    rintro e w2 ⟨rfl, hb2⟩
    have HB2 := Lib.hid (HB1.out.trans (hb2.mono HB1.out.size))
    clear hb2
    obtain ⟨b0, b1, b2⟩ := box_cells (by simpa using HB2.out)
    go_wp2_with fail
    refine (dayOf_ref y m d _ hm).mono ?_
    rintro e w3 ⟨rfl, hb3⟩
    have HB3 := Lib.hid (HB2.out.trans (hb3.mono HB2.out.size))
    clear hb3
    have HB3' := Lib.hid (HZ.out.trans (HB3.out.mono HZ.out.size))
    go_wp2_with fail
    refine (begun_any _ (HT.out.below HB3'.out)).mono ?_
    rintro e w4 ⟨rfl, hb4⟩
    have HB4 := Lib.hid (HB3'.out.trans (hb4.mono HB3'.out.size))
    clear hb4
    go_wp2_with fail
    refine (numberIs_same _ 0 _ (fun h => absurd rfl h)).mono ?_
    rintro e w5 ⟨rfl, rfl⟩
    go_wp2_with fail
    go_ret
    exact ⟨rfl, HB4.out⟩
end Go.Proofs.YtllghjmiaddekaaDoor
