/-
  The walk of the law CalendarPrints: it answers true at every int.
-/
import Derived.Test.YtllghjmiaddekaaDoorCDigits
import Derived.Test.YtllghjmiaddekaaDoorCBegun
namespace Go.Proofs.YtllghjmiaddekaaDoor
open Go.RowKit Go.Maps

theorem textIs_same (s : ByteArray) (e : Int) (w : World) (h : e ≠ 0 → s = ⟨#[]⟩) : Calls Tryd.prog 25 #[.string s, .int .i64 e, .int .i64 e, .string s] w fun r w' => r = .returned (.bool true) ∧ w' = w := by
  by_cases h0 : e = 0
  · subst h0
    clear h
    go_enter Tryd.func25, Tryd.ntmps25
    go_wp2
    go_ret
    exact ⟨cret_bool (by simp), rfl⟩
  · have hn := h h0
    subst hn
    clear h
    have hb : (e != 0) = true := by simp [h0]
    go_enter Tryd.func25, Tryd.ntmps25
    go_wp2
    go_ret
    exact ⟨cret_bool (by simp), rfl⟩

set_option maxHeartbeats 1000000 in
theorem walk_calendarPrints (n : Int) (_ : (Lit.int .i64 n).wf = true) (w : World) (ht : Tab w) :
    Calls Tryd.prog 5 #[.int .i64 n] w fun e w' => e = .returned (.bool true) ∧ Below w.heap.size w w' := by
  have HT := Lib.hid ht
  clear ht
  cases hm : dayB n
  · have hE : dayE n = 3 := by unfold dayE; rw [hm]; rfl
    go_enter Tryd.func5, Tryd.ntmps5
    go_wp2_with fail
    refine (print_bad n w hm).mono ?_
    rintro e w1 ⟨rfl, hb1⟩
    have HB1 := Lib.hid hb1
    clear hb1
    go_wp2_with (go_at_call 15; refine (dayIs_any n _).mono ?_; rintro e w' ⟨rfl, rfl⟩; rw [hE])
    refine (begun_any _ (HT.out.below HB1.out)).mono ?_
    rintro e w3 ⟨rfl, hb3⟩
    have HB3 := Lib.hid (HB1.out.trans (hb3.mono HB1.out.size))
    clear hb3
    go_wp2_with fail
    refine (textIs_same ⟨#[]⟩ 3 w3 (fun _ => rfl)).mono ?_
    rintro e w4 ⟨rfl, rfl⟩
    go_wp2_with fail
    go_ret
    exact ⟨rfl, HB3.out⟩
  · have hE : dayE n = 0 := by unfold dayE; rw [hm]; rfl
    go_enter Tryd.func5, Tryd.ntmps5
    go_wp2_with fail
    refine (print_ok n w hm HT.out).mono ?_
    rintro e w1 ⟨k, m, d, s, rfl, hc, hs, hb1⟩
    have HS := Lib.hid hs
    have HCI := Lib.hid hc
    have HB1 := Lib.hid hb1
    clear hs hb1 hc
    go_wp2_with (go_at_call 15; refine (dayIs_any n _).mono ?_; rintro e w' ⟨rfl, rfl⟩; rw [hE])
    refine (dayText_ref n _ hm).mono ?_
    rintro e w3 ⟨k', m', d', s', rfl, hc', hs', hb3⟩
    obtain ⟨rfl, rfl, rfl⟩ := HCI.out.unique hc'
    have hss : s' = s := ba_ext (hs'.trans HS.out.symm)
    subst hss
    have HB3 := Lib.hid (HB1.out.trans (hb3.mono HB1.out.size))
    clear hs' hb3 hc'
    go_wp2_with fail
    refine (begun_any _ (HT.out.below HB3.out)).mono ?_
    rintro e w4 ⟨rfl, hb4⟩
    have HB4 := Lib.hid (HB3.out.trans (hb4.mono HB3.out.size))
    clear hb4
    go_wp2_with fail
    refine (textIs_same _ 0 w4 (fun h => absurd rfl h)).mono ?_
    rintro e w5 ⟨rfl, rfl⟩
    go_wp2_with fail
    go_ret
    exact ⟨rfl, HB4.out⟩
end Go.Proofs.YtllghjmiaddekaaDoor
