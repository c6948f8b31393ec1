/-
  What must be in any case (calendarBegun): its walk: it is so.
-/
import Derived.Test.YtmjnngneigjkkaaDoorCWork
namespace Go.Proofs.YtmjnngneigjkkaaDoor
open Go.RowKit Go.Maps

theorem digits_2000 : Lib.decDigits 2000 = [50, 48, 48, 48] := by
  rw [Lib.decDigits, dif_neg (by omega), Lib.decDigits, dif_neg (by omega), Lib.decDigits, dif_neg (by omega), Lib.decDigits, dif_pos (by omega)]
  rfl
theorem civil_zero : IsCivil 0 0 1 1 := ⟨by omega, by omega, by omega, by omega, by decide, by decide⟩
theorem Print_zero (w : World) (ht : Tab w) : Calls Tryd.prog 23 #[.int .i64 0] w fun e w' => e = .returned (.tuple #[.string ⟨#[50, 48, 48, 48, 45, 48, 49, 45, 48, 49]⟩, .int .i64 0]) ∧ Below w.heap.size w w' := by
  refine (print_ok 0 w (by decide) ht).mono ?_
  rintro e w' ⟨k, m, d, s, rfl, hc, hs, hb⟩
  obtain ⟨rfl, rfl, rfl⟩ := hc.unique civil_zero
  refine ⟨?_, hb⟩
  have : s = ⟨#[50, 48, 48, 48, 45, 48, 49, 45, 48, 49]⟩ := by
    apply ba_ext
    rw [hs]
    unfold dateL
    rw [show 2000 + 0 = 2000 from rfl, digits_2000]
    rfl
  rw [this]
theorem next_two : NextE [2] 0 3 0 := by
  refine .inr ⟨by decide, .inl ⟨rfl, by omega, by omega, by decide, ?_⟩⟩
  intro j h1 h2
  have : j = 0 ∨ j = 1 ∨ j = 2 := by omega
  rcases this with rfl | rfl | rfl <;> decide

set_option maxHeartbeats 1000000 in
theorem calendarNext_any (w : World) : Calls Tryd.prog 43 #[] w fun e w' => e = .returned (.bool true) ∧ Below w.heap.size w w' := by
  have HN := Lib.hid (Next_any 0 _ 1 1 [2] _ (came_one w 2) rfl (by unfold maxLen; omega))
  go_enter Tryd.func43, Tryd.ntmps43
  go_wp2_with fail
  refine HN.out.mono ?_
  rintro e w1 ⟨r, er, rfl, hne, hb⟩
  obtain ⟨rfl, rfl⟩ := hne.unique next_two
  have HB := Lib.hid (((Below.refl w.heap.size w).alloc (Nat.le_refl _) (.cells #[.int .i64 2] 3)).trans (hb.mono (by simp)))
  clear hb
  go_wp2_with fail
  go_ret
  exact ⟨rfl, HB.out⟩
theorem day_march : dayN 2000 3 1 = 60 := by decide
set_option maxHeartbeats 1000000 in
theorem begun_any (w : World) (ht : Tab w) : Calls Tryd.prog 18 #[] w fun e w' => e = .returned (.bool true) ∧ Below w.heap.size w w' := by
  have HD := Lib.hid (Day_ok 2000 3 1 w (by decide))
  rw [day_march] at HD
  have HT := Lib.hid ht
  have hw2 : wkd 2 = 0 := by decide
  clear ht
  go_enter Tryd.func18, Tryd.ntmps18
  go_wp2_with fail
  refine HD.out.mono ?_
  rintro e w1 ⟨rfl, hb1⟩
  have HB1 := Lib.hid hb1
  clear hb1 HD
  go_wp2_with (go_at_call 14; refine (Weekday_ok 2 _ (by decide)).mono ?_; rintro e w' ⟨rfl, rfl⟩; rw [hw2])
  refine (Print_zero _ (HT.out.below HB1.out)).mono ?_
  rintro e w2 ⟨rfl, hb2⟩
  have HB2 := Lib.hid (HB1.out.trans (hb2.mono HB1.out.size))
  clear hb2
  go_wp2_with fail
  refine (calendarNext_any _).mono ?_
  rintro e w3 ⟨rfl, hb3⟩
  have HB3 := Lib.hid (HB2.out.trans (hb3.mono HB2.out.size))
  clear hb3
  go_wp2_with fail
  go_ret
  exact ⟨rfl, HB3.out⟩
end Go.Proofs.YtmjnngneigjkkaaDoor
