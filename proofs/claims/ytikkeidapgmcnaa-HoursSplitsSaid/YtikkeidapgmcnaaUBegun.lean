/-
  What must be in any case (hoursBegun): its walk: it is so.
-/
import Derived.Test.YtikkeidapgmcnaaUWorked
namespace Go.Proofs.Ytikkeidapgmcnaa
open Go.RowKit

theorem bg_worked : workedN [60, 127] 15 5 = 60 ∧ workedE [60, 127] 15 5 = 0 := by decide
theorem bg_split : splitE [600] 480 2400 = 0 ∧ usL [600] 480 2400 1 = [480] ∧ ovL [600] 480 2400 1 = [120] := by decide
theorem uat_lit (w : World) (l : List Int) (t : TypeId) : At (w.alloc (.cells (l.map (Value.int .i64)).toArray t)) w.heap.size 0 l := by
  refine ⟨by simp, fun j hj => ?_⟩
  rw [Nat.zero_add, World.cell?_alloc_at (w := w) _ _ _ _ rfl]
  simp [nth, List.getD_eq_getElem?_getD, hj]
theorem ubelow_box (w : World) (o : Obj) : Below w.heap.size w (w.alloc o) := (Below.refl w.heap.size w).alloc (Nat.le_refl _) o
theorem ulit2 (w : World) (x y : Int) : Came (w.alloc (.cells #[.int .i64 x, .int .i64 y] 3)) (some ⟨w.heap.size, 0, none⟩) [x, y] := .inr ⟨w.heap.size, 0, rfl, uat_lit w [x, y] _⟩
theorem ulit1 (w : World) (x : Int) : Came (w.alloc (.cells #[.int .i64 x] 3)) (some ⟨w.heap.size, 0, none⟩) [x] := .inr ⟨w.heap.size, 0, rfl, uat_lit w [x] _⟩
theorem uat1 (w : World) (x : Int) : At (w.alloc (.cells #[.int .i64 x] 3)) w.heap.size 0 [x] := uat_lit w [x] _
theorem worked_lit (w : World) : Calls Try.prog 13 #[.slice (some ⟨w.heap.size, 0, none⟩) 2 2, .int .i64 15, .int .i64 5] (w.alloc (.cells #[.int .i64 60, .int .i64 127] 3)) fun e w' => e = .returned (.tuple #[.int .i64 60, .int .i64 0]) ∧ Below w.heap.size w w' := by
  refine (Worked_any _ 2 2 [60, 127] 15 5 _ (ulit2 w 60 127) rfl (by unfold maxLen; omega)).mono ?_
  rintro e w1 ⟨rfl, hb1⟩
  rw [bg_worked.1, bg_worked.2]
  exact ⟨rfl, (ubelow_box w _).trans (hb1.mono (ubelow_box w _).size)⟩
theorem split_lit (w : World) : Calls Try.prog 18 #[.slice (some ⟨w.heap.size, 0, none⟩) 1 1, .agg #[.int .i64 480, .int .i64 2400]] (w.alloc (.cells #[.int .i64 600] 3)) fun e w' => ∃ g h, e = .returned (.tuple #[.slice (some ⟨g, 0, none⟩) 1 1, .slice (some ⟨h, 0, none⟩) 1 1, .int .i64 0]) ∧ Own w' g [480] ∧ Own w' h [120] ∧ Below w.heap.size w w' := by
  refine (Split_any _ 1 1 [600] 480 2400 _ (ulit1 w 600) rfl (by unfold maxLen; omega)).mono ?_
  rintro e w2 ⟨u, v, er, rfl, ⟨her, hsp⟩, hb2⟩
  rcases hsp with ⟨h, _⟩ | ⟨_, g, h, hu, hv, h1, h2⟩
  · exact absurd bg_split.1 h
  rw [bg_split.1] at her
  subst her hu hv
  have e1 : ([600] : List Int).length = 1 := rfl
  rw [e1, bg_split.2.1] at h1
  rw [e1, bg_split.2.2] at h2
  exact ⟨g, h, rfl, h1, h2, (ubelow_box w _).trans (hb2.mono (ubelow_box w _).size)⟩
set_option maxRecDepth 100000 in
set_option maxHeartbeats 1000000 in
theorem begun_any (w : World) : Calls Try.prog 12 #[] w fun e w' => e = .returned (.bool true) ∧ Below w.heap.size w w' := by
  go_enter Try.func12, Try.ntmps12
  go_wp2_with fail
  refine (worked_lit w).mono ?_
  rintro e w1 ⟨rfl, hb1⟩
  have HB1 := Lib.hid hb1
  clear hb1
  go_wp2_with fail
  refine (split_lit w1).mono ?_
  rintro e w2 ⟨g, h, rfl, h1, h2, hb2⟩
  have HB2 := Lib.hid (HB1.out.trans (hb2.mono HB1.out.size))
  have H1 := Lib.hid h1
  have H2 := Lib.hid h2
  clear hb2 h1 h2
  have HB3 := Lib.hid (HB2.out.alloc HB2.out.size (.cells #[.int .i64 480] 3))
  go_wp2_with fail
  refine (same_yes g 0 1 w2.heap.size 0 1 [480] (w2.alloc (.cells #[.int .i64 480] 3)) (by decide) (H1.out.alloc _).at (uat1 w2 480)).mono ?_
  rintro e w3 ⟨rfl, k3, h3⟩
  have HA3 : Hid (Own w3 h [120]) := by rw [Hid, h3]; exact (H2.out.alloc _).drewN k3
  have HB4 : Hid (Below w.heap.size w w3) := by rw [Hid, h3]; exact ubelow_dN HB3.out k3
  clear h3 HB3 H1 H2
  have HB5 := Lib.hid (HB4.out.alloc HB4.out.size (.cells #[.int .i64 120] 3))
  go_wp2_with fail
  refine (same_yes h 0 1 w3.heap.size 0 1 [120] (w3.alloc (.cells #[.int .i64 120] 3)) (by decide) (HA3.out.alloc _).at (uat1 w3 120)).mono ?_
  rintro e w4 ⟨rfl, k4, h4⟩
  have HB6 : Hid (Below w.heap.size w w4) := by rw [Hid, h4]; exact ubelow_dN HB5.out k4
  clear h4
  go_wp2_with fail
  go_ret
  exact ⟨rfl, HB6.out⟩
end Go.Proofs.Ytikkeidapgmcnaa
