/-
  The walk of the law CalendarReads: it answers true at every text, in every world that holds the library's table.
-/
import Derived.Test.YtmjnngneigjkkaaDoorCBegun
import Derived.Test.YtmjnngneigjkkaaDoorCReadR
namespace Go.Proofs.YtmjnngneigjkkaaDoor
open Go.RowKit Go.Maps

theorem ReadIs.unique {s : ByteArray} {n e a n' e' a' : Int} (h : ReadIs s n e a) (h' : ReadIs s n' e' a') : n = n' ∧ e = e' ∧ a = a' := by
  rcases h with ⟨j, hj, h1, h2, rfl, rfl, rfl⟩ | ⟨h1, h2⟩ <;> rcases h' with ⟨j', hj', h1', h2', rfl, rfl, rfl⟩ | ⟨h1', h2'⟩
  · have : j = j' := by
      rcases (show j < j' ∨ j = j' ∨ j' < j by omega) with h | h | h
      · rw [h1' j h] at h2; cases h2
      · exact h
      · rw [h1 j' h] at h2'; cases h2'
    subst this
    exact ⟨rfl, rfl, rfl⟩
  · rw [h1' j hj] at h2; cases h2
  · rw [h1 j' hj'] at h2'; cases h2'
  · rcases h2 with ⟨h3, rfl, rfl, rfl⟩ | ⟨h3, rfl, h4⟩ <;> rcases h2' with ⟨h3', rfl, rfl, rfl⟩ | ⟨h3', rfl, h4'⟩
    · exact ⟨rfl, rfl, rfl⟩
    · omega
    · omega
    · rcases h4 with ⟨h5, rfl, rfl⟩ | ⟨h5, rfl, rfl⟩ <;> rcases h4' with ⟨h5', rfl, rfl⟩ | ⟨h5', rfl, rfl⟩
      · exact ⟨rfl, rfl, rfl⟩
      · rw [h5] at h5'; cases h5'
      · rw [h5] at h5'; cases h5'
      · exact ⟨rfl, rfl, rfl⟩

set_option maxHeartbeats 1000000 in
theorem walk_calendarReads (s : ByteArray) (_ : s.size ≤ 140737488351232) (w : World) (ht : Tab w) :
    Calls Tryd.prog 6 #[.string s] w fun e w' => e = .returned (.bool true) ∧ Below w.heap.size w w' := by
  have HT := Lib.hid ht
  clear ht
  go_enter Tryd.func6, Tryd.ntmps6
  go_wp2_with fail
  refine (Read_any s w).mono ?_
  rintro e w1 ⟨N, E, A, rfl, hr1, hb1⟩
  have HB1 := Lib.hid hb1
  have HR1 := Lib.hid hr1
  clear hb1 hr1
  go_wp2_with fail
  refine (readDay_ref s _).mono ?_
  rintro e w2 ⟨N', E', A', rfl, hr2, hb2⟩
  obtain ⟨rfl, rfl, rfl⟩ := HR1.out.unique hr2
  have HB2 := Lib.hid hb2
  clear hb2 hr2 HR1
  go_wp2_with fail
  have HB3 : Hid (Below w.heap.size w w2) := by
    have h1 := HB1.out
    have h2 := HB2.out
    exact (h1.alloc h1.size _).trans (h2.mono (by have := h1.size; simp; omega))
  have hsz : w1.heap.size < w2.heap.size := by have := HB2.out.size; simp at this; omega
  have k0 : w2.cell? ⟨w1.heap.size, 0, none⟩ = some (.int .i64 E) := (HB2.out.cell (p := ⟨w1.heap.size, 0, none⟩) (by simp)).trans (by simp)
  have k1 : w2.cell? ⟨w1.heap.size, 1, none⟩ = some (.int .i64 A) := (HB2.out.cell (p := ⟨w1.heap.size, 1, none⟩) (by simp)).trans (by simp)
  refine (begun_any _ (HT.out.below (HB3.out.alloc HB3.out.size _))).mono ?_
  rintro e w3 ⟨rfl, hb3⟩
  have HB4 : Hid (Below w.heap.size w w3) := (HB3.out.alloc HB3.out.size _).trans (hb3.mono (by have := HB3.out.size; simp; omega))
  have m0 : w3.cell? ⟨w1.heap.size, 0, none⟩ = some (.int .i64 E) := (hb3.cell (p := ⟨w1.heap.size, 0, none⟩) (by simp; omega)).trans ((World.cell?_alloc_past (w := w2) _ _ _ hsz).trans k0)
  have m1 : w3.cell? ⟨w1.heap.size, 1, none⟩ = some (.int .i64 A) := (hb3.cell (p := ⟨w1.heap.size, 1, none⟩) (by simp; omega)).trans ((World.cell?_alloc_past (w := w2) _ _ _ hsz).trans k1)
  have m2 : w3.cell? ⟨w2.heap.size, 0, none⟩ = some (.int .i64 E) := (hb3.cell (p := ⟨w2.heap.size, 0, none⟩) (by simp)).trans (by simp)
  have m3 : w3.cell? ⟨w2.heap.size, 1, none⟩ = some (.int .i64 A) := (hb3.cell (p := ⟨w2.heap.size, 1, none⟩) (by simp)).trans (by simp)
  clear k0 k1 hb3
  go_wp2_with fail
  go_ret
  exact ⟨rfl, HB4.out⟩
end Go.Proofs.YtmjnngneigjkkaaDoor
