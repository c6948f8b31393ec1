/-
  moneyBegun answers true in every world in which the library's table of powers of ten lies as the program's text lays it.
-/
import Derived.Test.YtckealcgbjgfhaaDoorMShareV
import Derived.Test.YtckealcgbjgfhaaDoorMText
namespace Go.Proofs.YtckealcgbjgfhaaDoor.Mny
open Go.RowKit

theorem below_drewN (w : World) (k : Nat) : Below w.heap.size w (w.drewN k) := ⟨rfl, rfl, rfl, Nat.le_refl _, fun _ _ => rfl⟩
theorem rv_begun : rvN 5 2 6 = 2 ∧ rvE 5 2 6 = 0 := by decide
theorem print_begun : printL (-105) = [45, 49, 46, 48, 53] := by
  unfold printL
  simp [Lib.decDigits, dig]
theorem share_begun : shareE 10 [1, 1, 1] = 0 ∧ shareL 10 [1, 1, 1] = [4, 3, 3] := by decide

/-- A row that a literal lays. -/
theorem at_lit (w : World) (l : List Int) (t : TypeId) : At (w.alloc (.cells (l.map (Value.int .i64)).toArray t)) w.heap.size 0 l := by
  refine ⟨by simp, fun j hj => ?_⟩
  rw [Nat.zero_add, World.cell?_alloc_at (w := w) _ _ _ _ rfl]
  simp [nth, List.getD_eq_getElem?_getD, hj]

theorem share_three (w : World) (t : TypeId) :
    Calls Tryd.prog 7 #[.int .i64 10, .slice (some ⟨w.heap.size, 0, none⟩) 3 3] (w.alloc (.cells #[.int .i64 1, .int .i64 1, .int .i64 1] t)) fun e w' =>
      e = .returned (.tuple #[.slice (some ⟨w.heap.size + 1, 0, none⟩) 3 3, .int .i64 0]) ∧ Own w' (w.heap.size + 1) [4, 3, 3] ∧ Below w.heap.size w w' := by
  refine (share_in 10 w.heap.size 0 [1, 1, 1] 3 (w.alloc (.cells #[.int .i64 1, .int .i64 1, .int .i64 1] t)) (by decide) (by decide) (by decide) (by decide) (at_lit w [1, 1, 1] t)).mono ?_
  rintro e w' (⟨h, _⟩ | ⟨_, rfl, ho, hb⟩)
  · exact absurd share_begun.1 h
  · rw [share_begun.2] at ho
    have hs : (w.alloc (.cells #[.int .i64 1, .int .i64 1, .int .i64 1] t)).heap.size = w.heap.size + 1 := by simp
    rw [hs] at ho hb ⊢
    exact ⟨rfl, ho, ((Below.refl _ _).alloc (Nat.le_refl _) _).trans (hb.mono (by omega))⟩

set_option maxHeartbeats 1000000 in
theorem begun (w : World) (ht : Tab w) : Calls Tryd.prog 4 #[] w fun e w' => e = .returned (.bool true) ∧ Below w.heap.size w w' := by
  have HT : Hid (Tab w) := ht
  clear ht
  have HR := round_any 5 2 6 w
  rw [rv_begun.1, rv_begun.2] at HR
  have HR' := HR
  go_enter Tryd.func4, Tryd.ntmps4
  go_wp2_with fail
  refine HR'.mono ?_
  rintro e w1 ⟨rfl, k1, rfl⟩
  clear HR HR'
  go_wp2_with fail
  refine (print_ok _ _ (by decide) (HT.out.below (below_drewN w k1))).mono ?_
  rintro e w2 ⟨s, rfl, hs, hb⟩
  rw [print_begun] at hs
  have hs' : s = ⟨#[45, 49, 46, 48, 53]⟩ := ba_ext hs
  subst hs'
  have HB : Hid (Below w.heap.size w w2) := (below_drewN w k1).trans hb
  clear hs hb
  go_wp2_with fail
  refine (share_three w2 _).mono ?_
  rintro e w3 ⟨rfl, ho, hb⟩
  have HB3 : Hid (Below w.heap.size w w3) := HB.out.trans (hb.mono HB.out.size)
  have HO : Hid (Own w3 (w2.heap.size + 1) [4, 3, 3]) := ho
  clear hb ho HB
  go_wp2_with fail
  refine (same_yes (w2.heap.size + 1) 0 3 w3.heap.size 0 3 [4, 3, 3] _ (by decide) (HO.out.alloc _).at (at_lit w3 [4, 3, 3] _)).mono ?_
  rintro e w4 ⟨rfl, k4, rfl⟩
  have HB4 : Hid (Below w.heap.size w ((w3.alloc (.cells #[.int .i64 4, .int .i64 3, .int .i64 3] 3)).drewN k4)) := (HB3.out.alloc HB3.out.size _).trans ((below_drewN _ _).mono (by have := HB3.out.size; simp; omega))
  go_wp2_with fail
  go_ret
  exact ⟨rfl, HB4.out⟩
end Go.Proofs.YtckealcgbjgfhaaDoor.Mny
