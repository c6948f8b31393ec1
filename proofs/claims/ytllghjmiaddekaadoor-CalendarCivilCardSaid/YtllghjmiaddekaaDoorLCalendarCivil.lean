/-
  The walk of the law CalendarCivil: it answers true at every int.
-/
import Derived.Test.YtllghjmiaddekaaDoorCRefC
namespace Go.Proofs.YtllghjmiaddekaaDoor
open Go.RowKit Go.Maps

/-- A struct of three cells is stored whole. -/
theorem set3_cells {W : World} {g : Nat} {u0 u1 u2 : Value} (v0 v1 v2 : Value) (b0 : W.cell? ⟨g, 0, none⟩ = some u0) (b1 : W.cell? ⟨g, 1, none⟩ = some u1) (b2 : W.cell? ⟨g, 2, none⟩ = some u2) :
    (((W.setCell ⟨g, 0, none⟩ v0).setCell ⟨g, 1, none⟩ v1).setCell ⟨g, 2, none⟩ v2).cell? ⟨g, 0, none⟩ = some v0 ∧ (((W.setCell ⟨g, 0, none⟩ v0).setCell ⟨g, 1, none⟩ v1).setCell ⟨g, 2, none⟩ v2).cell? ⟨g, 1, none⟩ = some v1 ∧ (((W.setCell ⟨g, 0, none⟩ v0).setCell ⟨g, 1, none⟩ v1).setCell ⟨g, 2, none⟩ v2).cell? ⟨g, 2, none⟩ = some v2 := by
  have n01 : (⟨g, 0, none⟩ : Addr) ≠ ⟨g, 1, none⟩ := by simp
  have n02 : (⟨g, 0, none⟩ : Addr) ≠ ⟨g, 2, none⟩ := by simp
  have n12 : (⟨g, 1, none⟩ : Addr) ≠ ⟨g, 2, none⟩ := by simp
  refine ⟨?_, ?_, ?_⟩
  · rw [World.cell?_setCell_other (h := n02.symm), World.cell?_setCell_other (h := n01.symm)]
    exact World.cell?_setCell_same _ _ _ b0
  · rw [World.cell?_setCell_other (h := n12.symm)]
    exact World.cell?_setCell_same _ _ _ ((World.cell?_setCell_other _ _ _ _ n01).trans b1)
  · exact World.cell?_setCell_same _ _ _ ((World.cell?_setCell_other _ _ _ _ n12).trans ((World.cell?_setCell_other _ _ _ _ n02).trans b2))
theorem set3_other {W : World} {g g' j : Nat} (v0 v1 v2 : Value) (h : g ≠ g') : (((W.setCell ⟨g, 0, none⟩ v0).setCell ⟨g, 1, none⟩ v1).setCell ⟨g, 2, none⟩ v2).cell? ⟨g', j, none⟩ = W.cell? ⟨g', j, none⟩ := by
  have n : ∀ i, (⟨g, i, none⟩ : Addr) ≠ ⟨g', j, none⟩ := fun i e => h (congrArg Addr.block e)
  rw [World.cell?_setCell_other (h := n 2), World.cell?_setCell_other (h := n 1), World.cell?_setCell_other (h := n 0)]
theorem set3_below {B : Nat} {w W : World} {g : Nat} (v0 v1 v2 : Value) (h : Below B w W) (hg : B ≤ g) : Below B w (((W.setCell ⟨g, 0, none⟩ v0).setCell ⟨g, 1, none⟩ v1).setCell ⟨g, 2, none⟩ v2) :=
  ((h.setCell (p := ⟨g, 0, none⟩) hg _).setCell (p := ⟨g, 1, none⟩) hg _).setCell (p := ⟨g, 2, none⟩) hg _

set_option maxRecDepth 100000 in
set_option maxHeartbeats 4000000 in
theorem walk_calendarCivil (n : Int) (_ : (Lit.int .i64 n).wf = true) (w : World) (ht : Tab w) :
    Calls Tryd.prog 3 #[.int .i64 n] w fun e w' => e = .returned (.bool true) ∧ Below w.heap.size w w' := by
  have HT := Lib.hid ht
  clear ht
  cases hm : dayB n
  · have hE : dayE n = 3 := by unfold dayE; rw [hm]; rfl
    go_enter Tryd.func3, Tryd.ntmps3
    go_wp2_with fail
    refine (Civil_bad n w hm).mono ?_
    rintro e w1 ⟨rfl, hb1⟩
    have HB1 := Lib.hid hb1
    clear hb1
    go_wp2_with (first
      | (go_at_call 14; refine (Weekday_bad n _ hm).mono ?_; rintro e w' ⟨rfl, rfl⟩)
      | (go_at_call 15; refine (dayIs_any n _).mono ?_; rintro e w' ⟨rfl, rfl⟩; rw [hE]))
    have HB2 := Lib.hid ((HB1.out.alloc HB1.out.size (.cells #[.int .i64 0, .int .i64 0, .int .i64 0] 23)).alloc (by have := HB1.out.size; simp; omega) (.cells #[.int .i64 0, .int .i64 0, .int .i64 0] 23))
    refine (begun_any _ (HT.out.below HB2.out)).mono ?_
    rintro e w3 ⟨rfl, hb3⟩
    have HB3 := Lib.hid (HB2.out.trans (hb3.mono HB2.out.size))
    have HC : Hid (∀ g j, g < w1.heap.size + 2 → w3.cell? ⟨g, j, none⟩ = ((w1.alloc (.cells #[.int .i64 0, .int .i64 0, .int .i64 0] 23)).alloc (.cells #[.int .i64 0, .int .i64 0, .int .i64 0] 23)).cell? ⟨g, j, none⟩) := fun g j hg => hb3.cell (p := ⟨g, j, none⟩) (by simpa using hg)
    clear hb3
    have a0 := HC.out w1.heap.size 0 (by omega)
    have a1 := HC.out w1.heap.size 1 (by omega)
    have a2 := HC.out w1.heap.size 2 (by omega)
    have b0 := HC.out (w1.heap.size + 1) 0 (by omega)
    have b1 := HC.out (w1.heap.size + 1) 1 (by omega)
    have b2 := HC.out (w1.heap.size + 1) 2 (by omega)
    simp at a0 a1 a2 b0 b1 b2
    go_wp2_with fail
    refine (numberIs_same 0 3 _ (fun _ => rfl)).mono ?_
    rintro e w4 ⟨rfl, rfl⟩
    go_wp2_with fail
    go_ret
    exact ⟨rfl, HB3.out⟩
  · have hE : dayE n = 0 := by unfold dayE; rw [hm]; rfl
    obtain ⟨h0, h1⟩ := dayB_iff.1 hm
    go_enter Tryd.func3, Tryd.ntmps3
    go_wp2_with fail
    refine (Civil_ok n w hm).mono ?_
    rintro e w1 ⟨k, m, d, rfl, hc, hb1⟩
    have HB1 := Lib.hid hb1
    have HCI := Lib.hid hc
    clear hb1 hc
    go_wp2_with (first
      | (go_at_call 14; refine (Weekday_ok n _ hm).mono ?_; rintro e w' ⟨rfl, rfl⟩)
      | (go_at_call 15; refine (dayIs_any n _).mono ?_; rintro e w' ⟨rfl, rfl⟩; rw [hE]))
    have HB2 := Lib.hid ((HB1.out.alloc HB1.out.size (.cells #[.int .i64 (2000 + (k : Int)), .int .i64 (m : Int), .int .i64 d] 23)).alloc (by have := HB1.out.size; simp; omega) (.cells #[.int .i64 0, .int .i64 0, .int .i64 0] 23))
    refine (civil_ref n _ hm).mono ?_
    rintro e w3 ⟨k', m', d', rfl, hc', hb3⟩
    obtain ⟨rfl, rfl, rfl⟩ := HCI.out.unique hc'
    clear hc'
    have HB3 := Lib.hid (HB2.out.trans (hb3.mono HB2.out.size))
    have HC : Hid (∀ g j, g < w1.heap.size + 2 → (w3.cell? ⟨g, j, none⟩ = ((w1.alloc (.cells #[.int .i64 (2000 + (k : Int)), .int .i64 (m : Int), .int .i64 d] 23)).alloc (.cells #[.int .i64 0, .int .i64 0, .int .i64 0] 23)).cell? ⟨g, j, none⟩ ∧ w3.frozen? ⟨g, j, none⟩ = ((w1.alloc (.cells #[.int .i64 (2000 + (k : Int)), .int .i64 (m : Int), .int .i64 d] 23)).alloc (.cells #[.int .i64 0, .int .i64 0, .int .i64 0] 23)).frozen? ⟨g, j, none⟩)) := fun g j hg => ⟨hb3.cell (p := ⟨g, j, none⟩) (by simpa using hg), hb3.frozen (p := ⟨g, j, none⟩) (by simpa using hg)⟩
    clear hb3
    obtain ⟨a0, _⟩ := HC.out w1.heap.size 0 (by omega)
    obtain ⟨a1, _⟩ := HC.out w1.heap.size 1 (by omega)
    obtain ⟨a2, _⟩ := HC.out w1.heap.size 2 (by omega)
    obtain ⟨b0, f0⟩ := HC.out (w1.heap.size + 1) 0 (by omega)
    obtain ⟨b1, f1⟩ := HC.out (w1.heap.size + 1) 1 (by omega)
    obtain ⟨b2, f2⟩ := HC.out (w1.heap.size + 1) 2 (by omega)
    simp at a0 a1 a2 b0 b1 b2 f0 f1 f2
    have hg1 : w.heap.size ≤ w1.heap.size + 1 := by have := HB1.out.size; omega
    have hlt3 : w1.heap.size + 1 < w3.heap.size := lt_of_cell b0
    have hlt0 : w1.heap.size < w3.heap.size := lt_of_cell a0
    have HX := Lib.hid (set3_below (.int .i64 (2000 + (k : Int))) (.int .i64 (m : Int)) (.int .i64 d) HB3.out hg1)
    have HX1 := Lib.hid (set3_cells (.int .i64 (2000 + (k : Int))) (.int .i64 (m : Int)) (.int .i64 d) b0 b1 b2)
    have HX2 : Hid (∀ j, (((w3.setCell ⟨w1.heap.size + 1, 0, none⟩ (.int .i64 (2000 + (k : Int)))).setCell ⟨w1.heap.size + 1, 1, none⟩ (.int .i64 (m : Int))).setCell ⟨w1.heap.size + 1, 2, none⟩ (.int .i64 d)).cell? ⟨w1.heap.size, j, none⟩ = w3.cell? ⟨w1.heap.size, j, none⟩) := fun j => set3_other _ _ _ (by omega)
    have HL : Hid (w1.heap.size + 1 < (((w3.setCell ⟨w1.heap.size + 1, 0, none⟩ (.int .i64 (2000 + (k : Int)))).setCell ⟨w1.heap.size + 1, 1, none⟩ (.int .i64 (m : Int))).setCell ⟨w1.heap.size + 1, 2, none⟩ (.int .i64 d)).heap.size) := lt_of_cell HX1.out.1
    go_wp2_with (first
      | (go_at_call 17; refine (weekday_ref n _ (by omega) (by omega)).mono ?_; rintro e w' ⟨rfl, h'⟩; subst w'))
    generalize (((w3.setCell ⟨w1.heap.size + 1, 0, none⟩ (.int .i64 (2000 + (k : Int)))).setCell ⟨w1.heap.size + 1, 1, none⟩ (.int .i64 (m : Int))).setCell ⟨w1.heap.size + 1, 2, none⟩ (.int .i64 d)) = X at *
    refine (begun_any X (HT.out.below HX.out)).mono ?_
    rintro e w4 ⟨rfl, hb4⟩
    have HB4 := Lib.hid (HX.out.trans (hb4.mono HX.out.size))
    have HC4 : Hid (∀ g j, g ≤ w1.heap.size + 1 → w4.cell? ⟨g, j, none⟩ = X.cell? ⟨g, j, none⟩) := fun g j hg => hb4.cell (p := ⟨g, j, none⟩) (Nat.lt_of_le_of_lt hg HL.out)
    clear hb4
    obtain ⟨x0, x1, x2⟩ := HX1.out
    have c0 := (HC4.out (w1.heap.size + 1) 0 (by omega)).trans x0
    have c1 := (HC4.out (w1.heap.size + 1) 1 (by omega)).trans x1
    have c2 := (HC4.out (w1.heap.size + 1) 2 (by omega)).trans x2
    have d0 := (HC4.out w1.heap.size 0 (by omega)).trans ((HX2.out 0).trans a0)
    have d1 := (HC4.out w1.heap.size 1 (by omega)).trans ((HX2.out 1).trans a1)
    have d2 := (HC4.out w1.heap.size 2 (by omega)).trans ((HX2.out 2).trans a2)
    go_wp2_with fail
    refine (numberIs_same _ 0 _ (fun h => absurd rfl h)).mono ?_
    rintro e w5 ⟨rfl, rfl⟩
    go_wp2_with fail
    go_ret
    exact ⟨rfl, HB4.out⟩
end Go.Proofs.YtllghjmiaddekaaDoor
