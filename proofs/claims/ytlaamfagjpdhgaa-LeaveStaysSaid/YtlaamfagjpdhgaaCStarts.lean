/-
  The walk of calendar.yearStarts: it returns the array of the days on which the years begin, and the end of the last.
-/
import Derived.Test.YtlaamfagjpdhgaaCYear
import Derived.Laws.Rows
import Derived.Laws.Tables
import Derived.Deep.RegionWith
namespace Go.Proofs.Ytlaamfagjpdhgaa
open Go.RowKit

/-- The first k + 1 beginnings, the rest 0. -/
def ysTo (k : Nat) : List Int := (List.range 201).map fun j => if j ≤ k then ys j else 0
def ysL : List Int := (List.range 201).map ys
/-- A row of ints as the memory holds it. -/
def arr (l : List Int) : Array Value := (l.map (Value.int .i64)).toArray
theorem arr_get (l : List Int) {j : Nat} (h : j < l.length) : (arr l)[j]? = some (.int .i64 (nth l j)) := by
  simp [arr, nth, List.getD_eq_getElem?_getD, h]
theorem arr_set (l : List Int) (j : Nat) (v : Int) : (arr l).setIfInBounds j (.int .i64 v) = arr (l.set j v) := by
  simp [arr, List.map_set]
theorem arr_size (l : List Int) : (arr l).size = l.length := by simp [arr]
theorem zero_cells : Try.zeroCells105 = arr (List.replicate 201 0) := by kernel_rfl
theorem nth_range (f : Nat → Int) (n j : Nat) (h : j < n) : nth ((List.range n).map f) j = f j := by
  simp [nth, List.getD_eq_getElem?_getD, h]
theorem ysTo_length (k : Nat) : (ysTo k).length = 201 := by rw [ysTo, List.length_map, List.length_range]
theorem ysL_length : ysL.length = 201 := by rw [ysL, List.length_map, List.length_range]
theorem ysTo_zero : ysTo 0 = List.replicate 201 0 := by
  apply nth_ext
  · rw [ysTo_length, List.length_replicate]
  · intro j hj
    rw [ysTo_length] at hj
    unfold ysTo
    rw [nth_range _ _ _ hj, nth_replicate]
    by_cases h : j ≤ 0
    · have : j = 0 := by omega
      subst this; rfl
    · rw [if_neg h]
theorem ysTo_succ (k : Nat) (h : k < 200) : (ysTo k).set (k + 1) (ys k + yd (2000 + k)) = ysTo (k + 1) := by
  apply nth_ext
  · rw [List.length_set, ysTo_length, ysTo_length]
  · intro j hj
    rw [List.length_set, ysTo_length] at hj
    rw [nth_set (by rw [ysTo_length]; omega)]
    unfold ysTo
    rw [nth_range _ _ _ hj, nth_range _ _ _ hj]
    by_cases e : j = k + 1
    · subst e; rw [if_pos rfl, if_pos (Nat.le_refl _)]; rfl
    · rw [if_neg e]
      by_cases h' : j ≤ k
      · rw [if_pos h', if_pos (by omega)]
      · rw [if_neg h', if_neg (by omega)]
theorem ysTo_all : ysTo 200 = ysL := by
  apply nth_ext
  · rw [ysTo_length, ysL_length]
  · intro j hj
    rw [ysTo_length] at hj
    unfold ysTo ysL
    rw [nth_range _ _ _ hj, nth_range _ _ _ hj, if_pos (by omega)]
theorem ysTo_at {k : Nat} (h : k ≤ 200) : nth (ysTo k) k = ys k := by
  unfold ysTo; rw [nth_range _ _ _ (by omega), if_pos (Nat.le_refl _)]

theorem below_dN {B : Nat} {a w : World} (h : Below B a w) (k : Nat) : Below B a (w.drewN k) := h.trans ⟨rfl, rfl, rfl, Nat.le_refl _, fun _ _ => rfl⟩
theorem below_row {B g : Nat} {a w : World} (h : Below B a w) (hg : B ≤ g) (cs : Array Value) : Below B a (w.setRow g cs) :=
  h.trans ⟨rfl, rfl, rfl, by simp [World.setRow], fun k hk => by
    simp only [World.setRow, Array.getElem?_modify]
    rw [if_neg (by omega)]⟩

set_option maxRecDepth 100000 in
set_option maxHeartbeats 2000000 in
theorem yearStarts_any (w : World) : Calls Try.prog 86 #[] w fun e w' => e = .returned (.agg (arr ysL)) ∧ Below w.heap.size w w' := by
  go_enter Try.func86, Try.ntmps86
  go_wp2_with fail
  go_loopw [3] (fun i wr => ∃ k : Nat, k ≤ 200 ∧ i = .int .i64 k ∧ wr.heap[w.heap.size + 1]? = some (.cells (arr (ysTo k)) 105 (0, 0)) ∧ wr.heap[w.heap.size]? = some (.cells (arr (List.replicate 201 0)) 105 (0, 0)) ∧ Below w.heap.size w wr)
    (fun i _ => 200 - (intOf i).toNat)
  case atStart =>
    refine ⟨0, Nat.zero_le _, rfl, ?_, ?_, ?_⟩
    · rw [heap_alloc2_new, ysTo_zero, ← zero_cells]
    · rw [heap_alloc2_old, zero_cells]
    · exact ((Below.refl _ _).alloc (Nat.le_refl _) _).alloc (by simp) _
  case round =>
    obtain ⟨k, hk, rfl, hrow, hres, hb⟩ := hrel
    by_cases hlt : k < 200
    · have hlt' : (k : Int) < 200 := by omega
      have c0 : wr.cell? ⟨w.heap.size + 1, k, none⟩ = some (.int .i64 (ys k)) := by
        rw [cell_of_row wr _ _ _ _ _ hrow, arr_get _ (by rw [ysTo_length]; omega), ysTo_at hk]
      have hb0 := ys_bd hk
      obtain ⟨b0, b1⟩ := hb0
      have c1 : ∃ v, wr.cell? ⟨w.heap.size + 1, k + 1, none⟩ = some (.int .i64 v) := ⟨_, by rw [cell_of_row wr _ _ _ _ _ hrow, arr_get _ (by rw [ysTo_length]; omega)]⟩
      obtain ⟨v1, c1⟩ := c1
      have f1 : wr.frozen? ⟨w.heap.size + 1, k + 1, none⟩ = false := frozen_of_row wr _ _ _ _ hrow
      have HO := Lib.hid (And.intro hrow (And.intro hres hb))
      have hyd : 365 ≤ yd (2000 + (k : Int)) ∧ yd (2000 + (k : Int)) ≤ 366 := by unfold yd; split <;> omega
      obtain ⟨y0, y1⟩ := hyd
      have hw1 : IntKind.i64.wrap (2000 + (k : Int)) = 2000 + (k : Int) := by rw [IntKind.wrap_i64]; omega
      have hw2 : IntKind.i64.wrap ((k : Int) + 1) = (k : Int) + 1 := by rw [IntKind.wrap_i64]; omega
      have hw3 : IntKind.i64.wrap (ys k + yd (2000 + (k : Int))) = ys k + yd (2000 + (k : Int)) := by rw [IntKind.wrap_i64]; omega
      have hi1 : (k : Int) < 201 := by omega
      have hi2 : (k : Int) + 1 < 201 := by omega
      have hi3 : ((k : Int) + 1).toNat = k + 1 := by omega
      clear hrow hres hb
      go_wp2_with fail
      go_region_with (go_at_call 94; refine (yearDays_any _ _ (by omega)).mono ?_; rintro e w' ⟨rfl, rfl⟩)
      all_goals go_wp2
      all_goals
        go_roundw
        case rel =>
          obtain ⟨hrow, hres, hb⟩ := HO.out
          refine ⟨k + 1, by omega, by go_num, ?_, ?_, ?_⟩
          · show (wr.setCell ⟨w.heap.size + 1, k + 1, none⟩ _).heap[w.heap.size + 1]? = _
            rw [heap_setCell_same wr _ _ _ _ _ hrow, arr_set, ysTo_succ k hlt]
          · show (wr.setCell ⟨w.heap.size + 1, k + 1, none⟩ _).heap[w.heap.size]? = _
            rw [heap_setCell_other wr _ _ _ (by simp)]
            exact hres
          · exact (hb.setCell (p := ⟨w.heap.size + 1, k + 1, none⟩) (by simp) _).drew
        case measure => simp [intOf]; omega
    · have hk2 : k = 200 := by omega
      subst hk2
      rw [ysTo_all] at hrow
      have hinfo : (Try.prog.info? 105).map (·.size) = some (arr ysL).size := by rw [arr_size, ysL_length]; kernel_rfl
      have hone : (arr ysL).all (·.oneCell') = true := by
        rw [Array.all_eq_true']
        intro x hx
        simp [arr] at hx
        obtain ⟨a, _, rfl⟩ := hx
        rfl
      have hold : (arr (List.replicate 201 0)).size = (arr ysL).size := by rw [arr_size, arr_size, ysL_length, List.length_replicate]
      have HB := Lib.hid hb
      have HR := Lib.hid hres
      have HW := Lib.hid hrow
      clear hrow hres hb
      generalize hya : arr ysL = ya at *
      have HYA := Lib.hid hya
      clear hya
      go_wp2_with (first | (refine wpList_load_row rfl 105 (.tmp 1) rfl (w.heap.size + 1) rfl 105 ya (0, 0) _ HW.out Try.underlying105 rfl hinfo ?_) | (refine wpList_store_row rfl 105 (.tmp 0) (.tmp 17) rfl w.heap.size ya rfl rfl 105 _ HR.out hinfo hold hone ?_))
      refine bodyPost_ret (v := .agg ya) (results_cell_row (p := 0) (ty := 105) Try.results86 _ _ w.heap.size 105 ya (0, 0) _ rfl (setRow_heap wr _ _ _ _ _ HR.out) Try.underlying105 rfl hinfo) rfl ⟨by rw [HYA.out], ?_⟩
      exact below_row HB.out (Nat.le_refl _) ya
end Go.Proofs.Ytlaamfagjpdhgaa
