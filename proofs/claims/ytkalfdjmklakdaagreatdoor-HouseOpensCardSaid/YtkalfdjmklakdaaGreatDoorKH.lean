/-
  Promise B1, the calendar's plain part and walks of isLong, yearDays, monthDays and their references.
  The walk of calendar.yearStarts: it returns the array of the days on which the years begin, and the end of the last.
  Promise B1: which date a day is; walks of isDay, Weekday and Civil: at every int they return the date and the weekday, or the error.
  Promise B1: which day a date is; walks of isDate and Day: at every date they return the day, or the error.
  Printed numbers and lists that came in, for the calendar's laws: the library's table, Itoa, two digits.
  Promise B2 (printing): the walk of calendar.Print: at every int it returns the printed day, or the error.
  Promise B4: walks of areDays, rise, check, freeDays, isWorkday: lists of ints that came in, and a set of the call's own.
  Promise B1: walks of the reference's calendar: MonthDays, Civil, DayOf, IsDate, WeekdayOf; of the law's dayIs and numberIs.
  Promise B1: walks of the reference's Civil and DayOf.
-/
import Derived.Test.YtkalfdjmklakdaaGreatDoorKA
import Derived.Lib.Hide
import Derived.Laws.Rows
import Derived.Laws.Tables
import Derived.Deep.RegionWith
import Derived.Test.YtkalfdjmklakdaaGreatDoorKS
import Derived.Lib.ItoaLen
import Derived.Lib.LaidTab
import Derived.Lib.SmallJoins
import Derived.Deep.RegionHeld3
import Derived.Laws.Concat
import Derived.Maps.OwnSet
import Derived.Maps.AppendAt
namespace Go.Proofs.YtkalfdjmklakdaaGreatDoor.Cal
open Go.RowKit
theorem cret_bool {a b : Bool} (h : a = b) : Ending.returned (.bool a) = .returned (.bool b) := by rw [h]
theorem cret_int {k : IntKind} {a b : Int} (h : a = b) : Ending.returned (.int k a) = .returned (.int k b) := by rw [h]
def lp (y : Int) : Bool := decide (y % 4 = 0 ∧ (y % 100 ≠ 0 ∨ y % 400 = 0))
def yd (y : Int) : Int := if lp y = true then 366 else 365
def md (y m : Int) : Int := if m = 2 then (if lp y = true then 29 else 28) else if m = 4 ∨ m = 6 ∨ m = 9 ∨ m = 11 then 30 else 31
def ys : Nat → Int
 | 0 => 0
 | k + 1 => ys k + yd (2000 + k)
theorem lp_range {k : Nat} (h : k < 200) : lp (2000 + k) = decide (k % 4 = 0 ∧ k ≠ 100) := by
 unfold lp
 rw [Bool.eq_iff_iff]
 simp only [decide_eq_true_iff]
 omega
theorem ys_closed : ∀ k : Nat, k ≤ 200 → ys k = 365 * k + (k + 3) / 4 - (if 100 < k then 1 else 0)
 | 0, _ => by simp [ys]
 | k + 1, h => by
   have e : yd (2000 + (k : Int)) = if k % 4 = 0 ∧ k ≠ 100 then 366 else 365 := by
    unfold yd; rw [lp_range (by omega)]; simp only [decide_eq_true_iff]
   rw [ys, ys_closed k (by omega), e]
   (repeat' split) <;> omega
theorem ys_bd {k : Nat} (h : k ≤ 200) : 0 ≤ ys k ∧ ys k ≤ 73049 := by
 rw [ys_closed k h]
 split <;> omega
theorem isLong_any (y : Int) (w : World) (h0 : 0 ≤ y) : Calls Tryz.prog 256 #[.int .i64 y] w fun e w' => e = .returned (.bool (lp y)) ∧ w' = w := by
 by_cases h4 : y % 4 = 0
 ·by_cases h1 : y % 100 = 0
  ·by_cases h3 : y % 400 = 0
   ·have H : Hid (lp y = true) := decide_eq_true ⟨h4, .inr h3⟩
    have b1 : (y % 4 == 0) = true := by simp [h4]
    have b2 : (y % 100 != 0) = false := by simp [h1]
    have b2' : (y % 100 == 0) = true := by simp [h1]
    have b3 : (y % 400 == 0) = true := by simp [h3]
    clear h4 h1 h3
    go_enter Tryz.func256, Tryz.ntmps256
    go_wp2
    go_ret
    exact ⟨cret_bool (by rw [H.out]), rfl⟩
   ·have H : Hid (lp y = false) := decide_eq_false (by omega)
    have b1 : (y % 4 == 0) = true := by simp [h4]
    have b2 : (y % 100 != 0) = false := by simp [h1]
    have b2' : (y % 100 == 0) = true := by simp [h1]
    have b3 : (y % 400 == 0) = false := by simp [h3]
    clear h4 h1 h3
    go_enter Tryz.func256, Tryz.ntmps256
    go_wp2
    go_ret
    exact ⟨cret_bool (by rw [H.out]), rfl⟩
  ·have H : Hid (lp y = true) := decide_eq_true ⟨h4, .inl h1⟩
   have b1 : (y % 4 == 0) = true := by simp [h4]
   have b2 : (y % 100 != 0) = true := by simp [h1]
   have b2' : (y % 100 == 0) = false := by simp [h1]
   clear h4 h1
   go_enter Tryz.func256, Tryz.ntmps256
   go_wp2
   go_ret
   exact ⟨cret_bool (by rw [H.out]), rfl⟩
 ·have H : Hid (lp y = false) := decide_eq_false (by omega)
  have b1 : (y % 4 == 0) = false := by simp [h4]
  have b2' : (y % 100 == 0) = false := by simp; omega
  clear h4
  go_enter Tryz.func256, Tryz.ntmps256
  go_wp2
  go_ret
  exact ⟨cret_bool (by rw [H.out]), rfl⟩
theorem leap_ref (y : Int) (w : World) (h0 : 0 ≤ y) : Calls Tryz.prog 169 #[.int .i64 y] w fun e w' => e = .returned (.bool (lp y)) ∧ w' = w := by
 by_cases h4 : y % 4 = 0
 ·by_cases h1 : y % 100 = 0
  ·by_cases h3 : y % 400 = 0
   ·have H : Hid (lp y = true) := decide_eq_true ⟨h4, .inr h3⟩
    have b1 : (y % 4 == 0) = true := by simp [h4]
    have b2 : (y % 100 != 0) = false := by simp [h1]
    have b2' : (y % 100 == 0) = true := by simp [h1]
    have b3 : (y % 400 == 0) = true := by simp [h3]
    clear h4 h1 h3
    go_enter Tryz.func169, Tryz.ntmps169
    go_wp2
    go_ret
    exact ⟨cret_bool (by rw [H.out]), rfl⟩
   ·have H : Hid (lp y = false) := decide_eq_false (by omega)
    have b1 : (y % 4 == 0) = true := by simp [h4]
    have b2 : (y % 100 != 0) = false := by simp [h1]
    have b2' : (y % 100 == 0) = true := by simp [h1]
    have b3 : (y % 400 == 0) = false := by simp [h3]
    clear h4 h1 h3
    go_enter Tryz.func169, Tryz.ntmps169
    go_wp2
    go_ret
    exact ⟨cret_bool (by rw [H.out]), rfl⟩
  ·have H : Hid (lp y = true) := decide_eq_true ⟨h4, .inl h1⟩
   have b1 : (y % 4 == 0) = true := by simp [h4]
   have b2 : (y % 100 != 0) = true := by simp [h1]
   have b2' : (y % 100 == 0) = false := by simp [h1]
   clear h4 h1
   go_enter Tryz.func169, Tryz.ntmps169
   go_wp2
   go_ret
   exact ⟨cret_bool (by rw [H.out]), rfl⟩
 ·have H : Hid (lp y = false) := decide_eq_false (by omega)
  have b1 : (y % 4 == 0) = false := by simp [h4]
  have b2' : (y % 100 == 0) = false := by simp; omega
  clear h4
  go_enter Tryz.func169, Tryz.ntmps169
  go_wp2
  go_ret
  exact ⟨cret_bool (by rw [H.out]), rfl⟩
theorem yearDays_any (y : Int) (w : World) (h0 : 0 ≤ y) : Calls Tryz.prog 257 #[.int .i64 y] w fun e w' => e = .returned (.int .i64 (yd y)) ∧ w' = w := by
 cases h : lp y
 ·have H : Hid (yd y = 365) := by unfold Hid yd; rw [if_neg (by simp [h])]
  go_enter Tryz.func257, Tryz.ntmps257
  go_wp2_with (go_at_call 256; refine (isLong_any _ _ h0).mono ?_; rintro e w' ⟨rfl, rfl⟩)
  go_ret
  exact ⟨cret_int H.out.symm, rfl⟩
 ·have H : Hid (yd y = 366) := by unfold Hid yd; rw [if_pos h]
  go_enter Tryz.func257, Tryz.ntmps257
  go_wp2_with (go_at_call 256; refine (isLong_any _ _ h0).mono ?_; rintro e w' ⟨rfl, rfl⟩)
  go_ret
  exact ⟨cret_int H.out.symm, rfl⟩
theorem monthDays_any (y m : Int) (w : World) (h0 : 0 ≤ y) : Calls Tryz.prog 238 #[.int .i64 y, .int .i64 m] w fun e w' => e = .returned (.int .i64 (md y m)) ∧ w' = w := by
 by_cases h2 : m = 2
 ·subst h2
  cases h : lp y
  ·have H : Hid (md y 2 = 28) := by unfold Hid md; rw [if_pos rfl, if_neg (by simp [h])]
   go_enter Tryz.func238, Tryz.ntmps238
   go_wp2_with (go_at_call 256; refine (isLong_any _ _ h0).mono ?_; rintro e w' ⟨rfl, rfl⟩)
   go_ret
   exact ⟨cret_int H.out.symm, rfl⟩
  ·have H : Hid (md y 2 = 29) := by unfold Hid md; rw [if_pos rfl, if_pos h]
   go_enter Tryz.func238, Tryz.ntmps238
   go_wp2_with (go_at_call 256; refine (isLong_any _ _ h0).mono ?_; rintro e w' ⟨rfl, rfl⟩)
   go_ret
   exact ⟨cret_int H.out.symm, rfl⟩
 ·by_cases h30 : m = 4 ∨ m = 6 ∨ m = 9 ∨ m = 11
  ·have H : Hid (md y m = 30) := by unfold Hid md; rw [if_neg h2, if_pos h30]
   rcases h30 with rfl | rfl | rfl | rfl
   all_goals
    go_enter Tryz.func238, Tryz.ntmps238
    go_wp2_with fail
    go_ret
    exact ⟨cret_int H.out.symm, rfl⟩
  ·have H : Hid (md y m = 31) := by unfold Hid md; rw [if_neg h2, if_neg h30]
   have b2 : (m == 2) = false := by simp [h2]
   have b4 : (m == 4) = false := by simp; omega
   have b6 : (m == 6) = false := by simp; omega
   have b9 : (m == 9) = false := by simp; omega
   have b11 : (m == 11) = false := by simp; omega
   clear h2 h30
   go_enter Tryz.func238, Tryz.ntmps238
   go_wp2_with fail
   go_ret
   exact ⟨cret_int H.out.symm, rfl⟩
end Go.Proofs.YtkalfdjmklakdaaGreatDoor.Cal
namespace Go.Proofs.YtkalfdjmklakdaaGreatDoor.Cal
open Go.RowKit
def ysTo (k : Nat) : List Int := (List.range 201).map fun j => if j ≤ k then ys j else 0
def ysL : List Int := (List.range 201).map ys
def arr (l : List Int) : Array Value := (l.map (Value.int .i64)).toArray
theorem arr_get (l : List Int) {j : Nat} (h : j < l.length) : (arr l)[j]? = some (.int .i64 (nth l j)) := by
 simp [arr, nth, List.getD_eq_getElem?_getD, h]
theorem arr_set (l : List Int) (j : Nat) (v : Int) : (arr l).setIfInBounds j (.int .i64 v) = arr (l.set j v) := by
 simp [arr, List.map_set]
theorem arr_size (l : List Int) : (arr l).size = l.length := by simp [arr]
theorem zero_cells : Tryz.zeroCells266 = arr (List.replicate 201 0) := by kernel_rfl
theorem nth_range (f : Nat → Int) (n j : Nat) (h : j < n) : nth ((List.range n).map f) j = f j := by
 simp [nth, List.getD_eq_getElem?_getD, h]
theorem ysTo_length (k : Nat) : (ysTo k).length = 201 := by rw [ysTo, List.length_map, List.length_range]
theorem ysL_length : ysL.length = 201 := by rw [ysL, List.length_map, List.length_range]
theorem ysTo_zero : ysTo 0 = List.replicate 201 0 := by
 apply nth_ext
 ·rw [ysTo_length, List.length_replicate]
 ·intro j hj
  rw [ysTo_length] at hj
  unfold ysTo
  rw [nth_range _ _ _ hj, nth_replicate]
  by_cases h : j ≤ 0
  ·have : j = 0 := by omega
   subst this; rfl
  ·rw [if_neg h]
theorem ysTo_succ (k : Nat) (h : k < 200) : (ysTo k).set (k + 1) (ys k + yd (2000 + k)) = ysTo (k + 1) := by
 apply nth_ext
 ·rw [List.length_set, ysTo_length, ysTo_length]
 ·intro j hj
  rw [List.length_set, ysTo_length] at hj
  rw [nth_set (by rw [ysTo_length]; omega)]
  unfold ysTo
  rw [nth_range _ _ _ hj, nth_range _ _ _ hj]
  by_cases e : j = k + 1
  ·subst e; rw [if_pos rfl, if_pos (Nat.le_refl _)]; rfl
  ·rw [if_neg e]
   by_cases h' : j ≤ k
   ·rw [if_pos h', if_pos (by omega)]
   ·rw [if_neg h', if_neg (by omega)]
theorem ysTo_all : ysTo 200 = ysL := by
 apply nth_ext
 ·rw [ysTo_length, ysL_length]
 ·intro j hj
  rw [ysTo_length] at hj
  unfold ysTo ysL
  rw [nth_range _ _ _ hj, nth_range _ _ _ hj, if_pos (by omega)]
theorem ysTo_at {k : Nat} (h : k ≤ 200) : nth (ysTo k) k = ys k := by
 unfold ysTo; rw [nth_range _ _ _ (by omega), if_pos (Nat.le_refl _)]
theorem below_dN {B : Nat} {a w : World} (h : Below B a w) (k : Nat) : Below B a (w.drewN k) := h.trans ⟨rfl, rfl, rfl, Nat.le_refl _, fun _ _ => rfl⟩
theorem below_row {B g : Nat} {a w : World} (h : Below B a w) (hg : B ≤ g) (cs : Array Value) : Below B a (w.setRow g cs) :=
 h.trans ⟨rfl, rfl, rfl, by simp [World.setRow], fun k hk => by
  simp only [World.setRow, Array.getElem?_modify]
  rw [if_neg (by omega)]⟩
set_option maxRecDepth 100000 in
set_option maxHeartbeats 2000000 in
theorem yearStarts_any (w : World) : Calls Tryz.prog 239 #[] w fun e w' => e = .returned (.agg (arr ysL)) ∧ Below w.heap.size w w' := by
 go_enter Tryz.func239, Tryz.ntmps239
 go_wp2_with fail
 go_loopw [3] (fun i wr => ∃ k : Nat, k ≤ 200 ∧ i = .int .i64 k ∧ wr.heap[w.heap.size + 1]? = some (.cells (arr (ysTo k)) 266 (0, 0)) ∧ wr.heap[w.heap.size]? = some (.cells (arr (List.replicate 201 0)) 266 (0, 0)) ∧ Below w.heap.size w wr)
  (fun i _ => 200 - (intOf i).toNat)
 case atStart =>
  refine ⟨0, Nat.zero_le _, rfl, ?_, ?_, ?_⟩
  ·rw [heap_alloc2_new, ysTo_zero, ← zero_cells]
  ·rw [heap_alloc2_old, zero_cells]
  ·exact ((Below.refl _ _).alloc (Nat.le_refl _) _).alloc (by simp) _
 case round =>
  obtain ⟨k, hk, rfl, hrow, hres, hb⟩ := hrel
  by_cases hlt : k < 200
  ·have hlt' : (k : Int) < 200 := by omega
   have c0 : wr.cell? ⟨w.heap.size + 1, k, none⟩ = some (.int .i64 (ys k)) := by
    rw [cell_of_row wr _ _ _ _ _ hrow, arr_get _ (by rw [ysTo_length]; omega), ysTo_at hk]
   have hb0 := ys_bd hk
   obtain ⟨b0, b1⟩ := hb0
   have c1 : ∃ v, wr.cell? ⟨w.heap.size + 1, k + 1, none⟩ = some (.int .i64 v) := ⟨_, by rw [cell_of_row wr _ _ _ _ _ hrow, arr_get _ (by rw [ysTo_length]; omega)]⟩
   obtain ⟨v1, c1⟩ := c1
   have f1 : wr.frozen? ⟨w.heap.size + 1, k + 1, none⟩ = false := frozen_of_row wr _ _ _ _ hrow
   have HO := Lib.hid (And.intro hrow (And.intro hres hb))
   have hyd : 365 ≤ yd (2000 + (k : Int)) ∧ yd (2000 + (k : Int)) ≤ 366 := by unfold yd; split <;> omega
   obtain ⟨y0, y1⟩ := hyd
   have hw1 : IntKind.i64.wrap (2000 + (k : Int)) = 2000 + (k : Int) := by rw [IntKind.wrap_i64]; omega
   have hw2 : IntKind.i64.wrap ((k : Int) + 1) = (k : Int) + 1 := by rw [IntKind.wrap_i64]; omega
   have hw3 : IntKind.i64.wrap (ys k + yd (2000 + (k : Int))) = ys k + yd (2000 + (k : Int)) := by rw [IntKind.wrap_i64]; omega
   have hi1 : (k : Int) < 201 := by omega
   have hi2 : (k : Int) + 1 < 201 := by omega
   have hi3 : ((k : Int) + 1).toNat = k + 1 := by omega
   clear hrow hres hb
   go_wp2_with fail
   go_region_with (go_at_call 257; refine (yearDays_any _ _ (by omega)).mono ?_; rintro e w' ⟨rfl, rfl⟩)
   all_goals go_wp2
   all_goals
    go_roundw
    case rel =>
     obtain ⟨hrow, hres, hb⟩ := HO.out
     refine ⟨k + 1, by omega, by go_num, ?_, ?_, ?_⟩
     ·show (wr.setCell ⟨w.heap.size + 1, k + 1, none⟩ _).heap[w.heap.size + 1]? = _
      rw [heap_setCell_same wr _ _ _ _ _ hrow, arr_set, ysTo_succ k hlt]
     ·show (wr.setCell ⟨w.heap.size + 1, k + 1, none⟩ _).heap[w.heap.size]? = _
      rw [heap_setCell_other wr _ _ _ (by simp)]
      exact hres
     ·exact (hb.setCell (p := ⟨w.heap.size + 1, k + 1, none⟩) (by simp) _).drew
    case measure => simp [intOf]; omega
  ·have hk2 : k = 200 := by omega
   subst hk2
   rw [ysTo_all] at hrow
   have hinfo : (Tryz.prog.info? 266).map (·.size) = some (arr ysL).size := by rw [arr_size, ysL_length]; kernel_rfl
   have hone : (arr ysL).all (·.oneCell') = true := by
    rw [Array.all_eq_true']
    intro x hx
    simp [arr] at hx
    obtain ⟨a, _, rfl⟩ := hx
    rfl
   have hold : (arr (List.replicate 201 0)).size = (arr ysL).size := by rw [arr_size, arr_size, ysL_length, List.length_replicate]
   have HB := Lib.hid hb
   have HR := Lib.hid hres
   have HW := Lib.hid hrow
   clear hrow hres hb
   generalize hya : arr ysL = ya at *
   have HYA := Lib.hid hya
   clear hya
   go_wp2_with (first | (refine wpList_load_row rfl 266 (.tmp 1) rfl (w.heap.size + 1) rfl 266 ya (0, 0) _ HW.out Tryz.underlying266 rfl hinfo ?_) | (refine wpList_store_row rfl 266 (.tmp 0) (.tmp 17) rfl w.heap.size ya rfl rfl 266 _ HR.out hinfo hold hone ?_))
   refine bodyPost_ret (v := .agg ya) (results_cell_row (p := 0) (ty := 266) Tryz.results239 _ _ w.heap.size 266 ya (0, 0) _ rfl (setRow_heap wr _ _ _ _ _ HR.out) Tryz.underlying266 rfl hinfo) rfl ⟨by rw [HYA.out], ?_⟩
   exact below_row HB.out (Nat.le_refl _) ya
end Go.Proofs.YtkalfdjmklakdaaGreatDoor.Cal
namespace Go.Proofs.YtkalfdjmklakdaaGreatDoor.Cal
open Go.RowKit
def cumN (y : Int) : Nat → Int
 | 0 => 0
 | m + 1 => cumN y m + md y ((m : Int) + 1)
theorem md_bd (y m : Int) : 28 ≤ md y m ∧ md y m ≤ 31 := by
 unfold md; (repeat' split) <;> omega
theorem cumN_12 (y : Int) : cumN y 12 = yd y := by
 simp only [cumN]
 unfold md yd
 cases lp y <;> simp
theorem cumN_bd (y : Int) : ∀ m : Nat, 28 * m ≤ cumN y m ∧ cumN y m ≤ 31 * m
 | 0 => by simp [cumN]
 | m + 1 => by
   have := cumN_bd y m
   have := md_bd y ((m : Int) + 1)
   simp only [cumN]
   omega
theorem ys_mono {a b : Nat} (h : a ≤ b) : ys a ≤ ys b := by
 induction b with
 | zero => have : a = 0 := by omega
           subst this; exact Int.le_refl _
 | succ b ih =>
   by_cases e : a = b + 1
   ·subst e; exact Int.le_refl _
   ·have := ih (by omega)
    rw [ys]
    have : 365 ≤ yd (2000 + (b : Int)) := by unfold yd; split <;> omega
    omega
theorem cumN_mono (y : Int) {a b : Nat} (h : a ≤ b) : cumN y a ≤ cumN y b := by
 induction b with
 | zero => have : a = 0 := by omega
           subst this; exact Int.le_refl _
 | succ b ih =>
   by_cases e : a = b + 1
   ·subst e; exact Int.le_refl _
   ·have := ih (by omega)
    have := md_bd y ((b : Int) + 1)
    rw [cumN]
    omega
structure IsCivil (day : Int) (k m : Nat) (d : Int) : Prop where
 k1 : k < 200
 m1 : 1 ≤ m
 m2 : m ≤ 12
 d1 : 1 ≤ d
 d2 : d ≤ md (2000 + k) m
 eq : day = ys k + cumN (2000 + k) (m - 1) + d - 1
theorem IsCivil.month {day : Int} {k m : Nat} {d : Int} (h : IsCivil day k m d) : cumN (2000 + k) (m - 1) + d ≤ cumN (2000 + k) m ∧ cumN (2000 + k) m ≤ yd (2000 + k) := by
 obtain ⟨h1, h2, h3, h4, h5, h6⟩ := h
 have e : cumN (2000 + (k : Int)) m = cumN (2000 + k) (m - 1) + md (2000 + k) m := by
  have : m = (m - 1) + 1 := by omega
  rw [this, cumN, Nat.add_sub_cancel]
  congr 2
 have := cumN_mono (2000 + (k : Int)) h3
 rw [cumN_12] at this
 omega
theorem IsCivil.in {day : Int} {k m : Nat} {d : Int} (h : IsCivil day k m d) : ys k ≤ day ∧ day < ys (k + 1) := by
 have hm := h.month
 have := cumN_bd (2000 + (k : Int)) (m - 1)
 have e : ys (k + 1) = ys k + yd (2000 + k) := rfl
 have := h.eq
 have := h.d1
 omega
theorem IsCivil.unique {day : Int} {k m k' m' : Nat} {d d' : Int} (h : IsCivil day k m d) (h' : IsCivil day k' m' d') : k = k' ∧ m = m' ∧ d = d' := by
 have a := h.in
 have b := h'.in
 have hk : k = k' := by
  rcases Nat.lt_trichotomy k k' with hlt | he | hgt
  ·have := ys_mono (show k + 1 ≤ k' by omega); omega
  ·exact he
  ·have := ys_mono (show k' + 1 ≤ k by omega); omega
 subst hk
 have c := h.month
 have c' := h'.month
 have e := h.eq
 have e' := h'.eq
 have q := h.d1
 have q' := h'.d1
 have hm1 := h.m1
 have hm1' := h'.m1
 have hm : m = m' := by
  rcases Nat.lt_trichotomy m m' with hlt | he | hgt
  ·have := cumN_mono (2000 + (k : Int)) (show m ≤ m' - 1 by omega); omega
  ·exact he
  ·have := cumN_mono (2000 + (k : Int)) (show m' ≤ m - 1 by omega); omega
 subst hm
 exact ⟨rfl, rfl, by omega⟩
theorem IsCivil.day {day : Int} {k m : Nat} {d : Int} (h : IsCivil day k m d) : 0 ≤ day ∧ day ≤ 73048 := by
 have a := h.in
 have := ys_bd (k := k) (by have := h.k1; omega)
 have := ys_mono (show k + 1 ≤ 200 by have := h.k1; omega)
 have e : ys 200 = 73049 := by rw [ys_closed 200 (by omega)]; decide
 omega
def dayB (n : Int) : Bool := decide (0 ≤ n ∧ n ≤ 73048)
theorem isDay_any (n : Int) (w : World) : Calls Tryz.prog 22 #[.int .i64 n] w fun e w' => e = .returned (.bool (dayB n)) ∧ w' = w := by
 by_cases h1 : 0 ≤ n
 ·by_cases h2 : n ≤ 73048
  ·have H : Hid (dayB n = true) := decide_eq_true ⟨h1, h2⟩
   go_enter Tryz.func22, Tryz.ntmps22
   go_wp2
   go_ret
   exact ⟨cret_bool (by rw [H.out]; try (simp <;> omega)), rfl⟩
  ·have H : Hid (dayB n = false) := decide_eq_false (by omega)
   go_enter Tryz.func22, Tryz.ntmps22
   go_wp2
   go_ret
   exact ⟨cret_bool (by rw [H.out]; try (simp <;> omega)), rfl⟩
 ·have H : Hid (dayB n = false) := decide_eq_false (by omega)
  have hd : decide (0 ≤ n) = false := decide_eq_false h1
  go_enter Tryz.func22, Tryz.ntmps22
  go_wp2
  go_ret
  exact ⟨cret_bool (by rw [H.out]), rfl⟩
def wkd (n : Int) : Int := (n + 5) % 7
theorem Civil_bad (n : Int) (w : World) (h : dayB n = false) : Calls Tryz.prog 206 #[.int .i64 n] w fun e w' => e = .returned (.tuple #[.agg #[.int .i64 0, .int .i64 0, .int .i64 0], .int .i64 3]) ∧ Below w.heap.size w w' := by
 go_enter Tryz.func206, Tryz.ntmps206
 go_wp2_with (go_at_call 22; refine (isDay_any _ _).mono ?_; rintro e w' ⟨rfl, rfl⟩)
 refine bodyPost_ret (v := .tuple #[.agg #[.int .i64 _, .int .i64 _, .int .i64 _], .int .i64 _]) (by simp [results, Tryz.results206, go_sem] <;> rfl) rfl ⟨rfl, ?_⟩
 exact (Below.refl _ _).alloc (Nat.le_refl _) _
theorem ysL_at {k : Nat} (h : k ≤ 200) : (arr ysL)[k]? = some (.int .i64 (ys k)) := by
 rw [arr_get _ (by rw [ysL_length]; omega)]
 congr 2
 unfold ysL
 exact nth_range ys 201 k (by omega)
theorem ysL_info : (Tryz.prog.info? 266).map (·.size) = some (arr ysL).size := by rw [arr_size, ysL_length]; kernel_rfl
theorem ysL_one : (arr ysL).all (·.oneCell') = true := by
 rw [Array.all_eq_true']
 intro x hx
 simp [arr] at hx
 obtain ⟨a, _, rfl⟩ := hx
 rfl
theorem zero_size : Tryz.zeroCells266.size = (arr ysL).size := by rw [zero_cells, arr_size, arr_size, ysL_length, List.length_replicate]
theorem civil_start {n : Int} (h0 : 0 ≤ n) (h1 : n ≤ 73048) : (n / 366).toNat < 200 ∧ ys (n / 366).toNat ≤ n := by
 have hk : (n / 366).toNat ≤ 199 := by omega
 refine ⟨by omega, ?_⟩
 rw [ys_closed _ (by omega)]
 split <;> omega
theorem ys_200 : ys 200 = 73049 := by rw [ys_closed 200 (by omega)]; decide
theorem starts_world {w w1 : World} {B : Nat} (hb : Below B w w1) (hB : B ≤ w1.heap.size) :
 ((w1.alloc (.cells Tryz.zeroCells266 266)).setRow w1.heap.size (arr ysL)).heap[w1.heap.size]? = some (.cells (arr ysL) 266 (0, 0)) ∧ Below B w ((w1.alloc (.cells Tryz.zeroCells266 266)).setRow w1.heap.size (arr ysL)) :=
 ⟨setRow_heap _ _ _ _ _ _ (heap_alloc_new w1 _), below_row (hb.alloc hB _) hB _⟩
set_option maxRecDepth 100000 in
set_option maxHeartbeats 2000000 in
theorem Civil_ok (n : Int) (w : World) (h : dayB n = true) : Calls Tryz.prog 206 #[.int .i64 n] w fun e w' => ∃ (k m : Nat) (d : Int), e = .returned (.tuple #[.agg #[.int .i64 (2000 + k), .int .i64 m, .int .i64 d], .int .i64 0]) ∧ IsCivil n k m d ∧ Below w.heap.size w w' := by
 obtain ⟨h0, h1⟩ : 0 ≤ n ∧ n ≤ 73048 := of_decide_eq_true h
 have hst := civil_start h0 h1
 have HY := Lib.hid (fun k (h : k ≤ 200) => ysL_at h)
 have hin := ysL_info
 have hone := ysL_one
 have hz := zero_size
 go_enter Tryz.func206, Tryz.ntmps206
 go_wp2_with (go_at_call 22; refine (isDay_any _ _).mono ?_; rintro e w' ⟨rfl, rfl⟩)
 refine (yearStarts_any _).mono ?_
 rintro e w1 ⟨rfl, hb1⟩
 have hsz : w.heap.size < w1.heap.size := by have := hb1.size; simp at this; omega
 have HW2 := Lib.hid (starts_world hb1 (by have := hb1.size; simpa using this))
 have HR : Hid (∀ j, j < 3 → (((w1.alloc (.cells Tryz.zeroCells266 266)).setRow w1.heap.size (arr ysL)).cell? ⟨w.heap.size, j, none⟩ = some (.int .i64 0) ∧ ((w1.alloc (.cells Tryz.zeroCells266 266)).setRow w1.heap.size (arr ysL)).frozen? ⟨w.heap.size, j, none⟩ = false)) := fun j hj => by
  have hB := HW2.out.2
  rw [hB.cell (p := ⟨w.heap.size, j, none⟩) (by simp), hB.frozen (p := ⟨w.heap.size, j, none⟩) (by simp)]
  match j, hj with
  | 0, _ => simp
  | 1, _ => simp
  | 2, _ => simp
 clear hb1
 generalize arr ysL = ya at *
 go_wp2_with (refine wpList_store_row rfl 266 (.tmp 4) (.tmp 13) rfl w1.heap.size ya rfl rfl 266 _ (heap_alloc_new w1 _) hin hz hone ?_; refine Hid.out ?_)
 generalize hW : (w1.alloc (.cells Tryz.zeroCells266 266)).setRow w1.heap.size ya = W at *
 have HROW : Hid (∀ k, k ≤ 200 → W.cell? ⟨w1.heap.size, k, none⟩ = some (.int .i64 (ys k))) := fun k hk => by
  rw [cell_of_row W _ _ _ _ _ HW2.out.1]; exact HY.out k hk
 have HBW : Hid (Below w.heap.size w W) := ((Below.refl _ _).alloc (Nat.le_refl _) _).trans (HW2.out.2.mono (by simp))
 clear HW2 hW
 generalize w1.heap.size = g at *
 clear hin hz hone
 refine Lib.hid ?_
 go_wp2_with fail
 go_loop [5] (fun i => ∃ k : Nat, k < 200 ∧ i = .int .i64 k ∧ ys k ≤ n) (fun i => 200 - (intOf i).toNat)
 case atStart => exact ⟨(n / 366).toNat, hst.1, by rw [Int.toNat_of_nonneg (by omega)], hst.2⟩
 case round =>
  clear hst
  obtain ⟨k, hk, rfl, hyk⟩ := hrel
  have b1 := ys_bd (k := k) (by omega)
  have b2 := ys_bd (k := k + 1) (by omega)
  have c1 := HROW.out (k + 1) (by omega)
  have c0 := HROW.out k (by omega)
  have hi1 : (k : Int) + 1 < 201 := by omega
  have hi0 : (k : Int) < 201 := by omega
  by_cases hle : ys (k + 1) ≤ n
  ·have hk2 : k + 1 < 200 := by
    by_cases e : k + 1 < 200
    ·exact e
    ·have : k + 1 = 200 := by omega
     rw [this, ys_200] at hle
     omega
   go_wp2
   go_round
   case rel => exact ⟨k + 1, hk2, by go_num, hle⟩
   case measure => simp [intOf]; omega
  ·have hlt : n < ys (k + 1) := by omega
   have HLT := Lib.hid hlt
   obtain ⟨b10, b11⟩ := b1
   have hleB : decide (ys (k + 1) ≤ n) = false := decide_eq_false hle
   have HE : Hid (n - ys k < cumN (2000 + k) 12) := by
    unfold Hid; rw [cumN_12]; have := HLT.out; rw [ys] at this; omega
   clear b2 hlt hle
   go_wp2
   go_quiet (fail)
   go_wp2_with fail
   go_loop [7, 8] (fun mo re => ∃ m : Nat, m < 12 ∧ mo = .int .i64 (m + 1 : Nat) ∧ re = .int .i64 (n - ys k - cumN (2000 + k) m) ∧ 0 ≤ n - ys k - cumN (2000 + k) m) (fun mo _ => 12 - (intOf mo).toNat)
   case atStart => exact ⟨0, by omega, rfl, by simp [cumN], by simp [cumN]; omega⟩
   case round =>
    obtain ⟨m, hm, rfl, rfl, hr0⟩ := hrel
    have cb := cumN_bd (2000 + (k : Int)) m
    have mb := md_bd (2000 + (k : Int)) ((m : Int) + 1)
    have ES : Hid (cumN (2000 + (k : Int)) (m + 1) = cumN (2000 + (k : Int)) m + md (2000 + (k : Int)) ((m : Int) + 1)) := rfl
    rw [show ((m + 1 : Nat) : Int) = (m : Int) + 1 from by omega]
    by_cases hge : md (2000 + (k : Int)) ((m : Int) + 1) ≤ n - ys k - cumN (2000 + (k : Int)) m
    ·have hm2 : m + 1 < 12 := by
      by_cases e : m + 1 < 12
      ·exact e
      ·have : m = 11 := by omega
       subst this
       have h1 := HE.out
       have h2 := ES.out
       rw [h2] at h1
       omega
     go_wp2_with (go_at_call 238; refine (monthDays_any _ _ _ (by omega)).mono ?_; rintro e w' ⟨rfl, rfl⟩)
     go_round
     case rel => exact ⟨m + 1, hm2, by go_num, by rw [ES.out]; go_num, by rw [ES.out]; omega⟩
     case measure => simp [intOf]; omega
    ·have hgeB : decide (md (2000 + (k : Int)) ((m : Int) + 1) ≤ n - ys k - cumN (2000 + (k : Int)) m) = false := decide_eq_false hge
     have r0 := HR.out 0 (by omega)
     have r1 := HR.out 1 (by omega)
     have r2 := HR.out 2 (by omega)
     obtain ⟨r00, r01⟩ := r0
     obtain ⟨r10, r11⟩ := r1
     obtain ⟨r20, r21⟩ := r2
     have HC : Hid (IsCivil n k (m + 1) (n - ys k - cumN (2000 + (k : Int)) m + 1)) := ⟨hk, by omega, by omega, by omega, by rw [show ((m + 1 : Nat) : Int) = (m : Int) + 1 from by omega]; omega, by rw [Nat.add_sub_cancel]; omega⟩
     go_wp2_with (go_at_call 238; refine (monthDays_any _ _ _ (by omega)).mono ?_; rintro e w' ⟨rfl, rfl⟩)
     refine bodyPost_ret (v := .tuple #[.agg #[.int .i64 (2000 + k), .int .i64 ((m : Int) + 1), .int .i64 (n - ys k - cumN (2000 + (k : Int)) m + 1)], .int .i64 0]) (by simp [results, Tryz.results206, go_sem, r00, r10, r20] <;> rfl) rfl ⟨k, m + 1, _, rfl, HC.out, ?_⟩
     exact ((((below_dN HBW.out _).setCell (p := ⟨w.heap.size, 0, none⟩) (Nat.le_refl _) _).setCell (p := ⟨w.heap.size, 1, none⟩) (Nat.le_refl _) _).setCell (p := ⟨w.heap.size, 2, none⟩) (Nat.le_refl _) _)
end Go.Proofs.YtkalfdjmklakdaaGreatDoor.Cal
namespace Go.Proofs.YtkalfdjmklakdaaGreatDoor.Cal
open Go.RowKit
def dateB (y m d : Int) : Bool := decide (2000 ≤ y ∧ y < 2200 ∧ 1 ≤ m ∧ m ≤ 12 ∧ 1 ≤ d ∧ d ≤ md y m)
def dayN (y m d : Int) : Int := ys (y - 2000).toNat + cumN y (m - 1).toNat + d - 1
theorem dateB_iff {y m d : Int} : dateB y m d = true ↔ 2000 ≤ y ∧ y < 2200 ∧ 1 ≤ m ∧ m ≤ 12 ∧ 1 ≤ d ∧ d ≤ md y m := by unfold dateB; exact decide_eq_true_iff
theorem civil_of_date {y m d : Int} (h : dateB y m d = true) : IsCivil (dayN y m d) (y - 2000).toNat m.toNat d := by
 obtain ⟨h1, h2, h3, h4, h5, h6⟩ := dateB_iff.1 h
 have e1 : (2000 + ((y - 2000).toNat : Int)) = y := by omega
 have e2 : ((m.toNat : Nat) : Int) = m := by omega
 refine ⟨by omega, by omega, by omega, h5, by rw [e1, e2]; exact h6, ?_⟩
 rw [e1]
 unfold dayN
 rw [show m.toNat - 1 = (m - 1).toNat from by omega]
theorem date_of_civil {n : Int} {k m : Nat} {d : Int} (h : IsCivil n k m d) : dateB (2000 + k) m d = true ∧ dayN (2000 + k) m d = n := by
 obtain ⟨h1, h2, h3, h4, h5, h6⟩ := h
 refine ⟨dateB_iff.2 ⟨by omega, by omega, by omega, by omega, h4, h5⟩, ?_⟩
 unfold dayN
 rw [show (2000 + (k : Int) - 2000).toNat = k from by omega, show ((m : Int) - 1).toNat = m - 1 from by omega, h6]
set_option maxRecDepth 100000 in
set_option maxHeartbeats 2000000 in
theorem isDate_any (y m d : Int) (w : World) : Calls Tryz.prog 255 #[.agg #[.int .i64 y, .int .i64 m, .int .i64 d]] w fun e w' => e = .returned (.bool (dateB y m d)) ∧ ∃ k, w' = (w.alloc (.cells #[.int .i64 y, .int .i64 m, .int .i64 d] 144)).drewN k := by
 by_cases h1 : 2000 ≤ y
 ·by_cases h2 : y < 2200
  ·by_cases h3 : 1 ≤ m
   ·by_cases h4 : m ≤ 12
    ·by_cases h5 : 1 ≤ d
     ·by_cases h6 : d ≤ md y m
      ·have H : Hid (dateB y m d = true) := dateB_iff.2 ⟨h1, h2, h3, h4, h5, h6⟩
       go_enter Tryz.func255, Tryz.ntmps255
       go_wp2_with fail
       go_quiet ((go_at_call 238; exact Calls.quiet_of_same (monthDays_any _ _ _ (by omega))))
       go_wp2
       go_ret
       exact ⟨cret_bool (by rw [H.out]; try (simp <;> omega)), _, rfl⟩
      ·have H : Hid (dateB y m d = false) := decide_eq_false (by omega)
       have hf : decide (d ≤ md y m) = false := decide_eq_false h6
       go_enter Tryz.func255, Tryz.ntmps255
       go_wp2_with fail
       go_quiet ((go_at_call 238; exact Calls.quiet_of_same (monthDays_any _ _ _ (by omega))))
       go_wp2
       go_ret
       exact ⟨cret_bool (by rw [H.out]; try (simp <;> omega)), _, rfl⟩
     ·have H : Hid (dateB y m d = false) := decide_eq_false (by omega)
      have hf : decide (1 ≤ d) = false := decide_eq_false h5
      go_enter Tryz.func255, Tryz.ntmps255
      go_wp2_with fail
      go_quiet ((go_at_call 238; exact Calls.quiet_of_same (monthDays_any _ _ _ (by omega))))
      go_wp2
      go_ret
      exact ⟨cret_bool (by rw [H.out]; try (simp <;> omega)), _, rfl⟩
    ·have H : Hid (dateB y m d = false) := decide_eq_false (by omega)
     have hf : decide (m ≤ 12) = false := decide_eq_false h4
     go_enter Tryz.func255, Tryz.ntmps255
     go_wp2_with fail
     go_quiet ((go_at_call 238; exact Calls.quiet_of_same (monthDays_any _ _ _ (by omega))))
     go_wp2
     go_ret
     exact ⟨cret_bool (by rw [H.out]; try (simp <;> omega)), _, rfl⟩
   ·have H : Hid (dateB y m d = false) := decide_eq_false (by omega)
    have hf : decide (1 ≤ m) = false := decide_eq_false h3
    go_enter Tryz.func255, Tryz.ntmps255
    go_wp2_with fail
    go_quiet ((go_at_call 238; exact Calls.quiet_of_same (monthDays_any _ _ _ (by omega))))
    go_wp2
    go_ret
    exact ⟨cret_bool (by rw [H.out]; try (simp <;> omega)), _, rfl⟩
  ·have H : Hid (dateB y m d = false) := decide_eq_false (by omega)
   have hf : decide (y < 2200) = false := decide_eq_false h2
   go_enter Tryz.func255, Tryz.ntmps255
   go_wp2_with fail
   go_quiet ((go_at_call 238; exact Calls.quiet_of_same (monthDays_any _ _ _ (by omega))))
   go_wp2
   go_ret
   exact ⟨cret_bool (by rw [H.out]; try (simp <;> omega)), _, rfl⟩
 ·have H : Hid (dateB y m d = false) := decide_eq_false (by omega)
  have hf : decide (2000 ≤ y) = false := decide_eq_false h1
  go_enter Tryz.func255, Tryz.ntmps255
  go_wp2_with fail
  go_quiet ((go_at_call 238; exact Calls.quiet_of_same (monthDays_any _ _ _ (by omega))))
  go_wp2
  go_ret
  exact ⟨cret_bool (by rw [H.out]; try (simp <;> omega)), _, rfl⟩
theorem cret2 {a b c d : Int} (h : a = b) (k : c = d) : Ending.returned (.tuple #[.int .i64 a, .int .i64 c]) = .returned (.tuple #[.int .i64 b, .int .i64 d]) := by rw [h, k]
theorem Day_bad (y m d : Int) (w : World) (h : dateB y m d = false) : Calls Tryz.prog 237 #[.agg #[.int .i64 y, .int .i64 m, .int .i64 d]] w fun e w' => e = .returned (.tuple #[.int .i64 0, .int .i64 3]) ∧ Below w.heap.size w w' := by
 go_enter Tryz.func237, Tryz.ntmps237
 go_wp2_with fail
 refine (isDate_any y m d _).mono ?_
 rintro e w1 ⟨rfl, k1, rfl⟩
 go_wp2_with fail
 go_ret2
 exact ⟨rfl, below_dN (((Below.refl _ _).alloc (Nat.le_refl _) _).alloc (by simp) _) _⟩
set_option maxRecDepth 100000 in
set_option maxHeartbeats 2000000 in
theorem Day_ok (y m d : Int) (w : World) (h : dateB y m d = true) : Calls Tryz.prog 237 #[.agg #[.int .i64 y, .int .i64 m, .int .i64 d]] w fun e w' => e = .returned (.tuple #[.int .i64 (dayN y m d), .int .i64 0]) ∧ Below w.heap.size w w' := by
 obtain ⟨h1, h2, h3, h4, h5, h6⟩ := dateB_iff.1 h
 obtain ⟨k, rfl⟩ : ∃ k : Nat, y = 2000 + (k : Int) := ⟨(y - 2000).toNat, by omega⟩
 obtain ⟨mo, rfl⟩ : ∃ mo : Nat, m = (mo : Int) + 1 := ⟨(m - 1).toNat, by omega⟩
 have HD : Hid (dayN (2000 + k) (mo + 1) d = ys k + cumN (2000 + k) mo + d - 1) := by
  unfold Hid dayN
  rw [show (2000 + (k : Int) - 2000).toNat = k from by omega, show ((mo : Int) + 1 - 1).toNat = mo from by omega]
 have hk : k < 200 := by omega
 have hmd := md_bd (2000 + (k : Int)) ((mo : Int) + 1)
 have hd31 : d ≤ 31 := by omega
 have hyb := ys_bd (k := k) (by omega)
 obtain ⟨hy0, hy1⟩ := hyb
 have HY := Lib.hid (fun k (h : k ≤ 200) => ysL_at h)
 have hin := ysL_info
 have hone := ysL_one
 have hz := zero_size
 have HI := Lib.hid (fun w => isDate_any (2000 + (k : Int)) ((mo : Int) + 1) d w)
 rw [h] at HI
 clear h h6 hmd
 go_enter Tryz.func237, Tryz.ntmps237
 go_wp2_with fail
 refine (HI.out _).mono ?_
 rintro e w0 ⟨rfl, k0, rfl⟩
 go_wp2_with fail
 refine (yearStarts_any _).mono ?_
 rintro e w1 ⟨rfl, hb1⟩
 have HW2 := Lib.hid (starts_world hb1 hb1.size)
 have HR : Hid (∀ j (v : Int), (#[.int .i64 (2000 + (k : Int)), .int .i64 ((mo : Int) + 1), .int .i64 d] : Array Value)[j]? = some (.int .i64 v) → ((w1.alloc (.cells Tryz.zeroCells266 266)).setRow w1.heap.size (arr ysL)).cell? ⟨w.heap.size, j, none⟩ = some (.int .i64 v)) := fun j v hv => by
  have hB := HW2.out.2
  rw [hB.cell (p := ⟨w.heap.size, j, none⟩) (by simp; omega)]
  exact (World.cell?_alloc_past (w := w.alloc (.cells #[.int .i64 (2000 + (k : Int)), .int .i64 ((mo : Int) + 1), .int .i64 d] 144)) _ _ _ (by simp)).trans ((World.cell?_alloc_at (w := w) _ _ _ _ rfl).trans hv)
 have HBB : Hid (Below w.heap.size w ((w1.alloc (.cells Tryz.zeroCells266 266)).setRow w1.heap.size (arr ysL))) :=
  (below_dN (((Below.refl w.heap.size w).alloc (Nat.le_refl _) _).alloc (by simp) _) k0).trans (HW2.out.2.mono (by simp; omega))
 clear hb1
 generalize arr ysL = ya at *
 go_wp2_with (refine wpList_store_row rfl 266 (.tmp 4) (.tmp 10) rfl w1.heap.size ya rfl rfl 266 _ (heap_alloc_new w1 _) hin hz hone ?_; refine Hid.out ?_)
 generalize hW : (w1.alloc (.cells Tryz.zeroCells266 266)).setRow w1.heap.size ya = W at *
 have c0 : W.cell? ⟨w1.heap.size, k, none⟩ = some (.int .i64 (ys k)) := by
  rw [cell_of_row W _ _ _ _ _ HW2.out.1]; exact HY.out k (by omega)
 have r0 := HR.out 0 _ rfl
 have r1 := HR.out 1 _ rfl
 have r2 := HR.out 2 _ rfl
 clear HW2 hW
 generalize w1.heap.size = g at *
 clear hin hz hone
 have hi1 : (k : Int) < 201 := by omega
 refine Lib.hid ?_
 go_wp2_with fail
 go_quiet (fail)
 go_wp2_with fail
 rw [show 2000 + k - 2000 = k from by omega]
 go_loop [5, 6] (fun da mn => ∃ j : Nat, j ≤ mo ∧ mn = .int .i64 ((j : Int) + 1) ∧ da = .int .i64 (ys k + cumN (2000 + k) j + d - 1)) (fun _ mn => mo + 1 - (intOf mn).toNat)
 case atStart => exact ⟨0, Nat.zero_le _, rfl, by simp [cumN]⟩
 case round =>
  obtain ⟨j, hj, rfl, rfl⟩ := hrel
  have cb := cumN_bd (2000 + (k : Int)) j
  have mb := md_bd (2000 + (k : Int)) ((j : Int) + 1)
  have ES : Hid (cumN (2000 + (k : Int)) (j + 1) = cumN (2000 + (k : Int)) j + md (2000 + (k : Int)) ((j : Int) + 1)) := rfl
  by_cases hlt : j < mo
  ·have hlt' : (j : Int) + 1 < (mo : Int) + 1 := by omega
   go_wp2_with (go_at_call 238; refine (monthDays_any _ _ _ (by omega)).mono ?_; rintro e w' ⟨rfl, rfl⟩)
   go_round
   case rel => exact ⟨j + 1, by omega, by go_num, by rw [ES.out]; go_num⟩
   case measure => simp [intOf]; omega
  ·have hje : j = mo := by omega
   subst hje
   go_wp2_with fail
   go_ret2
   exact ⟨cret2 HD.out.symm rfl, below_dN HBB.out _⟩
end Go.Proofs.YtkalfdjmklakdaaGreatDoor.Cal
namespace Go.Proofs.YtkalfdjmklakdaaGreatDoor.Cal
open Go.RowKit
def Tab (w : World) : Prop := Lib.TabIs Tryz.prog w "internal/strconv.uint64pow10" .u64 Lib.pow10Tab
theorem tab_global : Tryz.prog.globalNamed "internal/strconv.uint64pow10" = some 2 := by kernel_rfl
theorem Tab.below {w w' : World} (h : Tab w) (hb : Below w.heap.size w w') : Tab w' := Joins.tab_stays tab_global h hb (Nat.le_refl _)
theorem below_grow (w : World) (k : Nat) (os : Array Obj) : Below w.heap.size w (Sort.grow (w.drewN k) os) :=
 ⟨rfl, rfl, rfl, by rw [Sort.size_grow]; exact Nat.le_add_right _ _, fun i hi => by
  show (w.heap ++ os)[i]? = w.heap[i]?
  rw [Array.getElem?_append_left hi]⟩
theorem itoa_any (n : Int) (h0 : -9223372036854775808 ≤ n) (h1 : n ≤ 9223372036854775807) (w : World) (ht : Tab w) :
 Calls Tryz.prog 219 #[.int .i64 n] w fun e w' => ∃ s : ByteArray, e = .returned (.string s) ∧ Hid (s.data.toList = Lib.itoa n) ∧ s.size ≤ 21 ∧ Below w.heap.size w w' := by
 refine (sh_strconv_Itoa n h0 h1 w ht).mono ?_
 rintro e w' ⟨rfl, k, os, rfl⟩
 refine ⟨_, rfl, by simp [Hid], ?_, below_grow w k os⟩
 have := Lib.itoa_length_le n h0 h1
 simpa [ByteArray.size] using this
def dig (n : Nat) : UInt8 := UInt8.ofNat (48 + n)
theorem two_digits (x : Nat) (h : x < 100) : (Lib.decDigits (100 + x)).drop 1 = [dig (x / 10), dig (x % 10)] := by
 rw [Lib.decDigits, dif_neg (by omega), Lib.decDigits, dif_neg (by omega), Lib.decDigits, dif_pos (by omega)]
 have h1 : (100 + x) / 10 % 10 = x / 10 := by omega
 have h2 : (100 + x) % 10 = x % 10 := by omega
 simp [dig, h1, h2]
theorem ba_ext {s t : ByteArray} (h : s.data.toList = t.data.toList) : s = t := by
 cases s with | mk a => cases t with | mk b => exact congrArg ByteArray.mk (Array.ext' h)
theorem itoa_nat (m : Nat) : Lib.itoa (m : Int) = Lib.decDigits m := by
 unfold Lib.itoa
 rw [if_neg (by omega)]
 rfl
theorem size_toList (s : ByteArray) : s.size = s.data.toList.length := Array.length_toList.symm
theorem ba_append (a b : ByteArray) : (a ++ b).data.toList = a.data.toList ++ b.data.toList := by simp [ByteArray.data_append]
theorem ba_drop (s : ByteArray) (k : Nat) : (s.extract k s.size).data.toList = s.data.toList.drop k := by
 rw [ByteArray.data_extract, Array.toList_extract, List.extract_eq_take_drop, size_toList, ← List.length_drop, List.take_length]
theorem size_three {s : ByteArray} {x : Nat} (h : s.data.toList = Lib.itoa (100 + (x : Int))) (hx : x < 100) : s.size = 3 ∧ s.data.toList.drop 1 = [dig (x / 10), dig (x % 10)] := by
 rw [show (100 + (x : Int)) = ((100 + x : Nat) : Int) from by omega, itoa_nat] at h
 have h2 := two_digits x hx
 rw [← h] at h2
 refine ⟨?_, h2⟩
 have := congrArg List.length h2
 simp at this
 have h3 : Lib.decDigits (100 + x) ≠ [] := by
  rw [Lib.decDigits, dif_neg (by omega)]
  simp
 rw [size_toList]
 have : s.data.toList.length ≠ 0 := by rw [h]; simpa using h3
 simp at *
 omega
def Came (w : World) (a : Option Addr) (l : List Int) : Prop := l.length = 0 ∨ ∃ b off, a = some ⟨b, off, none⟩ ∧ At w b off l
theorem Came.below {w w' : World} {a : Option Addr} {l : List Int} (h : Came w a l) (hb : Below w.heap.size w w') : Came w' a l := by
 rcases h with h | ⟨b, off, rfl, h⟩
 ·exact .inl h
 ·exact .inr ⟨b, off, rfl, h.below hb h.1⟩
theorem lt_of_cell {W : World} {p : Addr} {v : Value} (h : W.cell? p = some v) : p.block < W.heap.size := by
 by_cases hb : p.block < W.heap.size
 ·exact hb
 ·have : W.heap[p.block]? = none := Array.getElem?_eq_none (by omega)
  simp [World.cell?, this] at h
theorem came_of (W : World) (x : Addr) (zs : List Int) (len cap : Nat) (hl : len ≤ cap) (hz : zs.length = cap) (hm : cap ≤ maxLen)
 (hcell : ∀ i, i < zs.length → W.cell? (x.add i) = some (.int .i64 (zs.getD i 0))) (hwz : ∀ n ∈ zs, (Lit.int .i64 n).wf = true) :
 ∃ l : List Int, Came W (some x) l ∧ l.length = len ∧ len ≤ maxLen ∧ ∀ n ∈ l, (Lit.int .i64 n).wf = true := by
 refine ⟨zs.take len, ?_, by simp; omega, by omega, fun n hn => hwz n (List.mem_of_mem_take hn)⟩
 by_cases h0 : len = 0
 ·exact .inl (by simp [h0])
 ·obtain ⟨b, off, spot⟩ := x
  have hc := hcell 0 (by omega)
  have hspot : spot = none := by simpa [Addr.add] using World.cell?_spot hc
  subst hspot
  refine .inr ⟨b, off, rfl, lt_of_cell hc, fun j hj => ?_⟩
  have hj' : j < len := by simp at hj; omega
  have := hcell j (by omega)
  rw [Addr.add_lit] at this
  rw [this]
  simp [nth, List.getD_eq_getElem?_getD, hj']
theorem nth_mem_or {P : Int → Prop} (h0 : P 0) {l : List Int} (h : ∀ x ∈ l, P x) (j : Nat) : P (nth l j) := by
 unfold nth
 rw [List.getD_eq_getElem?_getD]
 cases hj : l[j]? with
 | none => simpa using h0
 | some x => simpa using h x (List.mem_of_getElem? hj)
end Go.Proofs.YtkalfdjmklakdaaGreatDoor.Cal
namespace Go.Proofs.YtkalfdjmklakdaaGreatDoor.Cal
open Go.RowKit
theorem from_drew {W w2 : World} (h : Below W.drew.heap.size W.drew w2) : Below W.heap.size W w2 := (Below.refl W.heap.size W).drew.trans h
end Go.Proofs.YtkalfdjmklakdaaGreatDoor.Cal
namespace Go.Proofs.YtkalfdjmklakdaaGreatDoor.Cal
open Go.RowKit Go.Maps
theorem nth_all {P : Int → Bool} {l : List Int} (h : l.all P = true) {j : Nat} (hj : j < l.length) : P (nth l j) = true := by
 have : nth l j ∈ l := by
  unfold nth
  rw [List.getD_eq_getElem?_getD, List.getElem?_eq_getElem hj]
  exact List.getElem_mem hj
 exact List.all_eq_true.1 h _ this
theorem all_nth {P : Int → Bool} {l : List Int} (h : ∀ j, j < l.length → P (nth l j) = true) : l.all P = true := by
 rw [List.all_eq_true]
 intro x hx
 obtain ⟨j, hj, rfl⟩ := List.mem_iff_getElem.1 hx
 have := h j hj
 simpa [nth, List.getD_eq_getElem?_getD, hj] using this
theorem not_all_nth {P : Int → Bool} {l : List Int} {j : Nat} (hj : j < l.length) (h : P (nth l j) = false) : l.all P = false := by
 rw [Bool.eq_false_iff]
 intro e
 rw [nth_all e hj] at h
 cases h
theorem dayB_iff {x : Int} : dayB x = true ↔ 0 ≤ x ∧ x ≤ 73048 := by unfold dayB; exact decide_eq_true_iff
theorem dayB_not {x : Int} : dayB x = false ↔ ¬ (0 ≤ x ∧ x ≤ 73048) := by unfold dayB; exact decide_eq_false_iff_not
def riseB (l : List Int) : Bool := (List.range (l.length - 1)).all fun j => decide (nth l j < nth l (j + 1))
theorem riseB_iff {l : List Int} : riseB l = true ↔ ∀ j, j + 1 < l.length → nth l j < nth l (j + 1) := by
 unfold riseB
 rw [List.all_eq_true]
 constructor
 ·intro h j hj
  exact of_decide_eq_true (h j (List.mem_range.2 (by omega)))
 ·intro h j hj
  exact decide_eq_true (h j (by have := List.mem_range.1 hj; omega))
theorem riseB_not {l : List Int} {j : Nat} (hj : j + 1 < l.length) (h : nth l (j + 1) ≤ nth l j) : riseB l = false := by
 rw [Bool.eq_false_iff]
 intro e
 have := riseB_iff.1 e j hj
 omega
def checkE (l q : List Int) : Int := if 60 < l.length then 2 else if q.all dayB = false ∨ l.all dayB = false then 3 else if riseB l = false then 4 else 0
theorem checkE_ok {l q : List Int} (h : checkE l q = 0) : l.length ≤ 60 ∧ q.all dayB = true ∧ l.all dayB = true ∧ riseB l = true := by
 unfold checkE at h
 split at h
 ·cases h
 ·split at h
  ·cases h
  ·split at h
   ·cases h
   ·rename_i h1 h2 h3
    rw [not_or] at h2
    refine ⟨by omega, ?_, ?_, ?_⟩
    ·simpa using h2.1
    ·simpa using h2.2
    ·simpa using h3
theorem intLaw : Keyed Tryz.prog 3 := int_keyed Tryz.underlying3
def SetIs (w : World) (b n : Nat) (l : List Int) : Prop := ∃ D : DataW Unit, w.ownsMap Tryz.prog 3 (unitElem (H := Unit)) b n D ∧ ∀ x, Maps.has D (.int .i64 x) = l.contains x
theorem SetIs.alloc {w : World} {b n : Nat} {l : List Int} (h : SetIs w b n l) (o : Obj) : SetIs (w.alloc o) b n l := by
 obtain ⟨D, h1, h2⟩ := h
 exact ⟨D, h1.alloc o, h2⟩
theorem take_contains {l : List Int} {k : Nat} (hk : k < l.length) (x : Int) : (l.take (k + 1)).contains x = (x == nth l k || (l.take k).contains x) := by
 rw [List.take_add_one, List.getElem?_eq_getElem hk]
 have : nth l k = l[k] := by simp [nth, List.getD_eq_getElem?_getD, hk]
 rw [this, Bool.eq_iff_iff]
 simp only [Option.toList, List.contains_eq_mem, List.mem_append, List.mem_singleton, decide_eq_true_eq, Bool.or_eq_true, beq_iff_eq]
 exact or_comm
theorem key_day {x : Int} (h : dayB x = true) : keyOf Tryz.prog 3 (.int .i64 x) = some (.int .i64 x) := by
 have := dayB_iff.1 h
 exact keyOf_int_mk Tryz.underlying3 (WalkArith.wf_i64 (by omega))
theorem set_put {D : DataW Unit} {l : List Int} {k : Nat} (hm : IsMap D) (hk : k < l.length) (h : ∀ x, Maps.has D (.int .i64 x) = (l.take k).contains x) (x : Int) :
 Maps.has (D.put (.int .i64 (nth l k)) (.agg [])) (.int .i64 x) = (l.take (k + 1)).contains x := by
 rw [take_contains hk]
 by_cases e : x = nth l k
 ·subst e
  rw [has_put_same hm (show WideAt.IsKeyLit (.int .i64 (nth l k)) from trivial)]
  simp
 ·rw [has_put_other (by intro q; cases q; exact e rfl), h]
  simp [e]
def workB (l : List Int) (x : Int) : Bool := decide (wkd x < 5) && !l.contains x
def NextIs (l : List Int) (d r e : Int) : Prop := (e = 0 ∧ d ≤ r ∧ r ≤ 73048 ∧ workB l r = true ∧ ∀ j, d ≤ j → j < r → workB l j = false) ∨ (e = 5 ∧ r = 0 ∧ ∀ j, d ≤ j → j ≤ 73048 → workB l j = false)
theorem NextIs.unique {l : List Int} {d r e r' e' : Int} (h : NextIs l d r e) (h' : NextIs l d r' e') : r = r' ∧ e = e' := by
 rcases h with ⟨a1, a2, a3, a4, a5⟩ | ⟨a1, a2, a3⟩ <;> rcases h' with ⟨b1, b2, b3, b4, b5⟩ | ⟨b1, b2, b3⟩
 ·refine ⟨?_, by omega⟩
  by_cases h1 : r < r'
  ·rw [b5 r a2 h1] at a4; cases a4
  ·by_cases h2 : r' < r
   ·rw [a5 r' b2 h2] at b4; cases b4
   ·omega
 ·rw [b3 r a2 a3] at a4; cases a4
 ·rw [a3 r' b2 b3] at b4; cases b4
 ·exact ⟨by omega, by omega⟩
def NextE (l : List Int) (d r e : Int) : Prop := (checkE l [d] ≠ 0 ∧ r = 0 ∧ e = checkE l [d]) ∨ (checkE l [d] = 0 ∧ NextIs l d r e)
theorem NextE.unique {l : List Int} {d r e r' e' : Int} (h : NextE l d r e) (h' : NextE l d r' e') : r = r' ∧ e = e' := by
 rcases h with ⟨a1, a2, a3⟩ | ⟨a1, a2⟩ <;> rcases h' with ⟨b1, b2, b3⟩ | ⟨b1, b2⟩
 ·exact ⟨by omega, by omega⟩
 ·exact absurd b1 a1
 ·exact absurd a1 b1
 ·exact a2.unique b2
theorem checkE_bd (l q : List Int) : 0 ≤ checkE l q ∧ checkE l q ≤ 4 := by
 unfold checkE
 split
 ·omega
 ·split
  ·omega
  ·split <;> omega
theorem came_one (w : World) (d : Int) : Came (w.alloc (.cells #[.int .i64 d] 3)) (some ⟨w.heap.size, 0, none⟩) [d] := by
 refine .inr ⟨_, _, rfl, by simp, fun j hj => ?_⟩
 have : j = 0 := by simp at hj; omega
 subst this
 simp [nth]
theorem Came.dN {w : World} {a : Option Addr} {l : List Int} (h : Came w a l) (k : Nat) : Came (w.drewN k) a l := h
end Go.Proofs.YtkalfdjmklakdaaGreatDoor.Cal
namespace Go.Proofs.YtkalfdjmklakdaaGreatDoor.Cal
open Go.RowKit Go.Maps
theorem isDay_ref (n : Int) (w : World) : Calls Tryz.prog 37 #[.int .i64 n] w fun e w' => e = .returned (.bool (dayB n)) ∧ w' = w := by
 by_cases h1 : 0 ≤ n
 ·by_cases h2 : n ≤ 73048
  ·have H : Hid (dayB n = true) := decide_eq_true ⟨h1, h2⟩
   go_enter Tryz.func37, Tryz.ntmps37
   go_wp2
   go_ret
   exact ⟨cret_bool (by rw [H.out]; try (simp <;> omega)), rfl⟩
  ·have H : Hid (dayB n = false) := decide_eq_false (by omega)
   go_enter Tryz.func37, Tryz.ntmps37
   go_wp2
   go_ret
   exact ⟨cret_bool (by rw [H.out]; try (simp <;> omega)), rfl⟩
 ·have H : Hid (dayB n = false) := decide_eq_false (by omega)
  have hd : decide (0 ≤ n) = false := decide_eq_false h1
  go_enter Tryz.func37, Tryz.ntmps37
  go_wp2
  go_ret
  exact ⟨cret_bool (by rw [H.out]), rfl⟩
set_option maxHeartbeats 1000000 in
theorem monthDays_ref (y m : Int) (w : World) (h0 : 0 ≤ y) (h1 : 1 ≤ m) (h2 : m ≤ 12) : Calls Tryz.prog 122 #[.int .i64 y, .int .i64 m] w fun e w' => e = .returned (.int .i64 (md y m)) ∧ Below w.heap.size w w' := by
 have hc : m = 1 ∨ m = 2 ∨ m = 3 ∨ m = 4 ∨ m = 5 ∨ m = 6 ∨ m = 7 ∨ m = 8 ∨ m = 9 ∨ m = 10 ∨ m = 11 ∨ m = 12 := by omega
 clear h1 h2
 rcases hc with rfl | rfl | rfl | rfl | rfl | rfl | rfl | rfl | rfl | rfl | rfl | rfl
 ·go_enter Tryz.func122, Tryz.ntmps122
  go_wp2_with fail
  go_ret
  exact ⟨cret_int (by simp [md]), (Below.refl _ _).alloc (Nat.le_refl _) _⟩
 ·cases hl : lp y
  ·go_enter Tryz.func122, Tryz.ntmps122
   go_wp2_with (go_at_call 169; refine (leap_ref _ _ h0).mono ?_; rintro e w' ⟨rfl, rfl⟩)
   go_ret
   exact ⟨cret_int (by simp [md, hl]), (Below.refl _ _).alloc (Nat.le_refl _) _⟩
  ·go_enter Tryz.func122, Tryz.ntmps122
   go_wp2_with (go_at_call 169; refine (leap_ref _ _ h0).mono ?_; rintro e w' ⟨rfl, rfl⟩)
   go_ret
   exact ⟨cret_int (by simp [md, hl]), (Below.refl _ _).alloc (Nat.le_refl _) _⟩
 ·go_enter Tryz.func122, Tryz.ntmps122
  go_wp2_with fail
  go_ret
  exact ⟨cret_int (by simp [md]), (Below.refl _ _).alloc (Nat.le_refl _) _⟩
 ·go_enter Tryz.func122, Tryz.ntmps122
  go_wp2_with fail
  go_ret
  exact ⟨cret_int (by simp [md]), (Below.refl _ _).alloc (Nat.le_refl _) _⟩
 ·go_enter Tryz.func122, Tryz.ntmps122
  go_wp2_with fail
  go_ret
  exact ⟨cret_int (by simp [md]), (Below.refl _ _).alloc (Nat.le_refl _) _⟩
 ·go_enter Tryz.func122, Tryz.ntmps122
  go_wp2_with fail
  go_ret
  exact ⟨cret_int (by simp [md]), (Below.refl _ _).alloc (Nat.le_refl _) _⟩
 ·go_enter Tryz.func122, Tryz.ntmps122
  go_wp2_with fail
  go_ret
  exact ⟨cret_int (by simp [md]), (Below.refl _ _).alloc (Nat.le_refl _) _⟩
 ·go_enter Tryz.func122, Tryz.ntmps122
  go_wp2_with fail
  go_ret
  exact ⟨cret_int (by simp [md]), (Below.refl _ _).alloc (Nat.le_refl _) _⟩
 ·go_enter Tryz.func122, Tryz.ntmps122
  go_wp2_with fail
  go_ret
  exact ⟨cret_int (by simp [md]), (Below.refl _ _).alloc (Nat.le_refl _) _⟩
 ·go_enter Tryz.func122, Tryz.ntmps122
  go_wp2_with fail
  go_ret
  exact ⟨cret_int (by simp [md]), (Below.refl _ _).alloc (Nat.le_refl _) _⟩
 ·go_enter Tryz.func122, Tryz.ntmps122
  go_wp2_with fail
  go_ret
  exact ⟨cret_int (by simp [md]), (Below.refl _ _).alloc (Nat.le_refl _) _⟩
 ·go_enter Tryz.func122, Tryz.ntmps122
  go_wp2_with fail
  go_ret
  exact ⟨cret_int (by simp [md]), (Below.refl _ _).alloc (Nat.le_refl _) _⟩
theorem yd_cases (y : Int) : (lp y = true ∧ yd y = 366) ∨ (lp y = false ∧ yd y = 365) := by
 unfold yd
 cases lp y <;> simp
end Go.Proofs.YtkalfdjmklakdaaGreatDoor.Cal
namespace Go.Proofs.YtkalfdjmklakdaaGreatDoor.Cal
open Go.RowKit Go.Maps
set_option maxRecDepth 100000 in
set_option maxHeartbeats 4000000 in
theorem civil_ref (n : Int) (w : World) (h : dayB n = true) : Calls Tryz.prog 121 #[.int .i64 n] w fun e w' => ∃ (k m : Nat) (d : Int), e = .returned (.agg #[.int .i64 (2000 + k), .int .i64 m, .int .i64 d]) ∧ IsCivil n k m d ∧ Below w.heap.size w w' := by
 obtain ⟨h0, h1⟩ : 0 ≤ n ∧ n ≤ 73048 := of_decide_eq_true h
 clear h
 go_enter Tryz.func121, Tryz.ntmps121
 go_wp2_with fail
 go_loop [0, 3] (fun dv yv => ∃ k : Nat, k < 200 ∧ yv = .int .i64 (2000 + k) ∧ dv = .int .i64 (n - ys k) ∧ 0 ≤ n - ys k) (fun _ yv => 2200 - (intOf yv).toNat)
 case atStart => exact ⟨0, by omega, rfl, by simp [ys], by simp [ys]; omega⟩
 case round =>
  obtain ⟨k, hk, rfl, rfl, hr⟩ := hrel
  have b1 := ys_bd (k := k) (by omega)
  obtain ⟨b10, b11⟩ := b1
  rcases yd_cases (2000 + (k : Int)) with ⟨hl, hyd⟩ | ⟨hl, hyd⟩
  ·have HY0 : Hid (yd (2000 + (k : Int)) = 366) := hyd
   by_cases hlt : n - ys k < 366
   ·have HY : Hid (n - ys k < yd (2000 + (k : Int))) := by unfold Hid; rw [hyd]; exact hlt
    clear hyd
    go_wp2_with (go_at_call 169; refine (leap_ref _ _ (by omega)).mono ?_; rintro e w' ⟨rfl, rfl⟩)
    have HE : Hid (n - ys k < cumN (2000 + k) 12) := by
     unfold Hid; rw [cumN_12]; have := HY.out; omega
    go_loopw [0, 5] (fun re mo wr => ∃ m : Nat, m < 12 ∧ mo = .int .i64 ((m : Int) + 1) ∧ re = .int .i64 (n - ys k - cumN (2000 + k) m) ∧ 0 ≤ n - ys k - cumN (2000 + k) m ∧ Below (w.heap.size + 1) (w.alloc (.cells #[.int .i64 0, .int .i64 0, .int .i64 0] 144)) wr) (fun _ mo _ => 13 - (intOf mo).toNat)
    case atStart => exact ⟨0, by omega, rfl, by simp [cumN], by simp [cumN]; omega, Below.refl _ _⟩
    case round =>
     obtain ⟨m, hm, rfl, rfl, hr0, hb⟩ := hrel
     have HB := Lib.hid hb
     clear hb
     have cb := cumN_bd (2000 + (k : Int)) m
     have mb := md_bd (2000 + (k : Int)) ((m : Int) + 1)
     have ES : Hid (cumN (2000 + (k : Int)) (m + 1) = cumN (2000 + (k : Int)) m + md (2000 + (k : Int)) ((m : Int) + 1)) := rfl
     by_cases hge : md (2000 + (k : Int)) ((m : Int) + 1) ≤ n - ys k - cumN (2000 + (k : Int)) m
     ·have hm2 : m + 1 < 12 := by
       by_cases e : m + 1 < 12
       ·exact e
       ·have : m = 11 := by omega
        subst this
        have h1 := HE.out
        have h2 := ES.out
        rw [h2] at h1
        omega
      go_wp2_with fail
      refine (monthDays_ref _ _ _ (by omega) (by omega) (by omega)).mono ?_
      rintro e w2 ⟨rfl, hbm⟩
      have HB2 := Lib.hid (HB.out.trans (hbm.mono (by simpa using HB.out.size)))
      clear hbm
      go_wp2_with fail
      refine (monthDays_ref _ _ _ (by omega) (by omega) (by omega)).mono ?_
      rintro e w3 ⟨rfl, hbm⟩
      have HB3 := Lib.hid (HB2.out.trans (hbm.mono (by simpa using HB2.out.size)))
      clear hbm
      go_wp2_with fail
      go_roundw
      case rel => exact ⟨m + 1, hm2, by go_num, by rw [ES.out]; go_num, by rw [ES.out]; omega, HB3.out⟩
      case measure => simp [intOf]; omega
     ·have hgeB : decide (md (2000 + (k : Int)) ((m : Int) + 1) ≤ n - ys k - cumN (2000 + (k : Int)) m) = false := decide_eq_false hge
      have HC : Hid (IsCivil n k (m + 1) (n - ys k - cumN (2000 + (k : Int)) m + 1)) := ⟨hk, by omega, by omega, by omega, by rw [show ((m + 1 : Nat) : Int) = (m : Int) + 1 from by omega]; omega, by rw [Nat.add_sub_cancel]; omega⟩
      go_wp2_with fail
      refine (monthDays_ref _ _ _ (by omega) (by omega) (by omega)).mono ?_
      rintro e w2 ⟨rfl, hbm⟩
      have HB2 := Lib.hid (HB.out.trans (hbm.mono (by simpa using HB.out.size)))
      clear hbm
      have HR : Hid (∀ j, j < 3 → (w2.cell? ⟨w.heap.size, j, none⟩ = some (.int .i64 0) ∧ w2.frozen? ⟨w.heap.size, j, none⟩ = false)) := fun j hj => by
       have hB := HB2.out
       rw [hB.cell (p := ⟨w.heap.size, j, none⟩) (by simp), hB.frozen (p := ⟨w.heap.size, j, none⟩) (by simp)]
       match j, hj with
       | 0, _ => simp
       | 1, _ => simp
       | 2, _ => simp
      obtain ⟨r00, r01⟩ := HR.out 0 (by omega)
      obtain ⟨r10, r11⟩ := HR.out 1 (by omega)
      obtain ⟨r20, r21⟩ := HR.out 2 (by omega)
      go_wp2_with fail
      refine bodyPost_ret (v := .agg #[.int .i64 (2000 + k), .int .i64 ((m : Int) + 1), .int .i64 (n - ys k - cumN (2000 + (k : Int)) m + 1)]) (by simp [results, Tryz.results121, go_sem, r00, r10, r20] <;> rfl) rfl ⟨k, m + 1, _, rfl, HC.out, ?_⟩
      exact (((((Below.refl w.heap.size w).alloc (Nat.le_refl _) _).trans (HB2.out.mono (Nat.le_succ _))).setCell (p := ⟨w.heap.size, 0, none⟩) (Nat.le_refl _) _).setCell (p := ⟨w.heap.size, 1, none⟩) (Nat.le_refl _) _).setCell (p := ⟨w.heap.size, 2, none⟩) (Nat.le_refl _) _
   ·have hltB : decide (n - ys k < 366) = false := decide_eq_false hlt
    have ES : Hid (ys (k + 1) = ys k + 366) := by unfold Hid; rw [ys, hyd]
    have hk2 : k + 1 < 200 := by
     by_cases e : k + 1 < 200
     ·exact e
     ·have e2 : k + 1 = 200 := by omega
      have := ES.out
      rw [e2, ys_200] at this
      omega
    clear hyd
    go_wp2_with (go_at_call 169; refine (leap_ref _ _ (by omega)).mono ?_; rintro e w' ⟨rfl, rfl⟩)
    go_round
    case rel => exact ⟨k + 1, hk2, by go_num, by rw [ES.out]; go_num, by rw [ES.out]; omega⟩
    case measure => simp [intOf]; omega
  ·have HY0 : Hid (yd (2000 + (k : Int)) = 365) := hyd
   by_cases hlt : n - ys k < 365
   ·have HY : Hid (n - ys k < yd (2000 + (k : Int))) := by unfold Hid; rw [hyd]; exact hlt
    clear hyd
    go_wp2_with (go_at_call 169; refine (leap_ref _ _ (by omega)).mono ?_; rintro e w' ⟨rfl, rfl⟩)
    have HE : Hid (n - ys k < cumN (2000 + k) 12) := by
     unfold Hid; rw [cumN_12]; have := HY.out; omega
    go_loopw [0, 5] (fun re mo wr => ∃ m : Nat, m < 12 ∧ mo = .int .i64 ((m : Int) + 1) ∧ re = .int .i64 (n - ys k - cumN (2000 + k) m) ∧ 0 ≤ n - ys k - cumN (2000 + k) m ∧ Below (w.heap.size + 1) (w.alloc (.cells #[.int .i64 0, .int .i64 0, .int .i64 0] 144)) wr) (fun _ mo _ => 13 - (intOf mo).toNat)
    case atStart => exact ⟨0, by omega, rfl, by simp [cumN], by simp [cumN]; omega, Below.refl _ _⟩
    case round =>
     obtain ⟨m, hm, rfl, rfl, hr0, hb⟩ := hrel
     have HB := Lib.hid hb
     clear hb
     have cb := cumN_bd (2000 + (k : Int)) m
     have mb := md_bd (2000 + (k : Int)) ((m : Int) + 1)
     have ES : Hid (cumN (2000 + (k : Int)) (m + 1) = cumN (2000 + (k : Int)) m + md (2000 + (k : Int)) ((m : Int) + 1)) := rfl
     by_cases hge : md (2000 + (k : Int)) ((m : Int) + 1) ≤ n - ys k - cumN (2000 + (k : Int)) m
     ·have hm2 : m + 1 < 12 := by
       by_cases e : m + 1 < 12
       ·exact e
       ·have : m = 11 := by omega
        subst this
        have h1 := HE.out
        have h2 := ES.out
        rw [h2] at h1
        omega
      go_wp2_with fail
      refine (monthDays_ref _ _ _ (by omega) (by omega) (by omega)).mono ?_
      rintro e w2 ⟨rfl, hbm⟩
      have HB2 := Lib.hid (HB.out.trans (hbm.mono (by simpa using HB.out.size)))
      clear hbm
      go_wp2_with fail
      refine (monthDays_ref _ _ _ (by omega) (by omega) (by omega)).mono ?_
      rintro e w3 ⟨rfl, hbm⟩
      have HB3 := Lib.hid (HB2.out.trans (hbm.mono (by simpa using HB2.out.size)))
      clear hbm
      go_wp2_with fail
      go_roundw
      case rel => exact ⟨m + 1, hm2, by go_num, by rw [ES.out]; go_num, by rw [ES.out]; omega, HB3.out⟩
      case measure => simp [intOf]; omega
     ·have hgeB : decide (md (2000 + (k : Int)) ((m : Int) + 1) ≤ n - ys k - cumN (2000 + (k : Int)) m) = false := decide_eq_false hge
      have HC : Hid (IsCivil n k (m + 1) (n - ys k - cumN (2000 + (k : Int)) m + 1)) := ⟨hk, by omega, by omega, by omega, by rw [show ((m + 1 : Nat) : Int) = (m : Int) + 1 from by omega]; omega, by rw [Nat.add_sub_cancel]; omega⟩
      go_wp2_with fail
      refine (monthDays_ref _ _ _ (by omega) (by omega) (by omega)).mono ?_
      rintro e w2 ⟨rfl, hbm⟩
      have HB2 := Lib.hid (HB.out.trans (hbm.mono (by simpa using HB.out.size)))
      clear hbm
      have HR : Hid (∀ j, j < 3 → (w2.cell? ⟨w.heap.size, j, none⟩ = some (.int .i64 0) ∧ w2.frozen? ⟨w.heap.size, j, none⟩ = false)) := fun j hj => by
       have hB := HB2.out
       rw [hB.cell (p := ⟨w.heap.size, j, none⟩) (by simp), hB.frozen (p := ⟨w.heap.size, j, none⟩) (by simp)]
       match j, hj with
       | 0, _ => simp
       | 1, _ => simp
       | 2, _ => simp
      obtain ⟨r00, r01⟩ := HR.out 0 (by omega)
      obtain ⟨r10, r11⟩ := HR.out 1 (by omega)
      obtain ⟨r20, r21⟩ := HR.out 2 (by omega)
      go_wp2_with fail
      refine bodyPost_ret (v := .agg #[.int .i64 (2000 + k), .int .i64 ((m : Int) + 1), .int .i64 (n - ys k - cumN (2000 + (k : Int)) m + 1)]) (by simp [results, Tryz.results121, go_sem, r00, r10, r20] <;> rfl) rfl ⟨k, m + 1, _, rfl, HC.out, ?_⟩
      exact (((((Below.refl w.heap.size w).alloc (Nat.le_refl _) _).trans (HB2.out.mono (Nat.le_succ _))).setCell (p := ⟨w.heap.size, 0, none⟩) (Nat.le_refl _) _).setCell (p := ⟨w.heap.size, 1, none⟩) (Nat.le_refl _) _).setCell (p := ⟨w.heap.size, 2, none⟩) (Nat.le_refl _) _
   ·have hltB : decide (n - ys k < 365) = false := decide_eq_false hlt
    have ES : Hid (ys (k + 1) = ys k + 365) := by unfold Hid; rw [ys, hyd]
    have hk2 : k + 1 < 200 := by
     by_cases e : k + 1 < 200
     ·exact e
     ·have e2 : k + 1 = 200 := by omega
      have := ES.out
      rw [e2, ys_200] at this
      omega
    clear hyd
    go_wp2_with (go_at_call 169; refine (leap_ref _ _ (by omega)).mono ?_; rintro e w' ⟨rfl, rfl⟩)
    go_round
    case rel => exact ⟨k + 1, hk2, by go_num, by rw [ES.out]; go_num, by rw [ES.out]; omega⟩
    case measure => simp [intOf]; omega
theorem box_cells {w w2 : World} {y m d : Int} (h : Below (w.heap.size + 1) (w.alloc (.cells #[.int .i64 y, .int .i64 m, .int .i64 d] 144)) w2) :
 w2.cell? ⟨w.heap.size, 0, none⟩ = some (.int .i64 y) ∧ w2.cell? ⟨w.heap.size, 1, none⟩ = some (.int .i64 m) ∧ w2.cell? ⟨w.heap.size, 2, none⟩ = some (.int .i64 d) := by
 rw [h.cell (p := ⟨w.heap.size, 0, none⟩) (by simp), h.cell (p := ⟨w.heap.size, 1, none⟩) (by simp), h.cell (p := ⟨w.heap.size, 2, none⟩) (by simp)]
 refine ⟨?_, ?_, ?_⟩ <;> simp
end Go.Proofs.YtkalfdjmklakdaaGreatDoor.Cal
