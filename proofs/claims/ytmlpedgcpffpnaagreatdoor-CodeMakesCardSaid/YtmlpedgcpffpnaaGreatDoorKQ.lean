/-
  Promise J2: the reference's WrongOp.
  Promise J2: the reference's WrongOp at jumps and tests, and whatever the kind.
-/
import Derived.Test.YtmlpedgcpffpnaaGreatDoorKP
set_option linter.unusedSimpArgs false
namespace Go.Proofs.YtmlpedgcpffpnaaGreatDoor
open Go.RowKit
def woE (d z lines : Int) (n1 n2 n3 n at_ : Nat) : Int := if d < 1 ∨ 16 < d then 7 else if fitsB d z lines n1 n2 n3 n at_ = false then 3 else 0
def WoIs (d z lines : Int) (b off n cap i : Nat) (a1 a2 a3 : Option Addr) (n1 c1 n2 c2 n3 c3 : Nat) (w : World) : Prop :=
 Calls Tryz.prog 32 #[.slice (some ⟨b, off, none⟩) n cap, .int .i64 (i : Int), .int .i64 lines, .agg #[.slice a1 n1 c1, .slice a2 n2 c2, .slice a3 n3 c3]] w fun e w' => e = .returned (.int .i64 (woE d z lines n1 n2 n3 n i)) ∧ Below w.heap.size w w'
set_option maxRecDepth 100000 in
set_option maxHeartbeats 2000000 in
theorem wo_2 (z lines : Int) (b off n cap i : Nat) (a1 a2 a3 : Option Addr) (n1 c1 n2 c2 n3 c3 : Nat) (w : World) (hi : i < n) (x0 : w.cell? ⟨b, off + i * 2, none⟩ = some (.int .i64 2)) (x1 : w.cell? ⟨b, off + i * 2 + 1, none⟩ = some (.int .i64 z)) : WoIs 2 z lines b off n cap i a1 a2 a3 n1 c1 n2 c2 n3 c3 w := by
 unfold WoIs
 have hi' : (i : Int) < (n : Int) := by omega
 have hbx := kbelow_box w (.cells #[.slice a1 n1 c1, .slice a2 n2 c2, .slice a3 n3 c3] 26)
 have y0 : (w.alloc (.cells #[.slice a1 n1 c1, .slice a2 n2 c2, .slice a3 n3 c3] 26)).drew.cell? ⟨b, off + i * 2, none⟩ = some (.int .i64 2) := (hbx.cell (p := ⟨b, off + i * 2, none⟩) (blt_of_cell x0)).trans x0
 have y1 : (w.alloc (.cells #[.slice a1 n1 c1, .slice a2 n2 c2, .slice a3 n3 c3] 26)).drew.cell? ⟨b, off + i * 2 + 1, none⟩ = some (.int .i64 z) := (hbx.cell (p := ⟨b, off + i * 2 + 1, none⟩) (blt_of_cell x1)).trans x1
 have HB : Hid (Below w.heap.size w (w.alloc (.cells #[.slice a1 n1 c1, .slice a2 n2 c2, .slice a3 n3 c3] 26)).drew) := hbx.drew
 clear hbx x0 x1
 have HW : Hid (woE 2 z lines n1 n2 n3 n i = if decide (0 ≤ z ∧ z < (n1 : Int)) = false then 3 else 0) := by unfold Hid woE; rw [if_neg (by omega)]; simp [fitsB, fitB, lowB]
 by_cases t1 : 0 ≤ z
 ·have t1B : decide (0 ≤ z) = true := decide_eq_true t1
  by_cases t2 : z < (n1 : Int)
  ·have t2B : decide (z < (n1 : Int)) = true := decide_eq_true t2
   have HR : Hid (woE 2 z lines n1 n2 n3 n i = 0) := by unfold Hid; rw [HW.out, decide_eq_true ⟨t1, t2⟩]; rfl
   clear HW
   go_enter Tryz.func32, Tryz.ntmps32
   go_wp2_with fail
   go_region
   go_wp2_with fail
   go_ret
   exact ⟨kret_int HR.out.symm, HB.out⟩
  ·have t2B : decide (z < (n1 : Int)) = false := decide_eq_false t2
   have HR : Hid (woE 2 z lines n1 n2 n3 n i = 3) := by unfold Hid; rw [HW.out, decide_eq_false (fun h => t2 h.2)]; rfl
   clear HW
   go_enter Tryz.func32, Tryz.ntmps32
   go_wp2_with fail
   go_region
   go_wp2_with fail
   go_ret
   exact ⟨kret_int HR.out.symm, HB.out⟩
 ·have t1B : decide (0 ≤ z) = false := decide_eq_false t1
  have HR : Hid (woE 2 z lines n1 n2 n3 n i = 3) := by unfold Hid; rw [HW.out, decide_eq_false (fun h => t1 h.1)]; rfl
  clear HW
  go_enter Tryz.func32, Tryz.ntmps32
  go_wp2_with fail
  go_region
  go_wp2_with fail
  go_ret
  exact ⟨kret_int HR.out.symm, HB.out⟩
set_option maxRecDepth 100000 in
set_option maxHeartbeats 2000000 in
theorem wo_3 (z lines : Int) (b off n cap i : Nat) (a1 a2 a3 : Option Addr) (n1 c1 n2 c2 n3 c3 : Nat) (w : World) (hi : i < n) (x0 : w.cell? ⟨b, off + i * 2, none⟩ = some (.int .i64 3)) (x1 : w.cell? ⟨b, off + i * 2 + 1, none⟩ = some (.int .i64 z)) : WoIs 3 z lines b off n cap i a1 a2 a3 n1 c1 n2 c2 n3 c3 w := by
 unfold WoIs
 have hi' : (i : Int) < (n : Int) := by omega
 have hbx := kbelow_box w (.cells #[.slice a1 n1 c1, .slice a2 n2 c2, .slice a3 n3 c3] 26)
 have y0 : (w.alloc (.cells #[.slice a1 n1 c1, .slice a2 n2 c2, .slice a3 n3 c3] 26)).drew.cell? ⟨b, off + i * 2, none⟩ = some (.int .i64 3) := (hbx.cell (p := ⟨b, off + i * 2, none⟩) (blt_of_cell x0)).trans x0
 have y1 : (w.alloc (.cells #[.slice a1 n1 c1, .slice a2 n2 c2, .slice a3 n3 c3] 26)).drew.cell? ⟨b, off + i * 2 + 1, none⟩ = some (.int .i64 z) := (hbx.cell (p := ⟨b, off + i * 2 + 1, none⟩) (blt_of_cell x1)).trans x1
 have HB : Hid (Below w.heap.size w (w.alloc (.cells #[.slice a1 n1 c1, .slice a2 n2 c2, .slice a3 n3 c3] 26)).drew) := hbx.drew
 clear hbx x0 x1
 have HW : Hid (woE 3 z lines n1 n2 n3 n i = if decide (0 ≤ z ∧ z < lines) = false then 3 else 0) := by unfold Hid woE; rw [if_neg (by omega)]; simp [fitsB, fitB, lowB]
 by_cases t1 : 0 ≤ z
 ·have t1B : decide (0 ≤ z) = true := decide_eq_true t1
  by_cases t2 : z < lines
  ·have t2B : decide (z < lines) = true := decide_eq_true t2
   have HR : Hid (woE 3 z lines n1 n2 n3 n i = 0) := by unfold Hid; rw [HW.out, decide_eq_true ⟨t1, t2⟩]; rfl
   clear HW
   go_enter Tryz.func32, Tryz.ntmps32
   go_wp2_with fail
   go_region
   go_wp2_with fail
   go_ret
   exact ⟨kret_int HR.out.symm, HB.out⟩
  ·have t2B : decide (z < lines) = false := decide_eq_false t2
   have HR : Hid (woE 3 z lines n1 n2 n3 n i = 3) := by unfold Hid; rw [HW.out, decide_eq_false (fun h => t2 h.2)]; rfl
   clear HW
   go_enter Tryz.func32, Tryz.ntmps32
   go_wp2_with fail
   go_region
   go_wp2_with fail
   go_ret
   exact ⟨kret_int HR.out.symm, HB.out⟩
 ·have t1B : decide (0 ≤ z) = false := decide_eq_false t1
  have HR : Hid (woE 3 z lines n1 n2 n3 n i = 3) := by unfold Hid; rw [HW.out, decide_eq_false (fun h => t1 h.1)]; rfl
  clear HW
  go_enter Tryz.func32, Tryz.ntmps32
  go_wp2_with fail
  go_region
  go_wp2_with fail
  go_ret
  exact ⟨kret_int HR.out.symm, HB.out⟩
set_option maxRecDepth 100000 in
set_option maxHeartbeats 2000000 in
theorem wo_16 (z lines : Int) (b off n cap i : Nat) (a1 a2 a3 : Option Addr) (n1 c1 n2 c2 n3 c3 : Nat) (w : World) (hi : i < n) (x0 : w.cell? ⟨b, off + i * 2, none⟩ = some (.int .i64 16)) (x1 : w.cell? ⟨b, off + i * 2 + 1, none⟩ = some (.int .i64 z)) : WoIs 16 z lines b off n cap i a1 a2 a3 n1 c1 n2 c2 n3 c3 w := by
 unfold WoIs
 have hi' : (i : Int) < (n : Int) := by omega
 have hbx := kbelow_box w (.cells #[.slice a1 n1 c1, .slice a2 n2 c2, .slice a3 n3 c3] 26)
 have y0 : (w.alloc (.cells #[.slice a1 n1 c1, .slice a2 n2 c2, .slice a3 n3 c3] 26)).drew.cell? ⟨b, off + i * 2, none⟩ = some (.int .i64 16) := (hbx.cell (p := ⟨b, off + i * 2, none⟩) (blt_of_cell x0)).trans x0
 have y1 : (w.alloc (.cells #[.slice a1 n1 c1, .slice a2 n2 c2, .slice a3 n3 c3] 26)).drew.cell? ⟨b, off + i * 2 + 1, none⟩ = some (.int .i64 z) := (hbx.cell (p := ⟨b, off + i * 2 + 1, none⟩) (blt_of_cell x1)).trans x1
 have HB : Hid (Below w.heap.size w (w.alloc (.cells #[.slice a1 n1 c1, .slice a2 n2 c2, .slice a3 n3 c3] 26)).drew) := hbx.drew
 clear hbx x0 x1
 have HW : Hid (woE 16 z lines n1 n2 n3 n i = if decide (0 ≤ z ∧ z < lines) = false then 3 else 0) := by unfold Hid woE; rw [if_neg (by omega)]; simp [fitsB, fitB, lowB]
 by_cases t1 : 0 ≤ z
 ·have t1B : decide (0 ≤ z) = true := decide_eq_true t1
  by_cases t2 : z < lines
  ·have t2B : decide (z < lines) = true := decide_eq_true t2
   have HR : Hid (woE 16 z lines n1 n2 n3 n i = 0) := by unfold Hid; rw [HW.out, decide_eq_true ⟨t1, t2⟩]; rfl
   clear HW
   go_enter Tryz.func32, Tryz.ntmps32
   go_wp2_with fail
   go_region
   go_wp2_with fail
   go_ret
   exact ⟨kret_int HR.out.symm, HB.out⟩
  ·have t2B : decide (z < lines) = false := decide_eq_false t2
   have HR : Hid (woE 16 z lines n1 n2 n3 n i = 3) := by unfold Hid; rw [HW.out, decide_eq_false (fun h => t2 h.2)]; rfl
   clear HW
   go_enter Tryz.func32, Tryz.ntmps32
   go_wp2_with fail
   go_region
   go_wp2_with fail
   go_ret
   exact ⟨kret_int HR.out.symm, HB.out⟩
 ·have t1B : decide (0 ≤ z) = false := decide_eq_false t1
  have HR : Hid (woE 16 z lines n1 n2 n3 n i = 3) := by unfold Hid; rw [HW.out, decide_eq_false (fun h => t1 h.1)]; rfl
  clear HW
  go_enter Tryz.func32, Tryz.ntmps32
  go_wp2_with fail
  go_region
  go_wp2_with fail
  go_ret
  exact ⟨kret_int HR.out.symm, HB.out⟩
set_option maxRecDepth 100000 in
set_option maxHeartbeats 2000000 in
theorem wo_4 (z lines : Int) (b off n cap i : Nat) (a1 a2 a3 : Option Addr) (n1 c1 n2 c2 n3 c3 : Nat) (w : World) (hi : i < n) (x0 : w.cell? ⟨b, off + i * 2, none⟩ = some (.int .i64 4)) (x1 : w.cell? ⟨b, off + i * 2 + 1, none⟩ = some (.int .i64 z)) : WoIs 4 z lines b off n cap i a1 a2 a3 n1 c1 n2 c2 n3 c3 w := by
 unfold WoIs
 have hi' : (i : Int) < (n : Int) := by omega
 have hbx := kbelow_box w (.cells #[.slice a1 n1 c1, .slice a2 n2 c2, .slice a3 n3 c3] 26)
 have y0 : (w.alloc (.cells #[.slice a1 n1 c1, .slice a2 n2 c2, .slice a3 n3 c3] 26)).drew.cell? ⟨b, off + i * 2, none⟩ = some (.int .i64 4) := (hbx.cell (p := ⟨b, off + i * 2, none⟩) (blt_of_cell x0)).trans x0
 have y1 : (w.alloc (.cells #[.slice a1 n1 c1, .slice a2 n2 c2, .slice a3 n3 c3] 26)).drew.cell? ⟨b, off + i * 2 + 1, none⟩ = some (.int .i64 z) := (hbx.cell (p := ⟨b, off + i * 2 + 1, none⟩) (blt_of_cell x1)).trans x1
 have HB : Hid (Below w.heap.size w (w.alloc (.cells #[.slice a1 n1 c1, .slice a2 n2 c2, .slice a3 n3 c3] 26)).drew) := hbx.drew
 clear hbx x0 x1
 have HW : Hid (woE 4 z lines n1 n2 n3 n i = if decide (0 ≤ z ∧ z < (n3 : Int)) = false then 3 else 0) := by unfold Hid woE; rw [if_neg (by omega)]; simp [fitsB, fitB, lowB]
 by_cases t1 : 0 ≤ z
 ·have t1B : decide (0 ≤ z) = true := decide_eq_true t1
  by_cases t2 : z < (n3 : Int)
  ·have t2B : decide (z < (n3 : Int)) = true := decide_eq_true t2
   have HR : Hid (woE 4 z lines n1 n2 n3 n i = 0) := by unfold Hid; rw [HW.out, decide_eq_true ⟨t1, t2⟩]; rfl
   clear HW
   go_enter Tryz.func32, Tryz.ntmps32
   go_wp2_with fail
   go_region
   go_wp2_with fail
   go_ret
   exact ⟨kret_int HR.out.symm, HB.out⟩
  ·have t2B : decide (z < (n3 : Int)) = false := decide_eq_false t2
   have HR : Hid (woE 4 z lines n1 n2 n3 n i = 3) := by unfold Hid; rw [HW.out, decide_eq_false (fun h => t2 h.2)]; rfl
   clear HW
   go_enter Tryz.func32, Tryz.ntmps32
   go_wp2_with fail
   go_region
   go_wp2_with fail
   go_ret
   exact ⟨kret_int HR.out.symm, HB.out⟩
 ·have t1B : decide (0 ≤ z) = false := decide_eq_false t1
  have HR : Hid (woE 4 z lines n1 n2 n3 n i = 3) := by unfold Hid; rw [HW.out, decide_eq_false (fun h => t1 h.1)]; rfl
  clear HW
  go_enter Tryz.func32, Tryz.ntmps32
  go_wp2_with fail
  go_region
  go_wp2_with fail
  go_ret
  exact ⟨kret_int HR.out.symm, HB.out⟩
set_option maxRecDepth 100000 in
set_option maxHeartbeats 2000000 in
theorem wo_6 (z lines : Int) (b off n cap i : Nat) (a1 a2 a3 : Option Addr) (n1 c1 n2 c2 n3 c3 : Nat) (w : World) (hi : i < n) (x0 : w.cell? ⟨b, off + i * 2, none⟩ = some (.int .i64 6)) (x1 : w.cell? ⟨b, off + i * 2 + 1, none⟩ = some (.int .i64 z)) : WoIs 6 z lines b off n cap i a1 a2 a3 n1 c1 n2 c2 n3 c3 w := by
 unfold WoIs
 have hi' : (i : Int) < (n : Int) := by omega
 have hbx := kbelow_box w (.cells #[.slice a1 n1 c1, .slice a2 n2 c2, .slice a3 n3 c3] 26)
 have y0 : (w.alloc (.cells #[.slice a1 n1 c1, .slice a2 n2 c2, .slice a3 n3 c3] 26)).drew.cell? ⟨b, off + i * 2, none⟩ = some (.int .i64 6) := (hbx.cell (p := ⟨b, off + i * 2, none⟩) (blt_of_cell x0)).trans x0
 have y1 : (w.alloc (.cells #[.slice a1 n1 c1, .slice a2 n2 c2, .slice a3 n3 c3] 26)).drew.cell? ⟨b, off + i * 2 + 1, none⟩ = some (.int .i64 z) := (hbx.cell (p := ⟨b, off + i * 2 + 1, none⟩) (blt_of_cell x1)).trans x1
 have HB : Hid (Below w.heap.size w (w.alloc (.cells #[.slice a1 n1 c1, .slice a2 n2 c2, .slice a3 n3 c3] 26)).drew) := hbx.drew
 clear hbx x0 x1
 have HW : Hid (woE 6 z lines n1 n2 n3 n i = if decide (0 ≤ z ∧ z < (n2 : Int)) = false then 3 else 0) := by unfold Hid woE; rw [if_neg (by omega)]; simp [fitsB, fitB, lowB]
 by_cases t1 : 0 ≤ z
 ·have t1B : decide (0 ≤ z) = true := decide_eq_true t1
  by_cases t2 : z < (n2 : Int)
  ·have t2B : decide (z < (n2 : Int)) = true := decide_eq_true t2
   have HR : Hid (woE 6 z lines n1 n2 n3 n i = 0) := by unfold Hid; rw [HW.out, decide_eq_true ⟨t1, t2⟩]; rfl
   clear HW
   go_enter Tryz.func32, Tryz.ntmps32
   go_wp2_with fail
   go_region
   go_wp2_with fail
   go_ret
   exact ⟨kret_int HR.out.symm, HB.out⟩
  ·have t2B : decide (z < (n2 : Int)) = false := decide_eq_false t2
   have HR : Hid (woE 6 z lines n1 n2 n3 n i = 3) := by unfold Hid; rw [HW.out, decide_eq_false (fun h => t2 h.2)]; rfl
   clear HW
   go_enter Tryz.func32, Tryz.ntmps32
   go_wp2_with fail
   go_region
   go_wp2_with fail
   go_ret
   exact ⟨kret_int HR.out.symm, HB.out⟩
 ·have t1B : decide (0 ≤ z) = false := decide_eq_false t1
  have HR : Hid (woE 6 z lines n1 n2 n3 n i = 3) := by unfold Hid; rw [HW.out, decide_eq_false (fun h => t1 h.1)]; rfl
  clear HW
  go_enter Tryz.func32, Tryz.ntmps32
  go_wp2_with fail
  go_region
  go_wp2_with fail
  go_ret
  exact ⟨kret_int HR.out.symm, HB.out⟩
set_option maxRecDepth 100000 in
set_option maxHeartbeats 2000000 in
theorem wo_5 (z lines : Int) (b off n cap i : Nat) (a1 a2 a3 : Option Addr) (n1 c1 n2 c2 n3 c3 : Nat) (w : World) (hi : i < n) (x0 : w.cell? ⟨b, off + i * 2, none⟩ = some (.int .i64 5)) (x1 : w.cell? ⟨b, off + i * 2 + 1, none⟩ = some (.int .i64 z)) : WoIs 5 z lines b off n cap i a1 a2 a3 n1 c1 n2 c2 n3 c3 w := by
 unfold WoIs
 have hi' : (i : Int) < (n : Int) := by omega
 have hbx := kbelow_box w (.cells #[.slice a1 n1 c1, .slice a2 n2 c2, .slice a3 n3 c3] 26)
 have y0 : (w.alloc (.cells #[.slice a1 n1 c1, .slice a2 n2 c2, .slice a3 n3 c3] 26)).drew.cell? ⟨b, off + i * 2, none⟩ = some (.int .i64 5) := (hbx.cell (p := ⟨b, off + i * 2, none⟩) (blt_of_cell x0)).trans x0
 have y1 : (w.alloc (.cells #[.slice a1 n1 c1, .slice a2 n2 c2, .slice a3 n3 c3] 26)).drew.cell? ⟨b, off + i * 2 + 1, none⟩ = some (.int .i64 z) := (hbx.cell (p := ⟨b, off + i * 2 + 1, none⟩) (blt_of_cell x1)).trans x1
 have HB : Hid (Below w.heap.size w (w.alloc (.cells #[.slice a1 n1 c1, .slice a2 n2 c2, .slice a3 n3 c3] 26)).drew) := hbx.drew
 clear hbx x0 x1
 have HW : Hid (woE 5 z lines n1 n2 n3 n i = if decide (0 ≤ z ∧ z ≤ 1000000) = false then 3 else 0) := by unfold Hid woE; rw [if_neg (by omega)]; simp [fitsB, fitB, lowB]
 by_cases t1 : 0 ≤ z
 ·have t1B : decide (0 ≤ z) = true := decide_eq_true t1
  by_cases t2 : z ≤ 1000000
  ·have t2B : decide (z ≤ 1000000) = true := decide_eq_true t2
   have HR : Hid (woE 5 z lines n1 n2 n3 n i = 0) := by unfold Hid; rw [HW.out, decide_eq_true ⟨t1, t2⟩]; rfl
   clear HW
   go_enter Tryz.func32, Tryz.ntmps32
   go_wp2_with fail
   go_region
   go_wp2_with fail
   go_ret
   exact ⟨kret_int HR.out.symm, HB.out⟩
  ·have t2B : decide (z ≤ 1000000) = false := decide_eq_false t2
   have HR : Hid (woE 5 z lines n1 n2 n3 n i = 3) := by unfold Hid; rw [HW.out, decide_eq_false (fun h => t2 h.2)]; rfl
   clear HW
   go_enter Tryz.func32, Tryz.ntmps32
   go_wp2_with fail
   go_region
   go_wp2_with fail
   go_ret
   exact ⟨kret_int HR.out.symm, HB.out⟩
 ·have t1B : decide (0 ≤ z) = false := decide_eq_false t1
  have HR : Hid (woE 5 z lines n1 n2 n3 n i = 3) := by unfold Hid; rw [HW.out, decide_eq_false (fun h => t1 h.1)]; rfl
  clear HW
  go_enter Tryz.func32, Tryz.ntmps32
  go_wp2_with fail
  go_region
  go_wp2_with fail
  go_ret
  exact ⟨kret_int HR.out.symm, HB.out⟩
set_option maxRecDepth 100000 in
set_option maxHeartbeats 2000000 in
theorem wo_10 (z lines : Int) (b off n cap i : Nat) (a1 a2 a3 : Option Addr) (n1 c1 n2 c2 n3 c3 : Nat) (w : World) (hi : i < n) (x0 : w.cell? ⟨b, off + i * 2, none⟩ = some (.int .i64 10)) (x1 : w.cell? ⟨b, off + i * 2 + 1, none⟩ = some (.int .i64 z)) : WoIs 10 z lines b off n cap i a1 a2 a3 n1 c1 n2 c2 n3 c3 w := by
 unfold WoIs
 have hi' : (i : Int) < (n : Int) := by omega
 have hbx := kbelow_box w (.cells #[.slice a1 n1 c1, .slice a2 n2 c2, .slice a3 n3 c3] 26)
 have y0 : (w.alloc (.cells #[.slice a1 n1 c1, .slice a2 n2 c2, .slice a3 n3 c3] 26)).drew.cell? ⟨b, off + i * 2, none⟩ = some (.int .i64 10) := (hbx.cell (p := ⟨b, off + i * 2, none⟩) (blt_of_cell x0)).trans x0
 have y1 : (w.alloc (.cells #[.slice a1 n1 c1, .slice a2 n2 c2, .slice a3 n3 c3] 26)).drew.cell? ⟨b, off + i * 2 + 1, none⟩ = some (.int .i64 z) := (hbx.cell (p := ⟨b, off + i * 2 + 1, none⟩) (blt_of_cell x1)).trans x1
 have HB : Hid (Below w.heap.size w (w.alloc (.cells #[.slice a1 n1 c1, .slice a2 n2 c2, .slice a3 n3 c3] 26)).drew) := hbx.drew
 clear hbx x0 x1
 have HW : Hid (woE 10 z lines n1 n2 n3 n i = if decide (1 ≤ z ∧ z ≤ 1000000) = false then 3 else 0) := by unfold Hid woE; rw [if_neg (by omega)]; simp [fitsB, fitB, lowB]
 by_cases t1 : 1 ≤ z
 ·have t1B : decide (1 ≤ z) = true := decide_eq_true t1
  by_cases t2 : z ≤ 1000000
  ·have t2B : decide (z ≤ 1000000) = true := decide_eq_true t2
   have HR : Hid (woE 10 z lines n1 n2 n3 n i = 0) := by unfold Hid; rw [HW.out, decide_eq_true ⟨t1, t2⟩]; rfl
   clear HW
   go_enter Tryz.func32, Tryz.ntmps32
   go_wp2_with fail
   go_region
   go_wp2_with fail
   go_ret
   exact ⟨kret_int HR.out.symm, HB.out⟩
  ·have t2B : decide (z ≤ 1000000) = false := decide_eq_false t2
   have HR : Hid (woE 10 z lines n1 n2 n3 n i = 3) := by unfold Hid; rw [HW.out, decide_eq_false (fun h => t2 h.2)]; rfl
   clear HW
   go_enter Tryz.func32, Tryz.ntmps32
   go_wp2_with fail
   go_region
   go_wp2_with fail
   go_ret
   exact ⟨kret_int HR.out.symm, HB.out⟩
 ·have t1B : decide (1 ≤ z) = false := decide_eq_false t1
  have HR : Hid (woE 10 z lines n1 n2 n3 n i = 3) := by unfold Hid; rw [HW.out, decide_eq_false (fun h => t1 h.1)]; rfl
  clear HW
  go_enter Tryz.func32, Tryz.ntmps32
  go_wp2_with fail
  go_region
  go_wp2_with fail
  go_ret
  exact ⟨kret_int HR.out.symm, HB.out⟩
set_option maxRecDepth 100000 in
set_option maxHeartbeats 2000000 in
theorem wo_11 (z lines : Int) (b off n cap i : Nat) (a1 a2 a3 : Option Addr) (n1 c1 n2 c2 n3 c3 : Nat) (w : World) (hi : i < n) (x0 : w.cell? ⟨b, off + i * 2, none⟩ = some (.int .i64 11)) (x1 : w.cell? ⟨b, off + i * 2 + 1, none⟩ = some (.int .i64 z)) : WoIs 11 z lines b off n cap i a1 a2 a3 n1 c1 n2 c2 n3 c3 w := by
 unfold WoIs
 have hi' : (i : Int) < (n : Int) := by omega
 have hbx := kbelow_box w (.cells #[.slice a1 n1 c1, .slice a2 n2 c2, .slice a3 n3 c3] 26)
 have y0 : (w.alloc (.cells #[.slice a1 n1 c1, .slice a2 n2 c2, .slice a3 n3 c3] 26)).drew.cell? ⟨b, off + i * 2, none⟩ = some (.int .i64 11) := (hbx.cell (p := ⟨b, off + i * 2, none⟩) (blt_of_cell x0)).trans x0
 have y1 : (w.alloc (.cells #[.slice a1 n1 c1, .slice a2 n2 c2, .slice a3 n3 c3] 26)).drew.cell? ⟨b, off + i * 2 + 1, none⟩ = some (.int .i64 z) := (hbx.cell (p := ⟨b, off + i * 2 + 1, none⟩) (blt_of_cell x1)).trans x1
 have HB : Hid (Below w.heap.size w (w.alloc (.cells #[.slice a1 n1 c1, .slice a2 n2 c2, .slice a3 n3 c3] 26)).drew) := hbx.drew
 clear hbx x0 x1
 have HW : Hid (woE 11 z lines n1 n2 n3 n i = if decide (1 ≤ z ∧ z ≤ 1000000) = false then 3 else 0) := by unfold Hid woE; rw [if_neg (by omega)]; simp [fitsB, fitB, lowB]
 by_cases t1 : 1 ≤ z
 ·have t1B : decide (1 ≤ z) = true := decide_eq_true t1
  by_cases t2 : z ≤ 1000000
  ·have t2B : decide (z ≤ 1000000) = true := decide_eq_true t2
   have HR : Hid (woE 11 z lines n1 n2 n3 n i = 0) := by unfold Hid; rw [HW.out, decide_eq_true ⟨t1, t2⟩]; rfl
   clear HW
   go_enter Tryz.func32, Tryz.ntmps32
   go_wp2_with fail
   go_region
   go_wp2_with fail
   go_ret
   exact ⟨kret_int HR.out.symm, HB.out⟩
  ·have t2B : decide (z ≤ 1000000) = false := decide_eq_false t2
   have HR : Hid (woE 11 z lines n1 n2 n3 n i = 3) := by unfold Hid; rw [HW.out, decide_eq_false (fun h => t2 h.2)]; rfl
   clear HW
   go_enter Tryz.func32, Tryz.ntmps32
   go_wp2_with fail
   go_region
   go_wp2_with fail
   go_ret
   exact ⟨kret_int HR.out.symm, HB.out⟩
 ·have t1B : decide (1 ≤ z) = false := decide_eq_false t1
  have HR : Hid (woE 11 z lines n1 n2 n3 n i = 3) := by unfold Hid; rw [HW.out, decide_eq_false (fun h => t1 h.1)]; rfl
  clear HW
  go_enter Tryz.func32, Tryz.ntmps32
  go_wp2_with fail
  go_region
  go_wp2_with fail
  go_ret
  exact ⟨kret_int HR.out.symm, HB.out⟩
set_option maxRecDepth 100000 in
set_option maxHeartbeats 2000000 in
theorem wo_7 (z lines : Int) (b off n cap i : Nat) (a1 a2 a3 : Option Addr) (n1 c1 n2 c2 n3 c3 : Nat) (w : World) (hi : i < n) (x0 : w.cell? ⟨b, off + i * 2, none⟩ = some (.int .i64 7)) (x1 : w.cell? ⟨b, off + i * 2 + 1, none⟩ = some (.int .i64 z)) : WoIs 7 z lines b off n cap i a1 a2 a3 n1 c1 n2 c2 n3 c3 w := by
 unfold WoIs
 have hi' : (i : Int) < (n : Int) := by omega
 have hbx := kbelow_box w (.cells #[.slice a1 n1 c1, .slice a2 n2 c2, .slice a3 n3 c3] 26)
 have y0 : (w.alloc (.cells #[.slice a1 n1 c1, .slice a2 n2 c2, .slice a3 n3 c3] 26)).drew.cell? ⟨b, off + i * 2, none⟩ = some (.int .i64 7) := (hbx.cell (p := ⟨b, off + i * 2, none⟩) (blt_of_cell x0)).trans x0
 have y1 : (w.alloc (.cells #[.slice a1 n1 c1, .slice a2 n2 c2, .slice a3 n3 c3] 26)).drew.cell? ⟨b, off + i * 2 + 1, none⟩ = some (.int .i64 z) := (hbx.cell (p := ⟨b, off + i * 2 + 1, none⟩) (blt_of_cell x1)).trans x1
 have HB : Hid (Below w.heap.size w (w.alloc (.cells #[.slice a1 n1 c1, .slice a2 n2 c2, .slice a3 n3 c3] 26)).drew) := hbx.drew
 clear hbx x0 x1
 have HW : Hid (woE 7 z lines n1 n2 n3 n i = if decide (z = 0) = false then 3 else 0) := by unfold Hid woE; rw [if_neg (by omega)]; simp [fitsB, fitB, lowB]
 by_cases t1 : z = 0
 ·have t1B : (z == 0) = true := by simpa using t1
  have HR : Hid (woE 7 z lines n1 n2 n3 n i = 0) := by unfold Hid; rw [HW.out, decide_eq_true t1]; rfl
  clear HW
  subst t1
  go_enter Tryz.func32, Tryz.ntmps32
  go_wp2_with fail
  go_region
  go_wp2_with fail
  go_ret
  exact ⟨kret_int HR.out.symm, HB.out⟩
 ·have t1B : (z == 0) = false := by simpa using t1
  have t1D : decide (z = 0) = false := decide_eq_false t1
  have HR : Hid (woE 7 z lines n1 n2 n3 n i = 3) := by unfold Hid; rw [HW.out, decide_eq_false t1]; rfl
  clear HW
  go_enter Tryz.func32, Tryz.ntmps32
  go_wp2_with fail
  go_region
  go_wp2_with fail
  go_ret
  exact ⟨kret_int HR.out.symm, HB.out⟩
set_option maxRecDepth 100000 in
set_option maxHeartbeats 2000000 in
theorem wo_8 (z lines : Int) (b off n cap i : Nat) (a1 a2 a3 : Option Addr) (n1 c1 n2 c2 n3 c3 : Nat) (w : World) (hi : i < n) (x0 : w.cell? ⟨b, off + i * 2, none⟩ = some (.int .i64 8)) (x1 : w.cell? ⟨b, off + i * 2 + 1, none⟩ = some (.int .i64 z)) : WoIs 8 z lines b off n cap i a1 a2 a3 n1 c1 n2 c2 n3 c3 w := by
 unfold WoIs
 have hi' : (i : Int) < (n : Int) := by omega
 have hbx := kbelow_box w (.cells #[.slice a1 n1 c1, .slice a2 n2 c2, .slice a3 n3 c3] 26)
 have y0 : (w.alloc (.cells #[.slice a1 n1 c1, .slice a2 n2 c2, .slice a3 n3 c3] 26)).drew.cell? ⟨b, off + i * 2, none⟩ = some (.int .i64 8) := (hbx.cell (p := ⟨b, off + i * 2, none⟩) (blt_of_cell x0)).trans x0
 have y1 : (w.alloc (.cells #[.slice a1 n1 c1, .slice a2 n2 c2, .slice a3 n3 c3] 26)).drew.cell? ⟨b, off + i * 2 + 1, none⟩ = some (.int .i64 z) := (hbx.cell (p := ⟨b, off + i * 2 + 1, none⟩) (blt_of_cell x1)).trans x1
 have HB : Hid (Below w.heap.size w (w.alloc (.cells #[.slice a1 n1 c1, .slice a2 n2 c2, .slice a3 n3 c3] 26)).drew) := hbx.drew
 clear hbx x0 x1
 have HW : Hid (woE 8 z lines n1 n2 n3 n i = if decide (z = 0) = false then 3 else 0) := by unfold Hid woE; rw [if_neg (by omega)]; simp [fitsB, fitB, lowB]
 by_cases t1 : z = 0
 ·have t1B : (z == 0) = true := by simpa using t1
  have HR : Hid (woE 8 z lines n1 n2 n3 n i = 0) := by unfold Hid; rw [HW.out, decide_eq_true t1]; rfl
  clear HW
  subst t1
  go_enter Tryz.func32, Tryz.ntmps32
  go_wp2_with fail
  go_region
  go_wp2_with fail
  go_ret
  exact ⟨kret_int HR.out.symm, HB.out⟩
 ·have t1B : (z == 0) = false := by simpa using t1
  have t1D : decide (z = 0) = false := decide_eq_false t1
  have HR : Hid (woE 8 z lines n1 n2 n3 n i = 3) := by unfold Hid; rw [HW.out, decide_eq_false t1]; rfl
  clear HW
  go_enter Tryz.func32, Tryz.ntmps32
  go_wp2_with fail
  go_region
  go_wp2_with fail
  go_ret
  exact ⟨kret_int HR.out.symm, HB.out⟩
set_option maxRecDepth 100000 in
set_option maxHeartbeats 2000000 in
theorem wo_9 (z lines : Int) (b off n cap i : Nat) (a1 a2 a3 : Option Addr) (n1 c1 n2 c2 n3 c3 : Nat) (w : World) (hi : i < n) (x0 : w.cell? ⟨b, off + i * 2, none⟩ = some (.int .i64 9)) (x1 : w.cell? ⟨b, off + i * 2 + 1, none⟩ = some (.int .i64 z)) : WoIs 9 z lines b off n cap i a1 a2 a3 n1 c1 n2 c2 n3 c3 w := by
 unfold WoIs
 have hi' : (i : Int) < (n : Int) := by omega
 have hbx := kbelow_box w (.cells #[.slice a1 n1 c1, .slice a2 n2 c2, .slice a3 n3 c3] 26)
 have y0 : (w.alloc (.cells #[.slice a1 n1 c1, .slice a2 n2 c2, .slice a3 n3 c3] 26)).drew.cell? ⟨b, off + i * 2, none⟩ = some (.int .i64 9) := (hbx.cell (p := ⟨b, off + i * 2, none⟩) (blt_of_cell x0)).trans x0
 have y1 : (w.alloc (.cells #[.slice a1 n1 c1, .slice a2 n2 c2, .slice a3 n3 c3] 26)).drew.cell? ⟨b, off + i * 2 + 1, none⟩ = some (.int .i64 z) := (hbx.cell (p := ⟨b, off + i * 2 + 1, none⟩) (blt_of_cell x1)).trans x1
 have HB : Hid (Below w.heap.size w (w.alloc (.cells #[.slice a1 n1 c1, .slice a2 n2 c2, .slice a3 n3 c3] 26)).drew) := hbx.drew
 clear hbx x0 x1
 have HW : Hid (woE 9 z lines n1 n2 n3 n i = if decide (z = 0) = false then 3 else 0) := by unfold Hid woE; rw [if_neg (by omega)]; simp [fitsB, fitB, lowB]
 by_cases t1 : z = 0
 ·have t1B : (z == 0) = true := by simpa using t1
  have HR : Hid (woE 9 z lines n1 n2 n3 n i = 0) := by unfold Hid; rw [HW.out, decide_eq_true t1]; rfl
  clear HW
  subst t1
  go_enter Tryz.func32, Tryz.ntmps32
  go_wp2_with fail
  go_region
  go_wp2_with fail
  go_ret
  exact ⟨kret_int HR.out.symm, HB.out⟩
 ·have t1B : (z == 0) = false := by simpa using t1
  have t1D : decide (z = 0) = false := decide_eq_false t1
  have HR : Hid (woE 9 z lines n1 n2 n3 n i = 3) := by unfold Hid; rw [HW.out, decide_eq_false t1]; rfl
  clear HW
  go_enter Tryz.func32, Tryz.ntmps32
  go_wp2_with fail
  go_region
  go_wp2_with fail
  go_ret
  exact ⟨kret_int HR.out.symm, HB.out⟩
set_option maxRecDepth 100000 in
set_option maxHeartbeats 2000000 in
theorem wo_12 (z lines : Int) (b off n cap i : Nat) (a1 a2 a3 : Option Addr) (n1 c1 n2 c2 n3 c3 : Nat) (w : World) (hi : i < n) (x0 : w.cell? ⟨b, off + i * 2, none⟩ = some (.int .i64 12)) (x1 : w.cell? ⟨b, off + i * 2 + 1, none⟩ = some (.int .i64 z)) : WoIs 12 z lines b off n cap i a1 a2 a3 n1 c1 n2 c2 n3 c3 w := by
 unfold WoIs
 have hi' : (i : Int) < (n : Int) := by omega
 have hbx := kbelow_box w (.cells #[.slice a1 n1 c1, .slice a2 n2 c2, .slice a3 n3 c3] 26)
 have y0 : (w.alloc (.cells #[.slice a1 n1 c1, .slice a2 n2 c2, .slice a3 n3 c3] 26)).drew.cell? ⟨b, off + i * 2, none⟩ = some (.int .i64 12) := (hbx.cell (p := ⟨b, off + i * 2, none⟩) (blt_of_cell x0)).trans x0
 have y1 : (w.alloc (.cells #[.slice a1 n1 c1, .slice a2 n2 c2, .slice a3 n3 c3] 26)).drew.cell? ⟨b, off + i * 2 + 1, none⟩ = some (.int .i64 z) := (hbx.cell (p := ⟨b, off + i * 2 + 1, none⟩) (blt_of_cell x1)).trans x1
 have HB : Hid (Below w.heap.size w (w.alloc (.cells #[.slice a1 n1 c1, .slice a2 n2 c2, .slice a3 n3 c3] 26)).drew) := hbx.drew
 clear hbx x0 x1
 have HW : Hid (woE 12 z lines n1 n2 n3 n i = if decide (z = 0) = false then 3 else 0) := by unfold Hid woE; rw [if_neg (by omega)]; simp [fitsB, fitB, lowB]
 by_cases t1 : z = 0
 ·have t1B : (z == 0) = true := by simpa using t1
  have HR : Hid (woE 12 z lines n1 n2 n3 n i = 0) := by unfold Hid; rw [HW.out, decide_eq_true t1]; rfl
  clear HW
  subst t1
  go_enter Tryz.func32, Tryz.ntmps32
  go_wp2_with fail
  go_region
  go_wp2_with fail
  go_ret
  exact ⟨kret_int HR.out.symm, HB.out⟩
 ·have t1B : (z == 0) = false := by simpa using t1
  have t1D : decide (z = 0) = false := decide_eq_false t1
  have HR : Hid (woE 12 z lines n1 n2 n3 n i = 3) := by unfold Hid; rw [HW.out, decide_eq_false t1]; rfl
  clear HW
  go_enter Tryz.func32, Tryz.ntmps32
  go_wp2_with fail
  go_region
  go_wp2_with fail
  go_ret
  exact ⟨kret_int HR.out.symm, HB.out⟩
set_option maxRecDepth 100000 in
set_option maxHeartbeats 2000000 in
theorem wo_13 (z lines : Int) (b off n cap i : Nat) (a1 a2 a3 : Option Addr) (n1 c1 n2 c2 n3 c3 : Nat) (w : World) (hi : i < n) (x0 : w.cell? ⟨b, off + i * 2, none⟩ = some (.int .i64 13)) (x1 : w.cell? ⟨b, off + i * 2 + 1, none⟩ = some (.int .i64 z)) : WoIs 13 z lines b off n cap i a1 a2 a3 n1 c1 n2 c2 n3 c3 w := by
 unfold WoIs
 have hi' : (i : Int) < (n : Int) := by omega
 have hbx := kbelow_box w (.cells #[.slice a1 n1 c1, .slice a2 n2 c2, .slice a3 n3 c3] 26)
 have y0 : (w.alloc (.cells #[.slice a1 n1 c1, .slice a2 n2 c2, .slice a3 n3 c3] 26)).drew.cell? ⟨b, off + i * 2, none⟩ = some (.int .i64 13) := (hbx.cell (p := ⟨b, off + i * 2, none⟩) (blt_of_cell x0)).trans x0
 have y1 : (w.alloc (.cells #[.slice a1 n1 c1, .slice a2 n2 c2, .slice a3 n3 c3] 26)).drew.cell? ⟨b, off + i * 2 + 1, none⟩ = some (.int .i64 z) := (hbx.cell (p := ⟨b, off + i * 2 + 1, none⟩) (blt_of_cell x1)).trans x1
 have HB : Hid (Below w.heap.size w (w.alloc (.cells #[.slice a1 n1 c1, .slice a2 n2 c2, .slice a3 n3 c3] 26)).drew) := hbx.drew
 clear hbx x0 x1
 have HW : Hid (woE 13 z lines n1 n2 n3 n i = if decide (z = 0) = false then 3 else 0) := by unfold Hid woE; rw [if_neg (by omega)]; simp [fitsB, fitB, lowB]
 by_cases t1 : z = 0
 ·have t1B : (z == 0) = true := by simpa using t1
  have HR : Hid (woE 13 z lines n1 n2 n3 n i = 0) := by unfold Hid; rw [HW.out, decide_eq_true t1]; rfl
  clear HW
  subst t1
  go_enter Tryz.func32, Tryz.ntmps32
  go_wp2_with fail
  go_region
  go_wp2_with fail
  go_ret
  exact ⟨kret_int HR.out.symm, HB.out⟩
 ·have t1B : (z == 0) = false := by simpa using t1
  have t1D : decide (z = 0) = false := decide_eq_false t1
  have HR : Hid (woE 13 z lines n1 n2 n3 n i = 3) := by unfold Hid; rw [HW.out, decide_eq_false t1]; rfl
  clear HW
  go_enter Tryz.func32, Tryz.ntmps32
  go_wp2_with fail
  go_region
  go_wp2_with fail
  go_ret
  exact ⟨kret_int HR.out.symm, HB.out⟩
set_option maxRecDepth 100000 in
set_option maxHeartbeats 2000000 in
theorem wo_1 (z lines : Int) (b off n cap i : Nat) (a1 a2 a3 : Option Addr) (n1 c1 n2 c2 n3 c3 : Nat) (w : World) (hi : i < n) (x0 : w.cell? ⟨b, off + i * 2, none⟩ = some (.int .i64 1)) (x1 : w.cell? ⟨b, off + i * 2 + 1, none⟩ = some (.int .i64 z)) : WoIs 1 z lines b off n cap i a1 a2 a3 n1 c1 n2 c2 n3 c3 w := by
 unfold WoIs
 have hi' : (i : Int) < (n : Int) := by omega
 have hbx := kbelow_box w (.cells #[.slice a1 n1 c1, .slice a2 n2 c2, .slice a3 n3 c3] 26)
 have y0 : (w.alloc (.cells #[.slice a1 n1 c1, .slice a2 n2 c2, .slice a3 n3 c3] 26)).drew.cell? ⟨b, off + i * 2, none⟩ = some (.int .i64 1) := (hbx.cell (p := ⟨b, off + i * 2, none⟩) (blt_of_cell x0)).trans x0
 have y1 : (w.alloc (.cells #[.slice a1 n1 c1, .slice a2 n2 c2, .slice a3 n3 c3] 26)).drew.cell? ⟨b, off + i * 2 + 1, none⟩ = some (.int .i64 z) := (hbx.cell (p := ⟨b, off + i * 2 + 1, none⟩) (blt_of_cell x1)).trans x1
 have HB : Hid (Below w.heap.size w (w.alloc (.cells #[.slice a1 n1 c1, .slice a2 n2 c2, .slice a3 n3 c3] 26)).drew) := hbx.drew
 clear hbx x0 x1
 have HW : Hid (woE 1 z lines n1 n2 n3 n i = if monB z = false then 3 else 0) := by unfold Hid woE; rw [if_neg (by omega)]; simp [fitsB, fitB]
 have HMN := Lib.hid (fun w' => isMoney_ref z w')
 generalize monB z = mz at HW HMN
 cases mz
 ·have HR : Hid (woE 1 z lines n1 n2 n3 n i = 3) := by unfold Hid; rw [HW.out]; rfl
  go_enter Tryz.func32, Tryz.ntmps32
  go_wp2_with fail
  go_region
  go_wp2_with fail
  refine (HMN.out _).mono ?_
  rintro e w1 ⟨rfl, h1⟩
  subst w1
  go_wp2_with fail
  go_ret
  exact ⟨kret_int HR.out.symm, HB.out⟩
 ·have HR : Hid (woE 1 z lines n1 n2 n3 n i = 0) := by unfold Hid; rw [HW.out]; rfl
  go_enter Tryz.func32, Tryz.ntmps32
  go_wp2_with fail
  go_region
  go_wp2_with fail
  refine (HMN.out _).mono ?_
  rintro e w1 ⟨rfl, h1⟩
  subst w1
  go_wp2_with fail
  go_ret
  exact ⟨kret_int HR.out.symm, HB.out⟩
end Go.Proofs.YtmlpedgcpffpnaaGreatDoor
set_option linter.unusedSimpArgs false
namespace Go.Proofs.YtmlpedgcpffpnaaGreatDoor
open Go.RowKit
set_option maxRecDepth 100000 in
set_option maxHeartbeats 2000000 in
theorem wo_14 (z lines : Int) (b off n cap i : Nat) (a1 a2 a3 : Option Addr) (n1 c1 n2 c2 n3 c3 : Nat) (w : World) (hi : i < n) (hn : n ≤ 10000) (x0 : w.cell? ⟨b, off + i * 2, none⟩ = some (.int .i64 14)) (x1 : w.cell? ⟨b, off + i * 2 + 1, none⟩ = some (.int .i64 z)) : WoIs 14 z lines b off n cap i a1 a2 a3 n1 c1 n2 c2 n3 c3 w := by
 unfold WoIs
 have hi' : (i : Int) < (n : Int) := by omega
 have hbx := kbelow_box w (.cells #[.slice a1 n1 c1, .slice a2 n2 c2, .slice a3 n3 c3] 26)
 have y0 : (w.alloc (.cells #[.slice a1 n1 c1, .slice a2 n2 c2, .slice a3 n3 c3] 26)).drew.cell? ⟨b, off + i * 2, none⟩ = some (.int .i64 14) := (hbx.cell (p := ⟨b, off + i * 2, none⟩) (blt_of_cell x0)).trans x0
 have y1 : (w.alloc (.cells #[.slice a1 n1 c1, .slice a2 n2 c2, .slice a3 n3 c3] 26)).drew.cell? ⟨b, off + i * 2 + 1, none⟩ = some (.int .i64 z) := (hbx.cell (p := ⟨b, off + i * 2 + 1, none⟩) (blt_of_cell x1)).trans x1
 have HB : Hid (Below w.heap.size w (w.alloc (.cells #[.slice a1 n1 c1, .slice a2 n2 c2, .slice a3 n3 c3] 26)).drew) := hbx.drew
 clear hbx x0 x1
 obtain ⟨m, hm⟩ : ∃ m : Int, (n : Int) - i - 1 = m := ⟨_, rfl⟩
 have HW : Hid (woE 14 z lines n1 n2 n3 n i = if decide (0 ≤ z ∧ z ≤ m) = false then 3 else 0) := by
  have e : (0 ≤ z ∧ z < (n : Int) - i) ↔ (0 ≤ z ∧ z ≤ m) := by omega
  unfold Hid woE
  rw [if_neg (by omega)]
  simp only [fitsB, jumpB, lowB, if_true, e]
 have hw1 : IntKind.i64.wrap ((n : Int) - i) = (n : Int) - i := IntWalk.i64_in _ (by omega)
 have hw2 : IntKind.i64.wrap ((n : Int) - i - 1) = m := by rw [IntWalk.i64_in _ (by omega)]; exact hm
 clear hm
 by_cases t1 : 0 ≤ z
 ·have t1B : decide (0 ≤ z) = true := decide_eq_true t1
  by_cases t2 : z ≤ m
  ·have t2B : decide (z ≤ m) = true := decide_eq_true t2
   have HR : Hid (woE 14 z lines n1 n2 n3 n i = 0) := by unfold Hid; rw [HW.out, decide_eq_true ⟨t1, t2⟩]; rfl
   clear HW
   go_enter Tryz.func32, Tryz.ntmps32
   go_wp2_with fail
   go_region
   go_wp2_with fail
   go_ret
   exact ⟨kret_int HR.out.symm, HB.out⟩
  ·have t2B : decide (z ≤ m) = false := decide_eq_false t2
   have HR : Hid (woE 14 z lines n1 n2 n3 n i = 3) := by unfold Hid; rw [HW.out, decide_eq_false (fun h => t2 h.2)]; rfl
   clear HW
   go_enter Tryz.func32, Tryz.ntmps32
   go_wp2_with fail
   go_region
   go_wp2_with fail
   go_ret
   exact ⟨kret_int HR.out.symm, HB.out⟩
 ·have t1B : decide (0 ≤ z) = false := decide_eq_false t1
  have HR : Hid (woE 14 z lines n1 n2 n3 n i = 3) := by unfold Hid; rw [HW.out, decide_eq_false (fun h => t1 h.1)]; rfl
  clear HW
  go_enter Tryz.func32, Tryz.ntmps32
  go_wp2_with fail
  go_region
  go_wp2_with fail
  go_ret
  exact ⟨kret_int HR.out.symm, HB.out⟩
set_option maxRecDepth 100000 in
set_option maxHeartbeats 2000000 in
theorem wo_15 (z lines : Int) (b off n cap i : Nat) (a1 a2 a3 : Option Addr) (n1 c1 n2 c2 n3 c3 : Nat) (w : World) (hi : i < n) (hn : n ≤ 10000) (hz : I64 z) (x0 : w.cell? ⟨b, off + i * 2, none⟩ = some (.int .i64 15)) (x1 : w.cell? ⟨b, off + i * 2 + 1, none⟩ = some (.int .i64 z)) : WoIs 15 z lines b off n cap i a1 a2 a3 n1 c1 n2 c2 n3 c3 w := by
 unfold WoIs
 have hi' : (i : Int) < (n : Int) := by omega
 have hbx := kbelow_box w (.cells #[.slice a1 n1 c1, .slice a2 n2 c2, .slice a3 n3 c3] 26)
 have y0 : (w.alloc (.cells #[.slice a1 n1 c1, .slice a2 n2 c2, .slice a3 n3 c3] 26)).drew.cell? ⟨b, off + i * 2, none⟩ = some (.int .i64 15) := (hbx.cell (p := ⟨b, off + i * 2, none⟩) (blt_of_cell x0)).trans x0
 have y1 : (w.alloc (.cells #[.slice a1 n1 c1, .slice a2 n2 c2, .slice a3 n3 c3] 26)).drew.cell? ⟨b, off + i * 2 + 1, none⟩ = some (.int .i64 z) := (hbx.cell (p := ⟨b, off + i * 2 + 1, none⟩) (blt_of_cell x1)).trans x1
 have HB : Hid (Below w.heap.size w (w.alloc (.cells #[.slice a1 n1 c1, .slice a2 n2 c2, .slice a3 n3 c3] 26)).drew) := hbx.drew
 clear hbx x0 x1
 obtain ⟨m, hm⟩ : ∃ m : Int, (n : Int) - i - 1 = m := ⟨_, rfl⟩
 have hw1 : IntKind.i64.wrap ((n : Int) - i) = (n : Int) - i := IntWalk.i64_in _ (by omega)
 have hw2 : IntKind.i64.wrap ((n : Int) - i - 1) = m := by rw [IntWalk.i64_in _ (by omega)]; exact hm
 by_cases t1 : 1 ≤ z
 ·have t1B : decide (1 ≤ z) = true := decide_eq_true t1
  obtain ⟨zn, rfl⟩ : ∃ zn : Nat, z = zn := ⟨z.toNat, by omega⟩
  have eM : ((zn : Int)).tmod 4 = ((zn % 4 : Nat) : Int) := by rw [Int.tmod_eq_emod_of_nonneg (by omega)]; omega
  have eD : ((zn : Int)).tdiv 4 = ((zn / 4 : Nat) : Int) := by rw [Int.tdiv_eq_ediv_of_nonneg (by omega)]; omega
  have HW : Hid (woE 15 (zn : Int) lines n1 n2 n3 n i = if decide (zn % 4 ≠ 0 ∧ ((zn / 4 : Nat) : Int) ≤ m) = false then 3 else 0) := by
   have e : ((1 ≤ ((zn : Int)).tmod 4 ∧ ((zn : Int)).tmod 4 ≤ 3) ∧ 0 ≤ ((zn : Int)).tdiv 4 ∧ ((zn : Int)).tdiv 4 < (n : Int) - i) ↔ (zn % 4 ≠ 0 ∧ ((zn / 4 : Nat) : Int) ≤ m) := by rw [eM, eD]; omega
   have e2 : fitsB 15 (zn : Int) lines n1 n2 n3 n i = decide (zn % 4 ≠ 0 ∧ ((zn / 4 : Nat) : Int) ≤ m) := by
    rw [Bool.eq_iff_iff, decide_eq_true_iff, ← e]
    simp [fitsB, testB, lowB]
   unfold Hid woE
   rw [if_neg (by omega), e2]
  have hw4 : IntKind.i64.wrap ((zn / 4 : Nat) : Int) = ((zn / 4 : Nat) : Int) := IntWalk.i64_in _ (by unfold I64 at hz; omega)
  have hw5 : wrap64 ((zn / 4 : Nat) : Int) = ((zn / 4 : Nat) : Int) := IntWalk.wrap64_in _ (by unfold I64 at hz; omega)
  have hx1 : ((zn : Int)) % 4 = ((zn % 4 : Nat) : Int) := by omega
  have hx2 : ((zn : Int)) / 4 = ((zn / 4 : Nat) : Int) := by omega
  generalize zn % 4 = r at HW eM hx1
  generalize ((zn / 4 : Nat) : Int) = d at HW eD hw4 hw5 hx2
  clear hm
  by_cases t2 : r ≠ 0
  ·have r1 : ((r : Int) != 0) = true := by simp; exact t2
   have r2 : ((r : Int) == 0) = false := by simp; exact t2
   have r3 : decide ((r : Int) = 0) = false := decide_eq_false (by omega)
   have r4 : decide (r = 0) = false := decide_eq_false t2
   by_cases t3 : d ≤ m
   ·have t3B : decide (d ≤ m) = true := decide_eq_true t3
    have HR : Hid (woE 15 (zn : Int) lines n1 n2 n3 n i = 0) := by unfold Hid; rw [HW.out, decide_eq_true ⟨t2, t3⟩]; rfl
    clear HW t2
    go_enter Tryz.func32, Tryz.ntmps32
    go_wp2_with fail
    go_region
    go_wp2_with fail
    go_ret
    exact ⟨kret_int HR.out.symm, HB.out⟩
   ·have t3B : decide (d ≤ m) = false := decide_eq_false t3
    have HR : Hid (woE 15 (zn : Int) lines n1 n2 n3 n i = 3) := by unfold Hid; rw [HW.out, decide_eq_false (fun h => t3 h.2)]; rfl
    clear HW t2
    go_enter Tryz.func32, Tryz.ntmps32
    go_wp2_with fail
    go_region
    go_wp2_with fail
    go_ret
    exact ⟨kret_int HR.out.symm, HB.out⟩
  ·have hr0 : r = 0 := Classical.not_not.1 t2
   have HR : Hid (woE 15 (zn : Int) lines n1 n2 n3 n i = 3) := by unfold Hid; rw [HW.out, decide_eq_false (fun h => t2 h.1)]; rfl
   clear HW t2
   subst hr0
   go_enter Tryz.func32, Tryz.ntmps32
   go_wp2_with fail
   go_region
   go_wp2_with fail
   go_ret
   exact ⟨kret_int HR.out.symm, HB.out⟩
 ·have t1B : decide (1 ≤ z) = false := decide_eq_false t1
  have HR : Hid (woE 15 z lines n1 n2 n3 n i = 3) := by
   have hf : fitsB 15 z lines n1 n2 n3 n i = false := by
    have hmd : ¬ 1 ≤ z.tmod 4 := by
     obtain ⟨u, rfl⟩ : ∃ u : Nat, z = -(u : Int) := ⟨(-z).toNat, by omega⟩
     rw [Int.neg_tmod, Int.tmod_eq_emod_of_nonneg (by omega)]
     omega
    simp [fitsB, testB, hmd]
   unfold Hid woE
   rw [if_neg (by omega), if_pos hf]
  clear hm
  go_enter Tryz.func32, Tryz.ntmps32
  go_wp2_with fail
  go_region
  go_wp2_with fail
  go_ret
  exact ⟨kret_int HR.out.symm, HB.out⟩
set_option maxRecDepth 100000 in
set_option maxHeartbeats 2000000 in
theorem wo_bad (d z lines : Int) (b off n cap i : Nat) (a1 a2 a3 : Option Addr) (n1 c1 n2 c2 n3 c3 : Nat) (w : World) (hi : i < n) (hd : d < 1 ∨ 16 < d) (x0 : w.cell? ⟨b, off + i * 2, none⟩ = some (.int .i64 d)) (x1 : w.cell? ⟨b, off + i * 2 + 1, none⟩ = some (.int .i64 z)) : WoIs d z lines b off n cap i a1 a2 a3 n1 c1 n2 c2 n3 c3 w := by
 unfold WoIs
 have hi' : (i : Int) < (n : Int) := by omega
 have hbx := kbelow_box w (.cells #[.slice a1 n1 c1, .slice a2 n2 c2, .slice a3 n3 c3] 26)
 have y0 : (w.alloc (.cells #[.slice a1 n1 c1, .slice a2 n2 c2, .slice a3 n3 c3] 26)).drew.cell? ⟨b, off + i * 2, none⟩ = some (.int .i64 d) := (hbx.cell (p := ⟨b, off + i * 2, none⟩) (blt_of_cell x0)).trans x0
 have y1 : (w.alloc (.cells #[.slice a1 n1 c1, .slice a2 n2 c2, .slice a3 n3 c3] 26)).drew.cell? ⟨b, off + i * 2 + 1, none⟩ = some (.int .i64 z) := (hbx.cell (p := ⟨b, off + i * 2 + 1, none⟩) (blt_of_cell x1)).trans x1
 have HB : Hid (Below w.heap.size w (w.alloc (.cells #[.slice a1 n1 c1, .slice a2 n2 c2, .slice a3 n3 c3] 26)).drew) := hbx.drew
 clear hbx x0 x1
 have HR : Hid (woE d z lines n1 n2 n3 n i = 7) := by unfold Hid woE; rw [if_pos hd]
 by_cases t1 : d < 1
 ·have t1B : decide (d < 1) = true := decide_eq_true t1
  clear hd
  go_enter Tryz.func32, Tryz.ntmps32
  go_wp2_with fail
  go_region
  go_wp2_with fail
  go_ret
  exact ⟨kret_int HR.out.symm, HB.out⟩
 ·have t1B : decide (d < 1) = false := decide_eq_false t1
  have t2 : 16 < d := by omega
  have t2B : decide (16 < d) = true := decide_eq_true t2
  clear hd
  go_enter Tryz.func32, Tryz.ntmps32
  go_wp2_with fail
  go_region
  go_wp2_with fail
  go_ret
  exact ⟨kret_int HR.out.symm, HB.out⟩
theorem WrongOp_ref (d z lines : Int) (b off n cap i : Nat) (a1 a2 a3 : Option Addr) (n1 c1 n2 c2 n3 c3 : Nat) (w : World) (hi : i < n) (hn : n ≤ 10000) (hz : I64 z) (x0 : w.cell? ⟨b, off + i * 2, none⟩ = some (.int .i64 d)) (x1 : w.cell? ⟨b, off + i * 2 + 1, none⟩ = some (.int .i64 z)) : WoIs d z lines b off n cap i a1 a2 a3 n1 c1 n2 c2 n3 c3 w := by
 by_cases hd : d < 1 ∨ 16 < d
 ·exact wo_bad d z lines b off n cap i a1 a2 a3 n1 c1 n2 c2 n3 c3 w hi hd x0 x1
 have hc : d = 1 ∨ d = 2 ∨ d = 3 ∨ d = 4 ∨ d = 5 ∨ d = 6 ∨ d = 7 ∨ d = 8 ∨ d = 9 ∨ d = 10 ∨ d = 11 ∨ d = 12 ∨ d = 13 ∨ d = 14 ∨ d = 15 ∨ d = 16 := by omega
 rcases hc with rfl | rfl | rfl | rfl | rfl | rfl | rfl | rfl | rfl | rfl | rfl | rfl | rfl | rfl | rfl | rfl
 ·exact wo_1 z lines b off n cap i a1 a2 a3 n1 c1 n2 c2 n3 c3 w hi x0 x1
 ·exact wo_2 z lines b off n cap i a1 a2 a3 n1 c1 n2 c2 n3 c3 w hi x0 x1
 ·exact wo_3 z lines b off n cap i a1 a2 a3 n1 c1 n2 c2 n3 c3 w hi x0 x1
 ·exact wo_4 z lines b off n cap i a1 a2 a3 n1 c1 n2 c2 n3 c3 w hi x0 x1
 ·exact wo_5 z lines b off n cap i a1 a2 a3 n1 c1 n2 c2 n3 c3 w hi x0 x1
 ·exact wo_6 z lines b off n cap i a1 a2 a3 n1 c1 n2 c2 n3 c3 w hi x0 x1
 ·exact wo_7 z lines b off n cap i a1 a2 a3 n1 c1 n2 c2 n3 c3 w hi x0 x1
 ·exact wo_8 z lines b off n cap i a1 a2 a3 n1 c1 n2 c2 n3 c3 w hi x0 x1
 ·exact wo_9 z lines b off n cap i a1 a2 a3 n1 c1 n2 c2 n3 c3 w hi x0 x1
 ·exact wo_10 z lines b off n cap i a1 a2 a3 n1 c1 n2 c2 n3 c3 w hi x0 x1
 ·exact wo_11 z lines b off n cap i a1 a2 a3 n1 c1 n2 c2 n3 c3 w hi x0 x1
 ·exact wo_12 z lines b off n cap i a1 a2 a3 n1 c1 n2 c2 n3 c3 w hi x0 x1
 ·exact wo_13 z lines b off n cap i a1 a2 a3 n1 c1 n2 c2 n3 c3 w hi x0 x1
 ·exact wo_14 z lines b off n cap i a1 a2 a3 n1 c1 n2 c2 n3 c3 w hi hn x0 x1
 ·exact wo_15 z lines b off n cap i a1 a2 a3 n1 c1 n2 c2 n3 c3 w hi hn hz x0 x1
 ·exact wo_16 z lines b off n cap i a1 a2 a3 n1 c1 n2 c2 n3 c3 w hi x0 x1
end Go.Proofs.YtmlpedgcpffpnaaGreatDoor
