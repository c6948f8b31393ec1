/-
  Promise J2: does a step's number fit? The walk of numberFits, kind by kind (all but jumps and tests).
-/
import Derived.Test.YtmlpedgcpffpnaaGreatDoorKZ0
import Derived.Test.YtmlpedgcpffpnaaGreatDoorKQ5
import Derived.BigQuiet
set_option linter.unusedSimpArgs false
set_option maxRecDepth 100000
set_option maxHeartbeats 8000000
namespace Go.Proofs.YtmlpedgcpffpnaaGreatDoor
open Go.RowKit
structure ChIs (w : World) (g b off n cap : Nat) (lines : Int) (a1 a2 a3 : Option Addr) (n1 c1 n2 c2 n3 c3 : Nat) : Prop where
 lt : g < w.heap.size
 ops : w.cell? ⟨g, 0, none⟩ = some (.slice (some ⟨b, off, none⟩) n cap)
 lns : w.cell? ⟨g, 1, none⟩ = some (.int .i64 lines)
 ins : w.cell? ⟨g, 2, none⟩ = some (.slice a1 n1 c1)
 tbs : w.cell? ⟨g, 3, none⟩ = some (.slice a2 n2 c2)
 yrs : w.cell? ⟨g, 4, none⟩ = some (.slice a3 n3 c3)
theorem ChIs.alloc {w : World} {g b off n cap : Nat} {lines : Int} {a1 a2 a3 : Option Addr} {n1 c1 n2 c2 n3 c3 : Nat} (h : ChIs w g b off n cap lines a1 a2 a3 n1 c1 n2 c2 n3 c3) (o : Obj) : ChIs (w.alloc o) g b off n cap lines a1 a2 a3 n1 c1 n2 c2 n3 c3 :=
 ⟨by have := h.lt; simp; omega, by rw [World.cell?_alloc_past (w := w) _ _ _ h.lt]; exact h.ops, by rw [World.cell?_alloc_past (w := w) _ _ _ h.lt]; exact h.lns, by rw [World.cell?_alloc_past (w := w) _ _ _ h.lt]; exact h.ins, by rw [World.cell?_alloc_past (w := w) _ _ _ h.lt]; exact h.tbs, by rw [World.cell?_alloc_past (w := w) _ _ _ h.lt]; exact h.yrs⟩
def fitB (d z lines : Int) (n1 n2 n3 : Nat) : Bool :=
 if d = 1 then monB z else if d = 2 then lowB z n1 else if d = 4 then lowB z n3 else if d = 6 then lowB z n2 else if d = 3 \/ d = 16 then lowB z lines else if d = 5 then decide (0 <= z /\ z <= 1000000) else if d = 10 \/ d = 11 then decide (1 <= z /\ z <= 1000000) else decide (z = 0)
theorem fits_2 (g b off n cap at_ : Nat) (z lines : Int) (a1 a2 a3 : Option Addr) (n1 c1 n2 c2 n3 c3 : Nat) (w : World) (hch : ChIs w g b off n cap lines a1 a2 a3 n1 c1 n2 c2 n3 c3) (hat : at_ < n)
 (x0 : w.cell? ⟨b, off + at_ * 2, none⟩ = some (.int .i64 2)) (x1 : w.cell? ⟨b, off + at_ * 2 + 1, none⟩ = some (.int .i64 z)) :
 Calls Tryz.prog 94 #[.pointer (some ⟨g, 0, none⟩), .int .i64 (at_ : Int)] w fun e w' => e = .returned (.bool (fitB 2 z lines n1 n2 n3)) /\ Below w.heap.size w w' := by
 have hat' : (at_ : Int) < (n : Int) := by omega
 have HV : Hid (fitB 2 z lines n1 n2 n3 = lowB z n1) := by unfold Hid fitB; simp
 have o0 := hch.ops;obtain ⟨_, p0, p1, p2, p3, p4⟩ := hch.alloc (.cells #[.int .i64 2, .int .i64 z] 55);have HB := Hd (kbelow_box w (.cells #[.int .i64 2, .int .i64 z] 55));clear hch
 go_enter Tryz.func94, Tryz.ntmps94
 go_wp2_with fail
 go_quiet (exact Calls.quiet_of_same (isBelow_any _ _ _))
 go_wp2_with fail
 go_ret;exact ⟨kret_bool HV.out.symm, kbelow_dN HB.out _⟩
theorem fits_4 (g b off n cap at_ : Nat) (z lines : Int) (a1 a2 a3 : Option Addr) (n1 c1 n2 c2 n3 c3 : Nat) (w : World) (hch : ChIs w g b off n cap lines a1 a2 a3 n1 c1 n2 c2 n3 c3) (hat : at_ < n)
 (x0 : w.cell? ⟨b, off + at_ * 2, none⟩ = some (.int .i64 4)) (x1 : w.cell? ⟨b, off + at_ * 2 + 1, none⟩ = some (.int .i64 z)) :
 Calls Tryz.prog 94 #[.pointer (some ⟨g, 0, none⟩), .int .i64 (at_ : Int)] w fun e w' => e = .returned (.bool (fitB 4 z lines n1 n2 n3)) /\ Below w.heap.size w w' := by
 have hat' : (at_ : Int) < (n : Int) := by omega
 have HV : Hid (fitB 4 z lines n1 n2 n3 = lowB z n3) := by unfold Hid fitB; simp
 have o0 := hch.ops;obtain ⟨_, p0, p1, p2, p3, p4⟩ := hch.alloc (.cells #[.int .i64 4, .int .i64 z] 55);have HB := Hd (kbelow_box w (.cells #[.int .i64 4, .int .i64 z] 55));clear hch
 go_enter Tryz.func94, Tryz.ntmps94
 go_wp2_with fail
 go_quiet (exact Calls.quiet_of_same (isBelow_any _ _ _))
 go_wp2_with fail
 go_ret;exact ⟨kret_bool HV.out.symm, kbelow_dN HB.out _⟩
theorem fits_6 (g b off n cap at_ : Nat) (z lines : Int) (a1 a2 a3 : Option Addr) (n1 c1 n2 c2 n3 c3 : Nat) (w : World) (hch : ChIs w g b off n cap lines a1 a2 a3 n1 c1 n2 c2 n3 c3) (hat : at_ < n)
 (x0 : w.cell? ⟨b, off + at_ * 2, none⟩ = some (.int .i64 6)) (x1 : w.cell? ⟨b, off + at_ * 2 + 1, none⟩ = some (.int .i64 z)) :
 Calls Tryz.prog 94 #[.pointer (some ⟨g, 0, none⟩), .int .i64 (at_ : Int)] w fun e w' => e = .returned (.bool (fitB 6 z lines n1 n2 n3)) /\ Below w.heap.size w w' := by
 have hat' : (at_ : Int) < (n : Int) := by omega
 have HV : Hid (fitB 6 z lines n1 n2 n3 = lowB z n2) := by unfold Hid fitB; simp
 have o0 := hch.ops;obtain ⟨_, p0, p1, p2, p3, p4⟩ := hch.alloc (.cells #[.int .i64 6, .int .i64 z] 55);have HB := Hd (kbelow_box w (.cells #[.int .i64 6, .int .i64 z] 55));clear hch
 go_enter Tryz.func94, Tryz.ntmps94
 go_wp2_with fail
 go_quiet (exact Calls.quiet_of_same (isBelow_any _ _ _))
 go_wp2_with fail
 go_ret;exact ⟨kret_bool HV.out.symm, kbelow_dN HB.out _⟩
theorem fits_3 (g b off n cap at_ : Nat) (z lines : Int) (a1 a2 a3 : Option Addr) (n1 c1 n2 c2 n3 c3 : Nat) (w : World) (hch : ChIs w g b off n cap lines a1 a2 a3 n1 c1 n2 c2 n3 c3) (hat : at_ < n)
 (x0 : w.cell? ⟨b, off + at_ * 2, none⟩ = some (.int .i64 3)) (x1 : w.cell? ⟨b, off + at_ * 2 + 1, none⟩ = some (.int .i64 z)) :
 Calls Tryz.prog 94 #[.pointer (some ⟨g, 0, none⟩), .int .i64 (at_ : Int)] w fun e w' => e = .returned (.bool (fitB 3 z lines n1 n2 n3)) /\ Below w.heap.size w w' := by
 have hat' : (at_ : Int) < (n : Int) := by omega
 have HV : Hid (fitB 3 z lines n1 n2 n3 = lowB z lines) := by unfold Hid fitB; simp
 have o0 := hch.ops;obtain ⟨_, p0, p1, p2, p3, p4⟩ := hch.alloc (.cells #[.int .i64 3, .int .i64 z] 55);have HB := Hd (kbelow_box w (.cells #[.int .i64 3, .int .i64 z] 55));clear hch
 go_enter Tryz.func94, Tryz.ntmps94
 go_wp2_with fail
 go_quiet (exact Calls.quiet_of_same (isBelow_any _ _ _))
 go_wp2_with fail
 go_ret;exact ⟨kret_bool HV.out.symm, kbelow_dN HB.out _⟩
theorem fits_16 (g b off n cap at_ : Nat) (z lines : Int) (a1 a2 a3 : Option Addr) (n1 c1 n2 c2 n3 c3 : Nat) (w : World) (hch : ChIs w g b off n cap lines a1 a2 a3 n1 c1 n2 c2 n3 c3) (hat : at_ < n)
 (x0 : w.cell? ⟨b, off + at_ * 2, none⟩ = some (.int .i64 16)) (x1 : w.cell? ⟨b, off + at_ * 2 + 1, none⟩ = some (.int .i64 z)) :
 Calls Tryz.prog 94 #[.pointer (some ⟨g, 0, none⟩), .int .i64 (at_ : Int)] w fun e w' => e = .returned (.bool (fitB 16 z lines n1 n2 n3)) /\ Below w.heap.size w w' := by
 have hat' : (at_ : Int) < (n : Int) := by omega
 have HV : Hid (fitB 16 z lines n1 n2 n3 = lowB z lines) := by unfold Hid fitB; simp
 have o0 := hch.ops;obtain ⟨_, p0, p1, p2, p3, p4⟩ := hch.alloc (.cells #[.int .i64 16, .int .i64 z] 55);have HB := Hd (kbelow_box w (.cells #[.int .i64 16, .int .i64 z] 55));clear hch
 go_enter Tryz.func94, Tryz.ntmps94
 go_wp2_with fail
 go_quiet (exact Calls.quiet_of_same (isBelow_any _ _ _))
 go_wp2_with fail
 go_ret;exact ⟨kret_bool HV.out.symm, kbelow_dN HB.out _⟩
theorem fits_5 (g b off n cap at_ : Nat) (z lines : Int) (a1 a2 a3 : Option Addr) (n1 c1 n2 c2 n3 c3 : Nat) (w : World) (hch : ChIs w g b off n cap lines a1 a2 a3 n1 c1 n2 c2 n3 c3) (hat : at_ < n)
 (x0 : w.cell? ⟨b, off + at_ * 2, none⟩ = some (.int .i64 5)) (x1 : w.cell? ⟨b, off + at_ * 2 + 1, none⟩ = some (.int .i64 z)) :
 Calls Tryz.prog 94 #[.pointer (some ⟨g, 0, none⟩), .int .i64 (at_ : Int)] w fun e w' => e = .returned (.bool (fitB 5 z lines n1 n2 n3)) /\ Below w.heap.size w w' := by
 have hat' : (at_ : Int) < (n : Int) := by omega
 have HV : Hid (fitB 5 z lines n1 n2 n3 = decide (0 <= z /\ z <= 1000000)) := by unfold Hid fitB; simp
 have o0 := hch.ops;have HB := Hd (kbelow_box w (.cells #[.int .i64 5, .int .i64 z] 55));clear hch
 by_cases t1 : 0 <= z
 ·have t1B : decide (0 <= z) = true := decide_eq_true t1
  by_cases t2 : z <= 1000000
  ·have t2B : decide (z <= 1000000) = true := decide_eq_true t2;have HR : Hid (decide (0 <= z /\ z <= 1000000) = true) := by unfold Hid; first | exact decide_eq_true ⟨t1, t2⟩
   go_enter Tryz.func94, Tryz.ntmps94
   go_wp2_with fail
   go_ret;exact ⟨kret_bool (by rw [HV.out, HR.out]), HB.out⟩
  ·have t2B : decide (z <= 1000000) = false := dEf t2;have HR : Hid (decide (0 <= z /\ z <= 1000000) = false) := by unfold Hid; exact dEf (fun h => t2 h.2)
   go_enter Tryz.func94, Tryz.ntmps94
   go_wp2_with fail
   go_ret;exact ⟨kret_bool (by rw [HV.out, HR.out]), HB.out⟩
 ·have t1B : decide (0 <= z) = false := dEf t1;have HR : Hid (decide (0 <= z /\ z <= 1000000) = false) := by unfold Hid; exact dEf (fun h => t1 h.1)
  go_enter Tryz.func94, Tryz.ntmps94
  go_wp2_with fail
  go_ret;exact ⟨kret_bool (by rw [HV.out, HR.out]), HB.out⟩
theorem fits_10 (g b off n cap at_ : Nat) (z lines : Int) (a1 a2 a3 : Option Addr) (n1 c1 n2 c2 n3 c3 : Nat) (w : World) (hch : ChIs w g b off n cap lines a1 a2 a3 n1 c1 n2 c2 n3 c3) (hat : at_ < n)
 (x0 : w.cell? ⟨b, off + at_ * 2, none⟩ = some (.int .i64 10)) (x1 : w.cell? ⟨b, off + at_ * 2 + 1, none⟩ = some (.int .i64 z)) :
 Calls Tryz.prog 94 #[.pointer (some ⟨g, 0, none⟩), .int .i64 (at_ : Int)] w fun e w' => e = .returned (.bool (fitB 10 z lines n1 n2 n3)) /\ Below w.heap.size w w' := by
 have hat' : (at_ : Int) < (n : Int) := by omega
 have HV : Hid (fitB 10 z lines n1 n2 n3 = decide (1 <= z /\ z <= 1000000)) := by unfold Hid fitB; simp
 have o0 := hch.ops;have HB := Hd (kbelow_box w (.cells #[.int .i64 10, .int .i64 z] 55));clear hch
 by_cases t1 : 1 <= z
 ·have t1B : decide (1 <= z) = true := decide_eq_true t1
  by_cases t2 : z <= 1000000
  ·have t2B : decide (z <= 1000000) = true := decide_eq_true t2;have HR : Hid (decide (1 <= z /\ z <= 1000000) = true) := by unfold Hid; first | exact decide_eq_true ⟨t1, t2⟩
   go_enter Tryz.func94, Tryz.ntmps94
   go_wp2_with fail
   go_ret;exact ⟨kret_bool (by rw [HV.out, HR.out]), HB.out⟩
  ·have t2B : decide (z <= 1000000) = false := dEf t2;have HR : Hid (decide (1 <= z /\ z <= 1000000) = false) := by unfold Hid; exact dEf (fun h => t2 h.2)
   go_enter Tryz.func94, Tryz.ntmps94
   go_wp2_with fail
   go_ret;exact ⟨kret_bool (by rw [HV.out, HR.out]), HB.out⟩
 ·have t1B : decide (1 <= z) = false := dEf t1;have HR : Hid (decide (1 <= z /\ z <= 1000000) = false) := by unfold Hid; exact dEf (fun h => t1 h.1)
  go_enter Tryz.func94, Tryz.ntmps94
  go_wp2_with fail
  go_ret;exact ⟨kret_bool (by rw [HV.out, HR.out]), HB.out⟩
theorem fits_11 (g b off n cap at_ : Nat) (z lines : Int) (a1 a2 a3 : Option Addr) (n1 c1 n2 c2 n3 c3 : Nat) (w : World) (hch : ChIs w g b off n cap lines a1 a2 a3 n1 c1 n2 c2 n3 c3) (hat : at_ < n)
 (x0 : w.cell? ⟨b, off + at_ * 2, none⟩ = some (.int .i64 11)) (x1 : w.cell? ⟨b, off + at_ * 2 + 1, none⟩ = some (.int .i64 z)) :
 Calls Tryz.prog 94 #[.pointer (some ⟨g, 0, none⟩), .int .i64 (at_ : Int)] w fun e w' => e = .returned (.bool (fitB 11 z lines n1 n2 n3)) /\ Below w.heap.size w w' := by
 have hat' : (at_ : Int) < (n : Int) := by omega
 have HV : Hid (fitB 11 z lines n1 n2 n3 = decide (1 <= z /\ z <= 1000000)) := by unfold Hid fitB; simp
 have o0 := hch.ops;have HB := Hd (kbelow_box w (.cells #[.int .i64 11, .int .i64 z] 55));clear hch
 by_cases t1 : 1 <= z
 ·have t1B : decide (1 <= z) = true := decide_eq_true t1
  by_cases t2 : z <= 1000000
  ·have t2B : decide (z <= 1000000) = true := decide_eq_true t2;have HR : Hid (decide (1 <= z /\ z <= 1000000) = true) := by unfold Hid; first | exact decide_eq_true ⟨t1, t2⟩
   go_enter Tryz.func94, Tryz.ntmps94
   go_wp2_with fail
   go_ret;exact ⟨kret_bool (by rw [HV.out, HR.out]), HB.out⟩
  ·have t2B : decide (z <= 1000000) = false := dEf t2;have HR : Hid (decide (1 <= z /\ z <= 1000000) = false) := by unfold Hid; exact dEf (fun h => t2 h.2)
   go_enter Tryz.func94, Tryz.ntmps94
   go_wp2_with fail
   go_ret;exact ⟨kret_bool (by rw [HV.out, HR.out]), HB.out⟩
 ·have t1B : decide (1 <= z) = false := dEf t1;have HR : Hid (decide (1 <= z /\ z <= 1000000) = false) := by unfold Hid; exact dEf (fun h => t1 h.1)
  go_enter Tryz.func94, Tryz.ntmps94
  go_wp2_with fail
  go_ret;exact ⟨kret_bool (by rw [HV.out, HR.out]), HB.out⟩
theorem fits_7 (g b off n cap at_ : Nat) (z lines : Int) (a1 a2 a3 : Option Addr) (n1 c1 n2 c2 n3 c3 : Nat) (w : World) (hch : ChIs w g b off n cap lines a1 a2 a3 n1 c1 n2 c2 n3 c3) (hat : at_ < n)
 (x0 : w.cell? ⟨b, off + at_ * 2, none⟩ = some (.int .i64 7)) (x1 : w.cell? ⟨b, off + at_ * 2 + 1, none⟩ = some (.int .i64 z)) :
 Calls Tryz.prog 94 #[.pointer (some ⟨g, 0, none⟩), .int .i64 (at_ : Int)] w fun e w' => e = .returned (.bool (fitB 7 z lines n1 n2 n3)) /\ Below w.heap.size w w' := by
 have hat' : (at_ : Int) < (n : Int) := by omega
 have HV : Hid (fitB 7 z lines n1 n2 n3 = decide (z = 0)) := by unfold Hid fitB; simp
 have o0 := hch.ops;have HB := Hd (kbelow_box w (.cells #[.int .i64 7, .int .i64 z] 55));clear hch
 go_enter Tryz.func94, Tryz.ntmps94
 go_wp2_with fail
 go_ret;exact ⟨kret_bool (by rw [HV.out]; rfl), HB.out⟩
theorem fits_8 (g b off n cap at_ : Nat) (z lines : Int) (a1 a2 a3 : Option Addr) (n1 c1 n2 c2 n3 c3 : Nat) (w : World) (hch : ChIs w g b off n cap lines a1 a2 a3 n1 c1 n2 c2 n3 c3) (hat : at_ < n)
 (x0 : w.cell? ⟨b, off + at_ * 2, none⟩ = some (.int .i64 8)) (x1 : w.cell? ⟨b, off + at_ * 2 + 1, none⟩ = some (.int .i64 z)) :
 Calls Tryz.prog 94 #[.pointer (some ⟨g, 0, none⟩), .int .i64 (at_ : Int)] w fun e w' => e = .returned (.bool (fitB 8 z lines n1 n2 n3)) /\ Below w.heap.size w w' := by
 have hat' : (at_ : Int) < (n : Int) := by omega
 have HV : Hid (fitB 8 z lines n1 n2 n3 = decide (z = 0)) := by unfold Hid fitB; simp
 have o0 := hch.ops;have HB := Hd (kbelow_box w (.cells #[.int .i64 8, .int .i64 z] 55));clear hch
 go_enter Tryz.func94, Tryz.ntmps94
 go_wp2_with fail
 go_ret;exact ⟨kret_bool (by rw [HV.out]; rfl), HB.out⟩
theorem fits_9 (g b off n cap at_ : Nat) (z lines : Int) (a1 a2 a3 : Option Addr) (n1 c1 n2 c2 n3 c3 : Nat) (w : World) (hch : ChIs w g b off n cap lines a1 a2 a3 n1 c1 n2 c2 n3 c3) (hat : at_ < n)
 (x0 : w.cell? ⟨b, off + at_ * 2, none⟩ = some (.int .i64 9)) (x1 : w.cell? ⟨b, off + at_ * 2 + 1, none⟩ = some (.int .i64 z)) :
 Calls Tryz.prog 94 #[.pointer (some ⟨g, 0, none⟩), .int .i64 (at_ : Int)] w fun e w' => e = .returned (.bool (fitB 9 z lines n1 n2 n3)) /\ Below w.heap.size w w' := by
 have hat' : (at_ : Int) < (n : Int) := by omega
 have HV : Hid (fitB 9 z lines n1 n2 n3 = decide (z = 0)) := by unfold Hid fitB; simp
 have o0 := hch.ops;have HB := Hd (kbelow_box w (.cells #[.int .i64 9, .int .i64 z] 55));clear hch
 go_enter Tryz.func94, Tryz.ntmps94
 go_wp2_with fail
 go_ret;exact ⟨kret_bool (by rw [HV.out]; rfl), HB.out⟩
theorem fits_12 (g b off n cap at_ : Nat) (z lines : Int) (a1 a2 a3 : Option Addr) (n1 c1 n2 c2 n3 c3 : Nat) (w : World) (hch : ChIs w g b off n cap lines a1 a2 a3 n1 c1 n2 c2 n3 c3) (hat : at_ < n)
 (x0 : w.cell? ⟨b, off + at_ * 2, none⟩ = some (.int .i64 12)) (x1 : w.cell? ⟨b, off + at_ * 2 + 1, none⟩ = some (.int .i64 z)) :
 Calls Tryz.prog 94 #[.pointer (some ⟨g, 0, none⟩), .int .i64 (at_ : Int)] w fun e w' => e = .returned (.bool (fitB 12 z lines n1 n2 n3)) /\ Below w.heap.size w w' := by
 have hat' : (at_ : Int) < (n : Int) := by omega
 have HV : Hid (fitB 12 z lines n1 n2 n3 = decide (z = 0)) := by unfold Hid fitB; simp
 have o0 := hch.ops;have HB := Hd (kbelow_box w (.cells #[.int .i64 12, .int .i64 z] 55));clear hch
 go_enter Tryz.func94, Tryz.ntmps94
 go_wp2_with fail
 go_ret;exact ⟨kret_bool (by rw [HV.out]; rfl), HB.out⟩
theorem fits_13 (g b off n cap at_ : Nat) (z lines : Int) (a1 a2 a3 : Option Addr) (n1 c1 n2 c2 n3 c3 : Nat) (w : World) (hch : ChIs w g b off n cap lines a1 a2 a3 n1 c1 n2 c2 n3 c3) (hat : at_ < n)
 (x0 : w.cell? ⟨b, off + at_ * 2, none⟩ = some (.int .i64 13)) (x1 : w.cell? ⟨b, off + at_ * 2 + 1, none⟩ = some (.int .i64 z)) :
 Calls Tryz.prog 94 #[.pointer (some ⟨g, 0, none⟩), .int .i64 (at_ : Int)] w fun e w' => e = .returned (.bool (fitB 13 z lines n1 n2 n3)) /\ Below w.heap.size w w' := by
 have hat' : (at_ : Int) < (n : Int) := by omega
 have HV : Hid (fitB 13 z lines n1 n2 n3 = decide (z = 0)) := by unfold Hid fitB; simp
 have o0 := hch.ops;have HB := Hd (kbelow_box w (.cells #[.int .i64 13, .int .i64 z] 55));clear hch
 go_enter Tryz.func94, Tryz.ntmps94
 go_wp2_with fail
 go_ret;exact ⟨kret_bool (by rw [HV.out]; rfl), HB.out⟩
theorem fits_1 (g b off n cap at_ : Nat) (z lines : Int) (a1 a2 a3 : Option Addr) (n1 c1 n2 c2 n3 c3 : Nat) (w : World) (hch : ChIs w g b off n cap lines a1 a2 a3 n1 c1 n2 c2 n3 c3) (hat : at_ < n)
 (x0 : w.cell? ⟨b, off + at_ * 2, none⟩ = some (.int .i64 1)) (x1 : w.cell? ⟨b, off + at_ * 2 + 1, none⟩ = some (.int .i64 z)) :
 Calls Tryz.prog 94 #[.pointer (some ⟨g, 0, none⟩), .int .i64 (at_ : Int)] w fun e w' => e = .returned (.bool (fitB 1 z lines n1 n2 n3)) /\ Below w.heap.size w w' := by
 have hat' : (at_ : Int) < (n : Int) := by omega
 have HV : Hid (fitB 1 z lines n1 n2 n3 = monB z) := by unfold Hid fitB; simp
 have o0 := hch.ops;have HB := Hd (kbelow_box w (.cells #[.int .i64 1, .int .i64 z] 55));clear hch
 go_enter Tryz.func94, Tryz.ntmps94
 go_wp2_with fail
 refine (isMoney_any _ _).mono ?_;rintro e w' ⟨rfl, h'⟩;subst w';go_wp2_with fail
 go_ret;exact ⟨kret_bool HV.out.symm, HB.out⟩
open Go.Sort
theorem isBelow_b (n t : Int) (w : World) : Calls Tryz.prog 144 #[.int .i64 n, .int .i64 t] w fun e w' => e = .returned (.bool (lowB n t)) /\ Below w.heap.size w w' :=
 (isBelow_any n t w).mono fun _ _ ⟨he, hw⟩ => ⟨he, hw ▸ Below.refl _ _⟩
def jumpB (z : Int) (n at_ : Nat) : Bool := lowB z ((n : Int) - at_)
def testB (z : Int) (n at_ : Nat) : Bool := decide (1 <= z.tmod 4) && decide (z.tmod 4 <= 3) && lowB (z.tdiv 4) ((n : Int) - at_)
theorem fits_14 (g b off n cap at_ : Nat) (z lines : Int) (a1 a2 a3 : Option Addr) (n1 c1 n2 c2 n3 c3 : Nat) (w : World) (hch : ChIs w g b off n cap lines a1 a2 a3 n1 c1 n2 c2 n3 c3) (hat : at_ < n) (hn : n <= 10000) (hz : I64 z)
 (x0 : w.cell? ⟨b, off + at_ * 2, none⟩ = some (.int .i64 14)) (x1 : w.cell? ⟨b, off + at_ * 2 + 1, none⟩ = some (.int .i64 z)) :
 Calls Tryz.prog 94 #[.pointer (some ⟨g, 0, none⟩), .int .i64 (at_ : Int)] w fun e w' => e = .returned (.bool (jumpB z n at_)) /\ Below w.heap.size w w' := by
 have hat' : (at_ : Int) < (n : Int) := by omega
 have o0 := hch.ops;have p0 := (hch.alloc (.cells #[.int .i64 14, .int .i64 z] 55)).ops;have HB := Hd (kbelow_box w (.cells #[.int .i64 14, .int .i64 z] 55));have q0 : (w.alloc (.cells #[.int .i64 14, .int .i64 z] 55)).cell? ⟨w.heap.size, 0, none⟩ = some (.int .i64 14) := by simp
 have q1 : (w.alloc (.cells #[.int .i64 14, .int .i64 z] 55)).cell? ⟨w.heap.size, 1, none⟩ = some (.int .i64 z) := by simp
 have hw1 : IntKind.i64.wrap ((n : Int) - at_) = (n : Int) - at_ := IntWalk.i64_in _ (by omega);clear hch
 go_enter Tryz.func94, Tryz.ntmps94
 go_wp2_with fail
 obtain ⟨W, hW⟩ : ∃ W, W = (w.alloc (.cells #[.int .i64 14, .int .i64 z] 55)) := ⟨_, rfl⟩;rw [<- hW] at p0 q0 q1 HB ⊢;clear hW;have r0 := cell_regrown p0;have r1 := cell_regrown q0;have r2 := cell_regrown q1;obtain ⟨M, hM⟩ : ∃ M, M = (n : Int) - at_ := ⟨_, rfl⟩;rw [<- hM] at hw1;have HMM := Hd hM;clear hM;have HV : Hid (jumpB z n at_ = lowB (furI 14 z) M) := by unfold Hid jumpB; rw [HMM.out]; rfl
 refine wp_region_quiet_below (by kernel_rfl) (by kernel_rfl) ?_
 repeat (go_big_quiet_step (first | exact Calls.regrown_of (further_any _ _ _ hz) | exact Calls.regrown_of (testOf_any _ _ _) | exact Calls.regrown_of (isBelow_b _ _ _)))
 refine wpQuiet_nil ?_;intro _ hw';obtain ⟨⟨dq, osq⟩, hw''⟩ := hw';subst hw'';go_wp2_with fail
 go_ret;exact ⟨kret_bool (by first | (rw [HV.out]; done) | (rw [HV.out, HMM.out]; done) | (rw [HV.out, <- HMM.out]; done)), HB.out.trans ((below_regrown W dq osq).mono HB.out.size)⟩
theorem fits_15 (g b off n cap at_ : Nat) (z lines : Int) (a1 a2 a3 : Option Addr) (n1 c1 n2 c2 n3 c3 : Nat) (w : World) (hch : ChIs w g b off n cap lines a1 a2 a3 n1 c1 n2 c2 n3 c3) (hat : at_ < n) (hn : n <= 10000) (hz : I64 z)
 (x0 : w.cell? ⟨b, off + at_ * 2, none⟩ = some (.int .i64 15)) (x1 : w.cell? ⟨b, off + at_ * 2 + 1, none⟩ = some (.int .i64 z)) :
 Calls Tryz.prog 94 #[.pointer (some ⟨g, 0, none⟩), .int .i64 (at_ : Int)] w fun e w' => e = .returned (.bool (testB z n at_)) /\ Below w.heap.size w w' := by
 have hat' : (at_ : Int) < (n : Int) := by omega
 have o0 := hch.ops;have p0 := (hch.alloc (.cells #[.int .i64 15, .int .i64 z] 55)).ops;have HB := Hd (kbelow_box w (.cells #[.int .i64 15, .int .i64 z] 55));have q0 : (w.alloc (.cells #[.int .i64 15, .int .i64 z] 55)).cell? ⟨w.heap.size, 0, none⟩ = some (.int .i64 15) := by simp
 have q1 : (w.alloc (.cells #[.int .i64 15, .int .i64 z] 55)).cell? ⟨w.heap.size, 1, none⟩ = some (.int .i64 z) := by simp
 have hw1 : IntKind.i64.wrap ((n : Int) - at_) = (n : Int) - at_ := IntWalk.i64_in _ (by omega);clear hch
 go_enter Tryz.func94, Tryz.ntmps94
 go_wp2_with fail
 obtain ⟨W, hW⟩ : ∃ W, W = (w.alloc (.cells #[.int .i64 15, .int .i64 z] 55)) := ⟨_, rfl⟩;rw [<- hW] at p0 q0 q1 HB ⊢;clear hW;have r0 := cell_regrown p0;have r1 := cell_regrown q0;have r2 := cell_regrown q1;obtain ⟨M, hM⟩ : ∃ M, M = (n : Int) - at_ := ⟨_, rfl⟩;rw [<- hM] at hw1;have HMM := Hd hM;clear hM;have HVV : Hid (testB z n at_ = (decide (1 <= z.tmod 4) && decide (z.tmod 4 <= 3) && lowB (furI 15 z) M)) := by unfold Hid testB; rw [HMM.out]; rfl
 have HTT := Hd (fun w => testOf_any 15 z w);obtain ⟨T, hT⟩ : ∃ T, z.tmod 4 = T := ⟨_, rfl⟩;rw [hT] at HVV HTT;clear hT
 by_cases t1 : 1 <= T
 ·have t1B : decide (1 <= T) = true := decide_eq_true t1
  by_cases t2 : T <= 3
  ·have t2B : decide (T <= 3) = true := decide_eq_true t2;have HV : Hid (testB z n at_ = lowB (furI 15 z) M) := by unfold Hid; rw [HVV.out, t1B, t2B]; rfl
   refine wp_region_quiet_below (by kernel_rfl) (by kernel_rfl) ?_
   repeat (go_big_quiet_step (first | exact Calls.regrown_of (further_any _ _ _ hz) | exact Calls.regrown_of (HTT.out _) | exact Calls.regrown_of (isBelow_b _ _ _)))
   refine wpQuiet_nil ?_;intro _ hw';obtain ⟨⟨dq, osq⟩, hw''⟩ := hw';subst hw'';go_wp2_with fail
   go_ret;exact ⟨kret_bool (by first | (rw [HV.out]; done) | (rw [HV.out, HMM.out]; done) | (rw [HV.out, <- HMM.out]; done)), HB.out.trans ((below_regrown W dq osq).mono HB.out.size)⟩
  ·have t2B : decide (T <= 3) = false := dEf t2;have HV : Hid (testB z n at_ = false) := by unfold Hid; rw [HVV.out, t1B, t2B]; rfl
   refine wp_region_quiet_below (by kernel_rfl) (by kernel_rfl) ?_
   repeat (go_big_quiet_step (first | exact Calls.regrown_of (further_any _ _ _ hz) | exact Calls.regrown_of (HTT.out _) | exact Calls.regrown_of (isBelow_b _ _ _)))
   refine wpQuiet_nil ?_;intro _ hw';obtain ⟨⟨dq, osq⟩, hw''⟩ := hw';subst hw'';go_wp2_with fail
   go_ret;exact ⟨kret_bool (by first | (rw [HV.out]; done) | (rw [HV.out, HMM.out]; done) | (rw [HV.out, <- HMM.out]; done)), HB.out.trans ((below_regrown W dq osq).mono HB.out.size)⟩
 ·have t1B : decide (1 <= T) = false := dEf t1;have HV : Hid (testB z n at_ = false) := by unfold Hid; rw [HVV.out, t1B]; rfl
  refine wp_region_quiet_below (by kernel_rfl) (by kernel_rfl) ?_
  repeat (go_big_quiet_step (first | exact Calls.regrown_of (further_any _ _ _ hz) | exact Calls.regrown_of (HTT.out _) | exact Calls.regrown_of (isBelow_b _ _ _)))
  refine wpQuiet_nil ?_;intro _ hw';obtain ⟨⟨dq, osq⟩, hw''⟩ := hw';subst hw'';go_wp2_with fail
  go_ret;exact ⟨kret_bool (by first | (rw [HV.out]; done) | (rw [HV.out, HMM.out]; done) | (rw [HV.out, <- HMM.out]; done)), HB.out.trans ((below_regrown W dq osq).mono HB.out.size)⟩
end Go.Proofs.YtmlpedgcpffpnaaGreatDoor
namespace Go.Proofs.YtmlpedgcpffpnaaGreatDoor
open Go.RowKit
def fitsB (d z lines : Int) (n1 n2 n3 n at_ : Nat) : Bool := if d = 14 then jumpB z n at_ else if d = 15 then testB z n at_ else fitB d z lines n1 n2 n3
theorem fits_any (d : Int) (hd1 : 1 <= d) (hd2 : d <= 16) (g b off n cap at_ : Nat) (z lines : Int) (a1 a2 a3 : Option Addr) (n1 c1 n2 c2 n3 c3 : Nat) (w : World) (hch : ChIs w g b off n cap lines a1 a2 a3 n1 c1 n2 c2 n3 c3) (hat : at_ < n) (hn : n <= 10000) (hz : I64 z)
 (x0 : w.cell? ⟨b, off + at_ * 2, none⟩ = some (.int .i64 d)) (x1 : w.cell? ⟨b, off + at_ * 2 + 1, none⟩ = some (.int .i64 z)) :
 Calls Tryz.prog 94 #[.pointer (some ⟨g, 0, none⟩), .int .i64 (at_ : Int)] w fun e w' => e = .returned (.bool (fitsB d z lines n1 n2 n3 n at_)) /\ Below w.heap.size w w' := by
 have hc : d = 1 \/ d = 2 \/ d = 3 \/ d = 4 \/ d = 5 \/ d = 6 \/ d = 7 \/ d = 8 \/ d = 9 \/ d = 10 \/ d = 11 \/ d = 12 \/ d = 13 \/ d = 14 \/ d = 15 \/ d = 16 := by omega
 rcases hc with rfl | rfl | rfl | rfl | rfl | rfl | rfl | rfl | rfl | rfl | rfl | rfl | rfl | rfl | rfl | rfl
 ·exact fits_1 g b off n cap at_ z lines a1 a2 a3 n1 c1 n2 c2 n3 c3 w hch hat x0 x1
 ·exact fits_2 g b off n cap at_ z lines a1 a2 a3 n1 c1 n2 c2 n3 c3 w hch hat x0 x1
 ·exact fits_3 g b off n cap at_ z lines a1 a2 a3 n1 c1 n2 c2 n3 c3 w hch hat x0 x1
 ·exact fits_4 g b off n cap at_ z lines a1 a2 a3 n1 c1 n2 c2 n3 c3 w hch hat x0 x1
 ·exact fits_5 g b off n cap at_ z lines a1 a2 a3 n1 c1 n2 c2 n3 c3 w hch hat x0 x1
 ·exact fits_6 g b off n cap at_ z lines a1 a2 a3 n1 c1 n2 c2 n3 c3 w hch hat x0 x1
 ·exact fits_7 g b off n cap at_ z lines a1 a2 a3 n1 c1 n2 c2 n3 c3 w hch hat x0 x1
 ·exact fits_8 g b off n cap at_ z lines a1 a2 a3 n1 c1 n2 c2 n3 c3 w hch hat x0 x1
 ·exact fits_9 g b off n cap at_ z lines a1 a2 a3 n1 c1 n2 c2 n3 c3 w hch hat x0 x1
 ·exact fits_10 g b off n cap at_ z lines a1 a2 a3 n1 c1 n2 c2 n3 c3 w hch hat x0 x1
 ·exact fits_11 g b off n cap at_ z lines a1 a2 a3 n1 c1 n2 c2 n3 c3 w hch hat x0 x1
 ·exact fits_12 g b off n cap at_ z lines a1 a2 a3 n1 c1 n2 c2 n3 c3 w hch hat x0 x1
 ·exact fits_13 g b off n cap at_ z lines a1 a2 a3 n1 c1 n2 c2 n3 c3 w hch hat x0 x1
 ·exact fits_14 g b off n cap at_ z lines a1 a2 a3 n1 c1 n2 c2 n3 c3 w hch hat hn hz x0 x1
 ·exact fits_15 g b off n cap at_ z lines a1 a2 a3 n1 c1 n2 c2 n3 c3 w hch hat hn hz x0 x1
 ·exact fits_16 g b off n cap at_ z lines a1 a2 a3 n1 c1 n2 c2 n3 c3 w hch hat x0 x1
theorem fits_line {d z lines : Int} {n1 n2 n3 n at_ : Nat} (h : fitsB d z lines n1 n2 n3 n at_ = true) (hd : d = 3 \/ d = 16) : 0 <= z /\ z < lines := by
 rcases hd with rfl | rfl <;> simpa [fitsB, fitB, lowB] using h
theorem fits_far {d z lines : Int} {n1 n2 n3 n at_ : Nat} (h : fitsB d z lines n1 n2 n3 n at_ = true) (hat : at_ < n) : 0 <= furI d z /\ (at_ : Int) + 1 + furI d z <= n := by
 unfold furI
 by_cases h1 : d = 14
 ·subst h1;have h' : 0 <= z /\ z < (n : Int) - at_ := by simpa [fitsB, jumpB, lowB] using h
  rw [if_pos rfl];omega
 ·rw [if_neg h1]
  by_cases h2 : d = 15
  ·subst h2;have h' : (1 <= z.tmod 4 /\ z.tmod 4 <= 3) /\ 0 <= z.tdiv 4 /\ z.tdiv 4 < (n : Int) - at_ := by simpa [fitsB, testB, lowB] using h
   rw [if_pos rfl];omega
  ·rw [if_neg h2];omega
theorem allows_any (d : Int) (k : Nat) (q : Nat) (z : Int) (w : World) (hE : Eff w) (h1 : 1 <= q) (h2 : q <= 16) (hk : k < 1099511627776) (hz : q = 3 \/ q = 16 -> 0 <= z /\ z < 40) :
 Calls Tryz.prog 95 #[.agg #[.int .i64 d, .int .u64 k], .agg #[.int .i64 q, .int .i64 z]] w fun e w' => e = .returned (.bool (allowB d k q z)) /\ Below w.heap.size w w' := by
 by_cases h3 : q = 3
 ·subst h3;obtain ⟨u, rfl⟩ : ∃ u : Nat, z = u := ⟨z.toNat, by have := hz (.inl rfl); omega⟩;exact allows_3 d k u w hE hk (by have := hz (.inl rfl); omega)
 ·by_cases h4 : q = 16
  ·subst h4;obtain ⟨u, rfl⟩ : ∃ u : Nat, z = u := ⟨z.toNat, by have := hz (.inr rfl); omega⟩;exact allows_16 d k u w hE hk (by have := hz (.inr rfl); omega)
  ·exact allows_else d k q z w hE h1 h2 h3 h4
def nxD (d : Int) (q : Nat) : Int := d + (laysOf q - takesOf q)
def nxK (k q : Nat) (z : Int) : Nat := if q = 16 then k ||| 2 ^ z.toNat else k
theorem after_any (d : Int) (k : Nat) (q : Nat) (z : Int) (w : World) (hE : Eff w) (h1 : 1 <= q) (h2 : q <= 16) (hd0 : 0 <= d) (hd1 : d <= 20000) (hk : k < 1099511627776) (hz : q = 3 \/ q = 16 -> 0 <= z /\ z < 40) :
 Calls Tryz.prog 96 #[.agg #[.int .i64 d, .int .u64 k], .agg #[.int .i64 q, .int .i64 z]] w fun e w' => e = .returned (.agg #[.int .i64 (nxD d q), .int .u64 (nxK k q z : Nat)]) /\ Below w.heap.size w w' := by
 by_cases h4 : q = 16
 ·subst h4;obtain ⟨u, rfl⟩ : ∃ u : Nat, z = u := ⟨z.toNat, by have := hz (.inr rfl); omega⟩;have := after_keep d k u w hE hd0 hd1 hk (by have := hz (.inr rfl); omega);unfold nxD nxK;rw [if_pos rfl, Int.toNat_natCast];exact this
 ·unfold nxD nxK;rw [if_neg h4];exact after_else d k q z w hE h1 (by omega) hd0 hd1
structure Sp where
 d : Int
 k : Nat
 r : Bool
 h : Bool
def Spots (w : World) (sb n : Nat) (S : Nat -> Sp) : Prop := ∀ j, j <= n -> SpotIs w sb (j * 4) (S j).d (S j).k (S j).r (S j).h
def rchS (S : Nat -> Sp) (t : Nat) (d : Int) (k : Nat) : Nat -> Sp := fun j => if j = t then ⟨d, k, true, hungB (S t).d (S t).k d k (S t).r (S t).h⟩ else S j
def stpE (S : Nat -> Sp) (o : Bk) (lines : Int) (n1 n2 n3 n at_ : Nat) : Int :=
 if o.frm < 1 \/ 16 < o.frm then 7 else if fitsB o.frm o.rate lines n1 n2 n3 n at_ = false then 3 else if (S at_).r = false then 0 else if (S at_).h = true then 4 else if allowB (S at_).d (S at_).k o.frm.toNat o.rate = false then 4 else 0
def toN (o : Bk) (at_ : Nat) : Nat := at_ + 1 + (furI o.frm o.rate).toNat
def nxS (S : Nat -> Sp) (o : Bk) (at_ : Nat) : Nat -> Sp := rchS S (toN o at_) (nxD (S at_).d o.frm.toNat) (nxK (S at_).k o.frm.toNat o.rate)
def stpS (S : Nat -> Sp) (o : Bk) (at_ : Nat) : Nat -> Sp :=
 if (S at_).r = false then S else if o.frm = 15 then rchS (nxS S o at_) (at_ + 1) (nxD (S at_).d o.frm.toNat) (nxK (S at_).k o.frm.toNat o.rate) else nxS S o at_
def maxI (a b : Int) : Int := if a < b then b else a
def stpM (m : Int) (S : Nat -> Sp) (o : Bk) (at_ : Nat) : Int := if (S at_).r = false then m else maxI m (nxD (S at_).d o.frm.toNat)
theorem SpotIs.same {w w' : World} {b o : Nat} {d k : Int} {r h : Bool} (hs : SpotIs w b o d k r h) (hc : ∀ q, o <= q -> q < o + 4 -> w'.cell? ⟨b, q, none⟩ = w.cell? ⟨b, q, none⟩ /\ w'.frozen? ⟨b, q, none⟩ = w.frozen? ⟨b, q, none⟩) : SpotIs w' b o d k r h := by
 obtain ⟨⟨x0, x1, x2, x3⟩, f0, f1, f2, f3⟩ := hs;have h0 := hc o (by omega) (by omega);have h1 := hc (o + 1) (by omega) (by omega);have h2 := hc (o + 2) (by omega) (by omega);have h3 := hc (o + 3) (by omega) (by omega);exact ⟨⟨h0.1.trans x0, h1.1.trans x1, h2.1.trans x2, h3.1.trans x3⟩, h0.2.trans f0, h1.2.trans f1, h2.2.trans f2, h3.2.trans f3⟩
theorem Spots.reach {w w' : World} {sb n t : Nat} {S : Nat -> Sp} {d : Int} {k : Nat} {e : Ending} (hS : Spots w sb n S) (hr : ReachRet w sb (t * 4) d k (hungB (S t).d (S t).k d k (S t).r (S t).h) e w') : Spots w' sb n (rchS S t d k) := by
 intro j hj;unfold rchS
 by_cases hjt : j = t
 ·subst hjt;rw [if_pos rfl];exact hr.2.1
 ·rw [if_neg hjt];exact (hS j hj).same fun q h1 h2 => hr.2.2.1 q (by omega)
theorem Spots.below {w w' : World} {sb n : Nat} {S : Nat -> Sp} (hS : Spots w sb n S) (hb : Below w.heap.size w w') : Spots w' sb n S := fun j hj => by
 have hlt : sb < w.heap.size := blt_of_cell (hS j hj).1.1;exact (hS j hj).same fun q _ _ => ⟨hb.cell (p := ⟨sb, q, none⟩) hlt, hb.frozen (p := ⟨sb, q, none⟩) hlt⟩
def Cbx (w : World) (g : Nat) (vs : List Value) : Prop := ∀ i v, vs[i]? = some v -> w.cell? ⟨g, i, none⟩ = some v /\ w.frozen? ⟨g, i, none⟩ = false
theorem Cbx.to {w w' : World} {g : Nat} {vs : List Value} (h : Cbx w g vs) (hb : w'.heap[g]? = w.heap[g]?) : Cbx w' g vs := fun i v hv =>
 ⟨(World.cell?_of_block (a := ⟨g, i, none⟩) hb).trans (h i v hv).1, (World.frozen?_of_block (a := ⟨g, i, none⟩) hb).trans (h i v hv).2⟩
theorem Cbx.below {w w' : World} {g : Nat} {vs : List Value} (h : Cbx w g vs) (hb : Below w.heap.size w w') (hg : g < w.heap.size) : Cbx w' g vs := h.to (hb.block g hg)
theorem Cbx.made (w : World) (vs : List Value) (T : TypeId) : Cbx (w.alloc (.cells vs.toArray T)) w.heap.size vs := by
 intro i v hv;have hi : i < vs.length := by
  by_cases h : i < vs.length
  ·exact h
  ·rw [List.getElem?_eq_none (by omega)] at hv; cases hv
 refine ⟨?_, ?_⟩
 ·simp [hv]
 ·simp
def cput (w : World) (g : Nat) : Nat -> List Value -> World
 | _, [] => w
 | i, v :: vs => cput (w.setCell ⟨g, i, none⟩ v) g (i + 1) vs
theorem cput_block (g : Nat) {b : Nat} (hb : b ≠ g) : ∀ (us : List Value) (i : Nat) (w : World), (cput w g i us).heap[b]? = w.heap[b]?
 | [], _, _ => rfl
 | v :: us, i, w => by rw [cput, cput_block g hb us]; exact Below.heap_setCell w ⟨g, i, none⟩ _ b hb
theorem cput_frozen (g : Nat) (a : Addr) : ∀ (us : List Value) (i : Nat) (w : World), (cput w g i us).frozen? a = w.frozen? a
 | [], _, _ => rfl
 | v :: us, i, w => by rw [cput, cput_frozen g a us, World.frozen?_setCell]
theorem cput_ahead (g : Nat) {j : Nat} : ∀ (us : List Value) (i : Nat) (w : World), j < i -> (cput w g i us).cell? ⟨g, j, none⟩ = w.cell? ⟨g, j, none⟩
 | [], _, _, _ => rfl
 | v :: us, i, w, h => by rw [cput, cput_ahead g us (i + 1) _ (by omega), World.cell?_setCell_other (h := fun e => by injection e; omega)]
theorem cput_cell (g : Nat) : ∀ (us : List Value) (i : Nat) (w : World), (∀ j, j < us.length -> ∃ v, w.cell? ⟨g, i + j, none⟩ = some v) -> ∀ j u, us[j]? = some u -> (cput w g i us).cell? ⟨g, i + j, none⟩ = some u
 | [], _, _, _, j, u, hu => by cases hu
 | v :: us, i, w, h, j, u, hu => by
   rw [cput]
   cases j with
   | zero =>
     obtain ⟨v0, h0⟩ := h 0 (by simp);rw [List.getElem?_cons_zero] at hu;injection hu with hu
     subst hu;rw [Nat.add_zero] at h0 ⊢;rw [cput_ahead g us (i + 1) _ (by omega)];exact World.cell?_setCell_same _ _ _ h0
   | succ j =>
     rw [List.getElem?_cons_succ] at hu
     have := cput_cell g us (i + 1) (w.setCell ⟨g, i, none⟩ v) (fun q hq => by
      obtain ⟨v1, h1⟩ := h (q + 1) (by simp; omega);refine ⟨v1, ?_⟩;rw [World.cell?_setCell_other (h := fun e => by injection e; omega), show i + 1 + q = i + (q + 1) by omega];exact h1) j u hu
     rw [show i + (j + 1) = i + 1 + j by omega];exact this
theorem Cbx.put {w : World} {g : Nat} {vs : List Value} (h : Cbx w g vs) (us : List Value) (hl : us.length = vs.length) : Cbx (cput w g 0 us) g us := by
 intro i u hu;have hi : i < us.length := by
  by_cases h : i < us.length
  ·exact h
  ·rw [List.getElem?_eq_none (by omega)] at hu; cases hu
 refine ⟨?_, ?_⟩
 ·have := cput_cell g us 0 w (fun j hj => ⟨vs[j]'(by omega), by rw [Nat.zero_add]; exact (h j _ (List.getElem?_eq_getElem (by omega))).1⟩) i u hu
  rwa [Nat.zero_add] at this
 ·rw [cput_frozen];exact (h i _ (List.getElem?_eq_getElem (by omega : i < vs.length))).2
theorem Cbx.at {w : World} {g : Nat} {vs : List Value} (h : Cbx w g vs) (i : Nat) {v : Value} (hv : vs[i]? = some v) : w.cell? ⟨g, i, none⟩ = some v := (h i v hv).1
theorem Cbx.fr {w : World} {g : Nat} {vs : List Value} (h : Cbx w g vs) (i : Nat) {v : Value} (hv : vs[i]? = some v) : w.frozen? ⟨g, i, none⟩ = false := (h i v hv).2
theorem Cbx.past {w w' : World} {g b : Nat} {vs : List Value} (h : Cbx w g vs) (hb : w.grownBy w' (some b)) (hg : g < w.heap.size) (hp : b ≠ g) : Cbx w' g vs := h.to (hb.block g hg fun e => by injection e with e; exact hp e.symm)
theorem Cbx.lt {w : World} {g : Nat} {v : Value} {vs : List Value} (h : Cbx w g (v :: vs)) : g < w.heap.size := blt_of_cell (h 0 v rfl).1
theorem below_cput {B g : Nat} (hg : B <= g) (w w1 : World) (h : Below B w w1) : ∀ (us : List Value) (i : Nat), Below B w (cput w1 g i us) := by
 intro us
 induction us generalizing w1 with
 | nil => intro i; exact h
 | cons v us ih => intro i; rw [cput]; exact ih _ (h.setCell hg _) (i + 1)
end Go.Proofs.YtmlpedgcpffpnaaGreatDoor
