/-
  Promise J2: the reference: Takes, Lays, GoesTo, SameLying.
-/
import Derived.Test.YtmlpedgcpffpnaaGreatDoorKG
set_option linter.unusedSimpArgs false
namespace Go.Proofs.YtmlpedgcpffpnaaGreatDoor
open Go.RowKit
theorem takes_1 (w : World) : Calls Tryz.prog 33 #[.int .i64 1] w fun e w' => e = .returned (.int .i64 0) ∧ Below w.heap.size w w' := by
 have HB := Lib.hid (kbelow_box w (.cells #[.int .i64 0, .int .i64 0, .int .i64 0, .int .i64 0, .int .i64 0, .int .i64 1, .int .i64 1, .int .i64 1, .int .i64 2, .int .i64 2, .int .i64 1, .int .i64 1, .int .i64 2, .int .i64 2, .int .i64 0, .int .i64 2, .int .i64 1] 3))
 go_enter Tryz.func33, Tryz.ntmps33
 go_wp2_with fail
 go_ret
 exact ⟨rfl, HB.out⟩
theorem takes_2 (w : World) : Calls Tryz.prog 33 #[.int .i64 2] w fun e w' => e = .returned (.int .i64 0) ∧ Below w.heap.size w w' := by
 have HB := Lib.hid (kbelow_box w (.cells #[.int .i64 0, .int .i64 0, .int .i64 0, .int .i64 0, .int .i64 0, .int .i64 1, .int .i64 1, .int .i64 1, .int .i64 2, .int .i64 2, .int .i64 1, .int .i64 1, .int .i64 2, .int .i64 2, .int .i64 0, .int .i64 2, .int .i64 1] 3))
 go_enter Tryz.func33, Tryz.ntmps33
 go_wp2_with fail
 go_ret
 exact ⟨rfl, HB.out⟩
theorem takes_3 (w : World) : Calls Tryz.prog 33 #[.int .i64 3] w fun e w' => e = .returned (.int .i64 0) ∧ Below w.heap.size w w' := by
 have HB := Lib.hid (kbelow_box w (.cells #[.int .i64 0, .int .i64 0, .int .i64 0, .int .i64 0, .int .i64 0, .int .i64 1, .int .i64 1, .int .i64 1, .int .i64 2, .int .i64 2, .int .i64 1, .int .i64 1, .int .i64 2, .int .i64 2, .int .i64 0, .int .i64 2, .int .i64 1] 3))
 go_enter Tryz.func33, Tryz.ntmps33
 go_wp2_with fail
 go_ret
 exact ⟨rfl, HB.out⟩
theorem takes_4 (w : World) : Calls Tryz.prog 33 #[.int .i64 4] w fun e w' => e = .returned (.int .i64 0) ∧ Below w.heap.size w w' := by
 have HB := Lib.hid (kbelow_box w (.cells #[.int .i64 0, .int .i64 0, .int .i64 0, .int .i64 0, .int .i64 0, .int .i64 1, .int .i64 1, .int .i64 1, .int .i64 2, .int .i64 2, .int .i64 1, .int .i64 1, .int .i64 2, .int .i64 2, .int .i64 0, .int .i64 2, .int .i64 1] 3))
 go_enter Tryz.func33, Tryz.ntmps33
 go_wp2_with fail
 go_ret
 exact ⟨rfl, HB.out⟩
theorem takes_5 (w : World) : Calls Tryz.prog 33 #[.int .i64 5] w fun e w' => e = .returned (.int .i64 1) ∧ Below w.heap.size w w' := by
 have HB := Lib.hid (kbelow_box w (.cells #[.int .i64 0, .int .i64 0, .int .i64 0, .int .i64 0, .int .i64 0, .int .i64 1, .int .i64 1, .int .i64 1, .int .i64 2, .int .i64 2, .int .i64 1, .int .i64 1, .int .i64 2, .int .i64 2, .int .i64 0, .int .i64 2, .int .i64 1] 3))
 go_enter Tryz.func33, Tryz.ntmps33
 go_wp2_with fail
 go_ret
 exact ⟨rfl, HB.out⟩
theorem takes_6 (w : World) : Calls Tryz.prog 33 #[.int .i64 6] w fun e w' => e = .returned (.int .i64 1) ∧ Below w.heap.size w w' := by
 have HB := Lib.hid (kbelow_box w (.cells #[.int .i64 0, .int .i64 0, .int .i64 0, .int .i64 0, .int .i64 0, .int .i64 1, .int .i64 1, .int .i64 1, .int .i64 2, .int .i64 2, .int .i64 1, .int .i64 1, .int .i64 2, .int .i64 2, .int .i64 0, .int .i64 2, .int .i64 1] 3))
 go_enter Tryz.func33, Tryz.ntmps33
 go_wp2_with fail
 go_ret
 exact ⟨rfl, HB.out⟩
theorem takes_7 (w : World) : Calls Tryz.prog 33 #[.int .i64 7] w fun e w' => e = .returned (.int .i64 1) ∧ Below w.heap.size w w' := by
 have HB := Lib.hid (kbelow_box w (.cells #[.int .i64 0, .int .i64 0, .int .i64 0, .int .i64 0, .int .i64 0, .int .i64 1, .int .i64 1, .int .i64 1, .int .i64 2, .int .i64 2, .int .i64 1, .int .i64 1, .int .i64 2, .int .i64 2, .int .i64 0, .int .i64 2, .int .i64 1] 3))
 go_enter Tryz.func33, Tryz.ntmps33
 go_wp2_with fail
 go_ret
 exact ⟨rfl, HB.out⟩
theorem takes_8 (w : World) : Calls Tryz.prog 33 #[.int .i64 8] w fun e w' => e = .returned (.int .i64 2) ∧ Below w.heap.size w w' := by
 have HB := Lib.hid (kbelow_box w (.cells #[.int .i64 0, .int .i64 0, .int .i64 0, .int .i64 0, .int .i64 0, .int .i64 1, .int .i64 1, .int .i64 1, .int .i64 2, .int .i64 2, .int .i64 1, .int .i64 1, .int .i64 2, .int .i64 2, .int .i64 0, .int .i64 2, .int .i64 1] 3))
 go_enter Tryz.func33, Tryz.ntmps33
 go_wp2_with fail
 go_ret
 exact ⟨rfl, HB.out⟩
theorem takes_9 (w : World) : Calls Tryz.prog 33 #[.int .i64 9] w fun e w' => e = .returned (.int .i64 2) ∧ Below w.heap.size w w' := by
 have HB := Lib.hid (kbelow_box w (.cells #[.int .i64 0, .int .i64 0, .int .i64 0, .int .i64 0, .int .i64 0, .int .i64 1, .int .i64 1, .int .i64 1, .int .i64 2, .int .i64 2, .int .i64 1, .int .i64 1, .int .i64 2, .int .i64 2, .int .i64 0, .int .i64 2, .int .i64 1] 3))
 go_enter Tryz.func33, Tryz.ntmps33
 go_wp2_with fail
 go_ret
 exact ⟨rfl, HB.out⟩
theorem takes_10 (w : World) : Calls Tryz.prog 33 #[.int .i64 10] w fun e w' => e = .returned (.int .i64 1) ∧ Below w.heap.size w w' := by
 have HB := Lib.hid (kbelow_box w (.cells #[.int .i64 0, .int .i64 0, .int .i64 0, .int .i64 0, .int .i64 0, .int .i64 1, .int .i64 1, .int .i64 1, .int .i64 2, .int .i64 2, .int .i64 1, .int .i64 1, .int .i64 2, .int .i64 2, .int .i64 0, .int .i64 2, .int .i64 1] 3))
 go_enter Tryz.func33, Tryz.ntmps33
 go_wp2_with fail
 go_ret
 exact ⟨rfl, HB.out⟩
theorem takes_11 (w : World) : Calls Tryz.prog 33 #[.int .i64 11] w fun e w' => e = .returned (.int .i64 1) ∧ Below w.heap.size w w' := by
 have HB := Lib.hid (kbelow_box w (.cells #[.int .i64 0, .int .i64 0, .int .i64 0, .int .i64 0, .int .i64 0, .int .i64 1, .int .i64 1, .int .i64 1, .int .i64 2, .int .i64 2, .int .i64 1, .int .i64 1, .int .i64 2, .int .i64 2, .int .i64 0, .int .i64 2, .int .i64 1] 3))
 go_enter Tryz.func33, Tryz.ntmps33
 go_wp2_with fail
 go_ret
 exact ⟨rfl, HB.out⟩
theorem takes_12 (w : World) : Calls Tryz.prog 33 #[.int .i64 12] w fun e w' => e = .returned (.int .i64 2) ∧ Below w.heap.size w w' := by
 have HB := Lib.hid (kbelow_box w (.cells #[.int .i64 0, .int .i64 0, .int .i64 0, .int .i64 0, .int .i64 0, .int .i64 1, .int .i64 1, .int .i64 1, .int .i64 2, .int .i64 2, .int .i64 1, .int .i64 1, .int .i64 2, .int .i64 2, .int .i64 0, .int .i64 2, .int .i64 1] 3))
 go_enter Tryz.func33, Tryz.ntmps33
 go_wp2_with fail
 go_ret
 exact ⟨rfl, HB.out⟩
theorem takes_13 (w : World) : Calls Tryz.prog 33 #[.int .i64 13] w fun e w' => e = .returned (.int .i64 2) ∧ Below w.heap.size w w' := by
 have HB := Lib.hid (kbelow_box w (.cells #[.int .i64 0, .int .i64 0, .int .i64 0, .int .i64 0, .int .i64 0, .int .i64 1, .int .i64 1, .int .i64 1, .int .i64 2, .int .i64 2, .int .i64 1, .int .i64 1, .int .i64 2, .int .i64 2, .int .i64 0, .int .i64 2, .int .i64 1] 3))
 go_enter Tryz.func33, Tryz.ntmps33
 go_wp2_with fail
 go_ret
 exact ⟨rfl, HB.out⟩
theorem takes_14 (w : World) : Calls Tryz.prog 33 #[.int .i64 14] w fun e w' => e = .returned (.int .i64 0) ∧ Below w.heap.size w w' := by
 have HB := Lib.hid (kbelow_box w (.cells #[.int .i64 0, .int .i64 0, .int .i64 0, .int .i64 0, .int .i64 0, .int .i64 1, .int .i64 1, .int .i64 1, .int .i64 2, .int .i64 2, .int .i64 1, .int .i64 1, .int .i64 2, .int .i64 2, .int .i64 0, .int .i64 2, .int .i64 1] 3))
 go_enter Tryz.func33, Tryz.ntmps33
 go_wp2_with fail
 go_ret
 exact ⟨rfl, HB.out⟩
theorem takes_15 (w : World) : Calls Tryz.prog 33 #[.int .i64 15] w fun e w' => e = .returned (.int .i64 2) ∧ Below w.heap.size w w' := by
 have HB := Lib.hid (kbelow_box w (.cells #[.int .i64 0, .int .i64 0, .int .i64 0, .int .i64 0, .int .i64 0, .int .i64 1, .int .i64 1, .int .i64 1, .int .i64 2, .int .i64 2, .int .i64 1, .int .i64 1, .int .i64 2, .int .i64 2, .int .i64 0, .int .i64 2, .int .i64 1] 3))
 go_enter Tryz.func33, Tryz.ntmps33
 go_wp2_with fail
 go_ret
 exact ⟨rfl, HB.out⟩
theorem takes_16 (w : World) : Calls Tryz.prog 33 #[.int .i64 16] w fun e w' => e = .returned (.int .i64 1) ∧ Below w.heap.size w w' := by
 have HB := Lib.hid (kbelow_box w (.cells #[.int .i64 0, .int .i64 0, .int .i64 0, .int .i64 0, .int .i64 0, .int .i64 1, .int .i64 1, .int .i64 1, .int .i64 2, .int .i64 2, .int .i64 1, .int .i64 1, .int .i64 2, .int .i64 2, .int .i64 0, .int .i64 2, .int .i64 1] 3))
 go_enter Tryz.func33, Tryz.ntmps33
 go_wp2_with fail
 go_ret
 exact ⟨rfl, HB.out⟩
theorem Takes_ref (q : Nat) (h1 : 1 ≤ q) (h2 : q ≤ 16) (w : World) : Calls Tryz.prog 33 #[.int .i64 (q : Int)] w fun e w' => e = .returned (.int .i64 (takesOf q)) ∧ Below w.heap.size w w' := by
 have hc : q = 1 ∨ q = 2 ∨ q = 3 ∨ q = 4 ∨ q = 5 ∨ q = 6 ∨ q = 7 ∨ q = 8 ∨ q = 9 ∨ q = 10 ∨ q = 11 ∨ q = 12 ∨ q = 13 ∨ q = 14 ∨ q = 15 ∨ q = 16 := by omega
 rcases hc with rfl | rfl | rfl | rfl | rfl | rfl | rfl | rfl | rfl | rfl | rfl | rfl | rfl | rfl | rfl | rfl
 ·exact takes_1 w
 ·exact takes_2 w
 ·exact takes_3 w
 ·exact takes_4 w
 ·exact takes_5 w
 ·exact takes_6 w
 ·exact takes_7 w
 ·exact takes_8 w
 ·exact takes_9 w
 ·exact takes_10 w
 ·exact takes_11 w
 ·exact takes_12 w
 ·exact takes_13 w
 ·exact takes_14 w
 ·exact takes_15 w
 ·exact takes_16 w
theorem Lays_ref (q : Nat) (w : World) : Calls Tryz.prog 34 #[.int .i64 (q : Int)] w fun e w' => e = .returned (.int .i64 (laysOf q)) ∧ w' = w := by
 by_cases h : (14 : Int) ≤ (q : Int)
 ·have HR : Hid (laysOf (q : Int) = 0) := by unfold Hid laysOf; rw [if_neg (by omega)]
  have hB : decide ((14 : Int) ≤ (q : Int)) = true := decide_eq_true h
  have hN : decide (14 ≤ q) = true := decide_eq_true (by omega)
  go_enter Tryz.func34, Tryz.ntmps34
  go_wp2_with fail
  go_ret
  exact ⟨kret_int HR.out.symm, rfl⟩
 ·have HR : Hid (laysOf (q : Int) = 1) := by unfold Hid laysOf; rw [if_pos (by omega)]
  have hB : decide ((14 : Int) ≤ (q : Int)) = false := decide_eq_false h
  have hN : decide (14 ≤ q) = false := decide_eq_false (by omega)
  go_enter Tryz.func34, Tryz.ntmps34
  go_wp2_with fail
  go_ret
  exact ⟨kret_int HR.out.symm, rfl⟩
set_option maxHeartbeats 1000000 in
theorem goesTo_14 (b off n cap i : Nat) (z : Int) (w : World) (hi : i < n) (hn : n ≤ 10000) (x0 : w.cell? ⟨b, off + i * 2, none⟩ = some (.int .i64 14)) (x1 : w.cell? ⟨b, off + i * 2 + 1, none⟩ = some (.int .i64 z)) (hz : 0 ≤ z ∧ z ≤ 10000) :
 Calls Tryz.prog 35 #[.slice (some ⟨b, off, none⟩) n cap, .int .i64 (i : Int)] w fun e w' => e = .returned (.int .i64 ((i + 1 + (furI 14 z).toNat : Nat) : Int)) ∧ w' = w := by
 have hi' : (i : Int) < (n : Int) := by omega
 have hw1 : IntKind.i64.wrap ((i : Int) + 1) = (i : Int) + 1 := IntWalk.i64_in _ (by omega)
 have hw2 : IntKind.i64.wrap ((i : Int) + 1 + z) = (i : Int) + 1 + z := IntWalk.i64_in _ (by omega)
 have HR : Hid (((i + 1 + (furI 14 z).toNat : Nat) : Int) = (i : Int) + 1 + z) := by unfold Hid furI; rw [if_pos rfl]; omega
 go_enter Tryz.func35, Tryz.ntmps35
 go_wp2_with fail
 go_ret
 exact ⟨kret_int HR.out.symm, rfl⟩
set_option maxHeartbeats 1000000 in
theorem goesTo_15 (b off n cap i : Nat) (z : Int) (w : World) (hi : i < n) (hn : n ≤ 10000) (x0 : w.cell? ⟨b, off + i * 2, none⟩ = some (.int .i64 15)) (x1 : w.cell? ⟨b, off + i * 2 + 1, none⟩ = some (.int .i64 z)) (hz : 0 ≤ z.tdiv 4 ∧ z.tdiv 4 ≤ 10000) (hzz : I64 z) :
 Calls Tryz.prog 35 #[.slice (some ⟨b, off, none⟩) n cap, .int .i64 (i : Int)] w fun e w' => e = .returned (.int .i64 ((i + 1 + (furI 15 z).toNat : Nat) : Int)) ∧ w' = w := by
 have hi' : (i : Int) < (n : Int) := by omega
 have hw1 : IntKind.i64.wrap ((i : Int) + 1) = (i : Int) + 1 := IntWalk.i64_in _ (by omega)
 have hw3 : IntKind.i64.wrap (z.tdiv 4) = z.tdiv 4 := IntWalk.i64_in _ (by omega)
 have hw4 : wrap64 (z.tdiv 4) = z.tdiv 4 := tdiv4_wrap hzz
 have HR : Hid (((i + 1 + (furI 15 z).toNat : Nat) : Int) = (i : Int) + 1 + z.tdiv 4) := by unfold Hid furI; rw [if_neg (by decide), if_pos rfl]; omega
 have hw2 : IntKind.i64.wrap ((i : Int) + 1 + z.tdiv 4) = (i : Int) + 1 + z.tdiv 4 := IntWalk.i64_in _ (by omega)
 go_enter Tryz.func35, Tryz.ntmps35
 go_wp2_with fail
 go_ret
 exact ⟨kret_int (by first | exact HR.out.symm | (simp only [hw4]; exact HR.out.symm)), rfl⟩
def KeptAt (w : World) (p : Option Addr) (L k : Nat) : Prop := L = 0 ∨ ∃ b, p = some ⟨b, 0, none⟩ ∧ b < w.heap.size ∧ ∀ j, j < L → w.cell? ⟨b, j, none⟩ = some (.bool (k.testBit j))
theorem KeptAt.below {w w' : World} {p : Option Addr} {L k : Nat} (h : KeptAt w p L k) (hb : Below w.heap.size w w') : KeptAt w' p L k := by
 rcases h with h | ⟨b, rfl, h1, h2⟩
 ·exact .inl h
 ·exact .inr ⟨b, rfl, Nat.lt_of_lt_of_le h1 hb.size, fun j hj => (hb.cell (p := ⟨b, j, none⟩) h1).trans (h2 j hj)⟩
theorem bits_eq {k k' L : Nat} (hk : k < 2 ^ L) (hk' : k' < 2 ^ L) (h : ∀ j, j < L → k.testBit j = k'.testBit j) : k = k' := by
 refine Nat.eq_of_testBit_eq fun i => ?_
 by_cases hi : i < L
 ·exact h i hi
 ·rw [Nat.testBit_lt_two_pow (Nat.lt_of_lt_of_le hk (Nat.pow_le_pow_right (by omega) (by omega))), Nat.testBit_lt_two_pow (Nat.lt_of_lt_of_le hk' (Nat.pow_le_pow_right (by omega) (by omega)))]
set_option maxRecDepth 100000 in
set_option maxHeartbeats 1000000 in
theorem SameLying_ref (d d' : Int) (p p' : Option Addr) (L c c' k k' : Nat) (w : World) (hL : L ≤ 40) (h : KeptAt w p L k) (h' : KeptAt w p' L k') (hk : k < 2 ^ L) (hk' : k' < 2 ^ L) :
 Calls Tryz.prog 36 #[.agg #[.int .i64 d, .slice p L c], .agg #[.int .i64 d', .slice p' L c']] w fun e w' => e = .returned (.bool (decide (d = d') && decide (k = k'))) ∧ Below w.heap.size w w' := by
 have HH := Lib.hid h
 have HH' := Lib.hid h'
 have HKB := Lib.hid (And.intro hk hk')
 have hb1 := kbelow_box w (.cells #[.int .i64 d, .slice p L c] 72)
 have HB0 := Lib.hid (hb1.alloc hb1.size (.cells #[.int .i64 d', .slice p' L c'] 72))
 have z0 : ((w.alloc (.cells #[.int .i64 d, .slice p L c] 72)).alloc (.cells #[.int .i64 d', .slice p' L c'] 72)).cell? ⟨w.heap.size, 1, none⟩ = some (.slice p L c) := by simp
 have z1 : ((w.alloc (.cells #[.int .i64 d, .slice p L c] 72)).alloc (.cells #[.int .i64 d', .slice p' L c'] 72)).cell? ⟨w.heap.size + 1, 1, none⟩ = some (.slice p' L c') := by simp
 clear h h' hk hk' hb1
 by_cases hd : d = d'
 ·subst hd
  have HR : Hid ((decide (d = d) && decide (k = k')) = decide (k = k')) := by unfold Hid; simp
  rw [HR.out]
  go_enter Tryz.func36, Tryz.ntmps36
  go_wp2_with fail
  generalize ((w.alloc (.cells #[.int .i64 d, .slice p L c] 72)).alloc (.cells #[.int .i64 d, .slice p' L c'] 72)) = W at HB0 z0 z1 ⊢
  have HZ := Lib.hid (And.intro z0 z1)
  clear z0 z1
  go_loopw [5] (fun i wr => ∃ j : Nat, j ≤ L ∧ i = .int .i64 j ∧ (∀ q, q < j → k.testBit q = k'.testBit q) ∧ Below W.heap.size W wr) (fun i _ => L - (intOf i).toNat)
  case atStart => exact ⟨0, Nat.zero_le _, rfl, fun q hq => absurd hq (Nat.not_lt_zero _), Below.refl _ _⟩
  case round =>
   obtain ⟨j, hj, rfl, hsa, hb⟩ := hrel
   have HB := Lib.hid hb
   have HSA := Lib.hid hsa
   have x0 : wr.cell? ⟨w.heap.size, 1, none⟩ = some (.slice p L c) := (hb.cell (blt_of_cell HZ.out.1)).trans HZ.out.1
   have x1 : wr.cell? ⟨w.heap.size + 1, 1, none⟩ = some (.slice p' L c') := (hb.cell (blt_of_cell HZ.out.2)).trans HZ.out.2
   have HBW := Lib.hid (HB0.out.trans (hb.mono HB0.out.size))
   clear hb hsa
   by_cases hlt : j < L
   ·have hlt' : (j : Int) < (L : Int) := by omega
    rcases HH.out.below HBW.out with h0 | ⟨b, rfl, hb0, hc0⟩
    ·omega
    rcases HH'.out.below HBW.out with h0 | ⟨b', rfl, hb0', hc0'⟩
    ·omega
    have y0 : wr.drew.cell? ⟨b, j, none⟩ = some (.bool (k.testBit j)) := hc0 j hlt
    have y1 : wr.drew.cell? ⟨b', j, none⟩ = some (.bool (k'.testBit j)) := hc0' j hlt
    have x0' : wr.drew.cell? ⟨w.heap.size, 1, none⟩ = some (.slice (some ⟨b, 0, none⟩) L c) := x0
    have x1' : wr.drew.cell? ⟨w.heap.size + 1, 1, none⟩ = some (.slice (some ⟨b', 0, none⟩) L c') := x1
    clear hc0 hc0' hb0 hb0'
    have HBd : Hid (Below W.heap.size W wr.drew) := HB.out.drew
    by_cases he : k.testBit j = k'.testBit j
    ·have HSA1 : Hid (∀ q, q < j + 1 → k.testBit q = k'.testBit q) := fun q hq => by
      by_cases e : q = j
      ·subst e; exact he
      ·exact HSA.out q (by omega)
     rw [← he] at y1
     clear he
     generalize k.testBit j = kb at y0 y1
     cases kb
     ·go_wp2_with fail
      go_region
      go_wp2_with fail
      go_roundw
      case rel => exact ⟨j + 1, by omega, by go_num, HSA1.out, HBd.out⟩
      case measure => simp [intOf]; omega
     ·go_wp2_with fail
      go_region
      go_wp2_with fail
      go_roundw
      case rel => exact ⟨j + 1, by omega, by go_num, HSA1.out, HBd.out⟩
      case measure => simp [intOf]; omega
    ·have HF : Hid (decide (k = k') = false) := decide_eq_false (fun e => he (by rw [e]))
     have HB9 : Hid (Below w.heap.size w wr.drew) := HB0.out.trans (HBd.out.mono HB0.out.size)
     generalize k.testBit j = kb at y0 he
     generalize k'.testBit j = kb' at y1 he
     cases kb <;> cases kb' <;> simp at he
     ·go_wp2_with fail
      go_region
      go_wp2_with fail
      go_ret
      exact ⟨kret_bool HF.out.symm, HB9.out⟩
     ·go_wp2_with fail
      go_region
      go_wp2_with fail
      go_ret
      exact ⟨kret_bool HF.out.symm, HB9.out⟩
   ·obtain rfl : j = L := by omega
    have HT : Hid (decide (k = k') = true) := decide_eq_true (bits_eq HKB.out.1 HKB.out.2 HSA.out)
    have hge : ¬ (j : Int) < (j : Int) := by omega
    go_wp2_with fail
    go_ret
    exact ⟨kret_bool HT.out.symm, HBW.out⟩
 ·have hdB : (d == d') = false := by simpa using hd
  have hdN : (d != d') = true := by simpa using hd
  have HR : Hid ((decide (d = d') && decide (k = k')) = false) := by unfold Hid; rw [decide_eq_false hd]; rfl
  rw [HR.out]
  clear hd
  go_enter Tryz.func36, Tryz.ntmps36
  go_wp2_with fail
  go_ret
  exact ⟨rfl, HB0.out⟩
end Go.Proofs.YtmlpedgcpffpnaaGreatDoor
