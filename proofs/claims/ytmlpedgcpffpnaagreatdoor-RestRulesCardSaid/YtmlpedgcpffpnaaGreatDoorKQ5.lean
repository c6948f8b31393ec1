/-
  Promise J2: steps in memory; walks of the small functions of code: further, testOf, isBelow, lineBit, reachBy, isAlways.
-/
import Derived.Test.YtmlpedgcpffpnaaGreatDoorKZ0
import Derived.Test.YtmlpedgcpffpnaaGreatDoorKQ2
import Derived.Deep.RegionHeld3
import Derived.Lib.QuietBelow
import Derived.Laws.Bits64b
import Derived.Deep.RegionWith
set_option linter.unusedSimpArgs false
set_option maxRecDepth 100000
set_option maxHeartbeats 8000000
namespace Go.Proofs.YtmlpedgcpffpnaaGreatDoor
open Go.RowKit
def I64 (n : Int) : Prop := -9223372036854775808 <= n /\ n <= 9223372036854775807
theorem tdiv4_in {n : Int} (h : I64 n) : I64 (n.tdiv 4) := by
 unfold I64 at *
 rcases Int.le_total 0 n with h0 | h0
 ·rw [Int.tdiv_eq_ediv_of_nonneg h0]; omega
 ·have e : n.tdiv 4 = -((-n) / 4) := by rw [<- Int.tdiv_eq_ediv_of_nonneg (show 0 <= -n by omega), Int.neg_tdiv, Int.neg_neg]
  rw [e]; omega
theorem tdiv4_wrap {n : Int} (h : I64 n) : wrap64 (n.tdiv 4) = n.tdiv 4 := by
 exact IntWalk.wrap64_in _ (tdiv4_in h)
def furI (d n : Int) : Int := if d = 14 then n else if d = 15 then n.tdiv 4 else 0
theorem further_any (d n : Int) (w : World) (hn : I64 n) : Calls Tryz.prog 97 #[.agg #[.int .i64 d, .int .i64 n]] w fun e w' => e = .returned (.int .i64 (furI d n)) /\ Below w.heap.size w w' := by
 have HB0 := Hd (kbelow_box w (.cells #[.int .i64 d, .int .i64 n] 55))
 by_cases h1 : d = 14
 ·have HR : Hid (furI d n = n) := if_pos h1;subst h1
  go_enter Tryz.func97, Tryz.ntmps97
  go_wp2_with fail
  go_ret;exact ⟨kret_int HR.out.symm, HB0.out⟩
 ·have h1B : decide (d = 14) = false := dEf h1;have h1E : (d == 14) = false := by simpa using h1
  by_cases h2 : d = 15
  ·have HR : Hid (furI d n = n.tdiv 4) := by unfold Hid furI; rw [if_neg h1, if_pos h2]
   clear h1 h1B h1E;subst h2;have hw := tdiv4_wrap hn
   go_enter Tryz.func97, Tryz.ntmps97
   go_wp2_with fail
   go_ret;exact ⟨kret_int (by rw [HR.out, hw]), HB0.out⟩
  ·have h2B : decide (d = 15) = false := dEf h2;have h2E : (d == 15) = false := by simpa using h2
   have HR : Hid (furI d n = 0) := by unfold Hid furI; rw [if_neg h1, if_neg h2]
   go_enter Tryz.func97, Tryz.ntmps97
   go_wp2_with fail
   go_ret;exact ⟨kret_int HR.out.symm, HB0.out⟩
theorem testOf_any (d n : Int) (w : World) : Calls Tryz.prog 100 #[.agg #[.int .i64 d, .int .i64 n]] w fun e w' => e = .returned (.int .i64 (n.tmod 4)) /\ Below w.heap.size w w' := by
 have HB0 := Hd (kbelow_box w (.cells #[.int .i64 d, .int .i64 n] 55))
 go_enter Tryz.func100, Tryz.ntmps100
 go_wp2_with fail
 go_ret;exact ⟨rfl, HB0.out⟩
def lowB (n t : Int) : Bool := decide (0 <= n /\ n < t)
theorem isBelow_any (n t : Int) (w : World) : Calls Tryz.prog 144 #[.int .i64 n, .int .i64 t] w fun e w' => e = .returned (.bool (lowB n t)) /\ w' = w := by
 by_cases h1 : 0 <= n
 ·by_cases h2 : n < t
  ·have HR : Hid (lowB n t = true) := decide_eq_true ⟨h1, h2⟩
   go_enter Tryz.func144, Tryz.ntmps144
   go_wp2_with fail
   go_ret;exact ⟨kret_bool HR.out.symm, rfl⟩
  ·have HR : Hid (lowB n t = false) := dEf (fun h => h2 h.2);have h2B : decide (n < t) = false := dEf h2
   go_enter Tryz.func144, Tryz.ntmps144
   go_wp2_with fail
   go_ret;exact ⟨kret_bool HR.out.symm, rfl⟩
 ·have HR : Hid (lowB n t = false) := dEf (fun h => h1 h.1);have h1B : decide (0 <= n) = false := dEf h1
  go_enter Tryz.func144, Tryz.ntmps144
  go_wp2_with fail
  go_ret;exact ⟨kret_bool HR.out.symm, rfl⟩
theorem bit_in : ∀ n : Nat, n < 40 -> IntKind.u64.wrap ((2 : Int) ^ n) = ((2 ^ n : Nat) : Int) := by decide
theorem lineBit_any (d : Int) (n : Nat) (w : World) (hn : n < 40) : Calls Tryz.prog 145 #[.agg #[.int .i64 d, .int .i64 n]] w fun e w' => e = .returned (.int .u64 ((2 ^ n : Nat) : Int)) /\ Below w.heap.size w w' := by
 have HB0 := Hd (kbelow_box w (.cells #[.int .i64 d, .int .i64 n] 55));have hn0 : (0 : Int) <= (n : Int) := by omega
 go_enter Tryz.func145, Tryz.ntmps145
 go_wp2_with fail
 go_ret;exact ⟨kret_int (bit_in n hn), HB0.out⟩
theorem isAlways_any (d k d' k' : Int) (r h : Bool) (w : World) : Calls Tryz.prog 50 #[.agg #[.int .i64 d, .int .u64 k, .bool r, .bool h], .agg #[.int .i64 d', .int .u64 k']] w fun e w' => e = .returned (.bool (!h && (decide (d = d') && decide (k = k')))) /\ Below w.heap.size w w' := by
 have HB0 := Hd (kbelow_box w (.cells #[.int .i64 d, .int .u64 k, .bool r, .bool h] 109));have HB1 := Hd (HB0.out.alloc HB0.out.size (.cells #[.int .i64 d', .int .u64 k'] 107))
 cases h
 ·by_cases h1 : d = d'
  ·subst h1
   by_cases h2 : k = k'
   ·subst h2
    go_enter Tryz.func50, Tryz.ntmps50
    go_wp2_with fail
    go_ret;exact ⟨kret_bool (by simp), HB1.out⟩
   ·have h2B : decide (k = k') = false := dEf h2
    go_enter Tryz.func50, Tryz.ntmps50
    go_wp2_with fail
    go_ret;exact ⟨kret_bool (by simp [h2]), HB1.out⟩
  ·have h1B : decide (d = d') = false := dEf h1
   go_enter Tryz.func50, Tryz.ntmps50
   go_wp2_with fail
   go_ret;exact ⟨kret_bool (by simp [h1]), HB1.out⟩
 ·go_enter Tryz.func50, Tryz.ntmps50
  go_wp2_with fail
  go_ret;exact ⟨rfl, HB1.out⟩
def SpotIs (w : World) (b o : Nat) (d k : Int) (r h : Bool) : Prop := (w.cell? ⟨b, o, none⟩ = some (.int .i64 d) /\ w.cell? ⟨b, o + 1, none⟩ = some (.int .u64 k) /\ w.cell? ⟨b, o + 2, none⟩ = some (.bool r) /\ w.cell? ⟨b, o + 3, none⟩ = some (.bool h)) /\ w.frozen? ⟨b, o, none⟩ = false /\ w.frozen? ⟨b, o + 1, none⟩ = false /\ w.frozen? ⟨b, o + 2, none⟩ = false /\ w.frozen? ⟨b, o + 3, none⟩ = false
def ReachRet (w : World) (b o : Nat) (d k : Int) (h : Bool) (e : Ending) (w' : World) : Prop := (∃ v, e = .returned v) /\ SpotIs w' b o d k true h /\ (∀ q, q < o \/ o + 4 <= q -> w'.cell? ⟨b, q, none⟩ = w.cell? ⟨b, q, none⟩ /\ w'.frozen? ⟨b, q, none⟩ = w.frozen? ⟨b, q, none⟩) /\ w.grownBy w' (some b)
theorem addr_ne {b p q : Nat} (h : p ≠ q) : (⟨b, p, none⟩ : Addr) ≠ ⟨b, q, none⟩ := by intro e; injection e with _ e; exact h e
theorem put_cell {w : World} {b p q : Nat} {v u : Value} (h : w.cell? ⟨b, p, none⟩ = some u) : (w.setCell ⟨b, p, none⟩ v).cell? ⟨b, q, none⟩ = if q = p then some v else w.cell? ⟨b, q, none⟩ := by
 by_cases e : q = p
 ·subst e;rw [if_pos rfl];exact World.cell?_setCell_same w _ v h
 ·rw [if_neg e];exact World.cell?_setCell_other w _ _ v (addr_ne (Ne.symm e))
theorem grown_puts {w w' : World} {b : Nat} (hg : w.grownBy w' (some b)) (p : Nat) (v : Value) : w.grownBy (w'.setCell ⟨b, p, none⟩ v) (some b) :=
 hg.trans ⟨rfl, rfl, rfl, by simp, fun k _ hne => Below.heap_setCell w' ⟨b, p, none⟩ v k (by intro e; exact hne (by rw [e]))⟩
theorem reach_ok {w : World} {b o : Nat} {d k : Int} {r h : Bool} (hs : SpotIs w b o d k r h) (d' k' : Int) (h' : Bool) (O : Obj) (v : Value) : ReachRet w b o d' k' h' (.returned v) (((((w.setCell ⟨b, o + 3, none⟩ (.bool h')).setCell ⟨b, o, none⟩ (.int .i64 d')).setCell ⟨b, o + 1, none⟩ (.int .u64 k')).setCell ⟨b, o + 2, none⟩ (.bool true)).alloc O) := by
 obtain ⟨⟨x0, x1, x2, x3⟩, f0, f1, f2, f3⟩ := hs;have hb : b < w.heap.size := blt_of_cell x0;have s3 := fun q => put_cell (q := q) (v := .bool h') x3
 have e0 : (w.setCell ⟨b, o + 3, none⟩ (.bool h')).cell? ⟨b, o, none⟩ = some (.int .i64 d) := by rw [s3, if_neg (by omega)]; exact x0
 have s0 := fun q => put_cell (q := q) (v := .int .i64 d') e0
 have e1 : ((w.setCell ⟨b, o + 3, none⟩ (.bool h')).setCell ⟨b, o, none⟩ (.int .i64 d')).cell? ⟨b, o + 1, none⟩ = some (.int .u64 k) := by rw [s0, if_neg (by omega), s3, if_neg (by omega)]; exact x1
 have s1 := fun q => put_cell (q := q) (v := .int .u64 k') e1
 have e2 : (((w.setCell ⟨b, o + 3, none⟩ (.bool h')).setCell ⟨b, o, none⟩ (.int .i64 d')).setCell ⟨b, o + 1, none⟩ (.int .u64 k')).cell? ⟨b, o + 2, none⟩ = some (.bool r) := by rw [s1, if_neg (by omega), s0, if_neg (by omega), s3, if_neg (by omega)]; exact x2
 have s2 := fun q => put_cell (q := q) (v := .bool true) e2
 have hg4 := grown_puts (grown_puts (grown_puts (grown_puts (b := b) (w := w) ⟨rfl, rfl, rfl, Nat.le_refl _, fun _ _ _ => rfl⟩ (o + 3) (.bool h')) o (.int .i64 d')) (o + 1) (.int .u64 k')) (o + 2) (.bool true);have hf : ∀ q, (((((w.setCell ⟨b, o + 3, none⟩ (.bool h')).setCell ⟨b, o, none⟩ (.int .i64 d')).setCell ⟨b, o + 1, none⟩ (.int .u64 k')).setCell ⟨b, o + 2, none⟩ (.bool true))).frozen? ⟨b, q, none⟩ = w.frozen? ⟨b, q, none⟩ := fun q => by simp
 generalize hW : ((((w.setCell ⟨b, o + 3, none⟩ (.bool h')).setCell ⟨b, o, none⟩ (.int .i64 d')).setCell ⟨b, o + 1, none⟩ (.int .u64 k')).setCell ⟨b, o + 2, none⟩ (.bool true)) = W at *;have hB := kbelow_box W O;have hbW : b < W.heap.size := Nat.lt_of_lt_of_le hb hg4.size;refine ⟨⟨v, rfl⟩, ⟨⟨?_, ?_, ?_, ?_⟩, ?_, ?_, ?_, ?_⟩, fun q hq => ⟨?_, ?_⟩, hg4.trans (World.grownBy_alloc W O _)⟩
 ·rw [hB.cell (p := ⟨b, o, none⟩) hbW, s2, if_neg (by omega), s1, if_neg (by omega), s0, if_pos rfl]
 ·rw [hB.cell (p := ⟨b, o + 1, none⟩) hbW, s2, if_neg (by omega), s1, if_pos rfl]
 ·rw [hB.cell (p := ⟨b, o + 2, none⟩) hbW, s2, if_pos rfl]
 ·rw [hB.cell (p := ⟨b, o + 3, none⟩) hbW, s2, if_neg (by omega), s1, if_neg (by omega), s0, if_neg (by omega), s3, if_pos rfl]
 ·rw [hB.frozen (p := ⟨b, o, none⟩) hbW, hf]; exact f0
 ·rw [hB.frozen (p := ⟨b, o + 1, none⟩) hbW, hf]; exact f1
 ·rw [hB.frozen (p := ⟨b, o + 2, none⟩) hbW, hf]; exact f2
 ·rw [hB.frozen (p := ⟨b, o + 3, none⟩) hbW, hf]; exact f3
 ·rw [hB.cell (p := ⟨b, q, none⟩) hbW, s2, if_neg (by omega), s1, if_neg (by omega), s0, if_neg (by omega), s3, if_neg (by omega)]
 ·rw [hB.frozen (p := ⟨b, q, none⟩) hbW, hf]
theorem ReachRet.drew {w : World} {b o : Nat} {d k : Int} {h : Bool} {e : Ending} {w' : World} (x : ReachRet w b o d k h e w') : ReachRet w b o d k h e w'.drew := ⟨x.1, x.2.1, x.2.2.1, ⟨x.2.2.2.os, x.2.2.2.tape, x.2.2.2.output, x.2.2.2.size, x.2.2.2.block⟩⟩
theorem reachBy_hung (b o : Nat) (d k d' k' : Int) (r : Bool) (w : World) (hs : SpotIs w b o d k r true) :
 Calls Tryz.prog 48 #[.pointer (some ⟨b, o, none⟩), .agg #[.int .i64 d', .int .u64 k']] w fun e w' => ReachRet w b o d' k' true e w' := by
 have HR0 := Hd (fun h' => reach_ok hs d' k' h');obtain ⟨⟨x0, x1, x2, x3⟩, f0, f1, f2, f3⟩ := hs;have hb : b < w.heap.size := blt_of_cell x0;have HB0 := Hd (kbelow_box w (.cells #[.int .i64 d', .int .u64 k'] 107));have y0 := (HB0.out.cell (p := ⟨b, o, none⟩) hb).trans x0;have y1 := (HB0.out.cell (p := ⟨b, o + 1, none⟩) hb).trans x1;have y2 := (HB0.out.cell (p := ⟨b, o + 2, none⟩) hb).trans x2;have y3 := (HB0.out.cell (p := ⟨b, o + 3, none⟩) hb).trans x3;have g0 := (HB0.out.frozen (p := ⟨b, o, none⟩) hb).trans f0;have g1 := (HB0.out.frozen (p := ⟨b, o + 1, none⟩) hb).trans f1;have g2 := (HB0.out.frozen (p := ⟨b, o + 2, none⟩) hb).trans f2;have g3 := (HB0.out.frozen (p := ⟨b, o + 3, none⟩) hb).trans f3;have HR := Hd (HR0.out true)
 go_enter Tryz.func48, Tryz.ntmps48
 go_wp2_with fail
 go_region
 all_goals go_wp2_with fail
 all_goals refine bodyPost_end (v := .tuple #[]) (by simp [results, Tryz.results48, go_sem]) rfl ?_
 all_goals exact (HR.out _ _).drew
theorem reachBy_new (b o : Nat) (d k d' k' : Int) (w : World) (hs : SpotIs w b o d k false false) :
 Calls Tryz.prog 48 #[.pointer (some ⟨b, o, none⟩), .agg #[.int .i64 d', .int .u64 k']] w fun e w' => ReachRet w b o d' k' false e w' := by
 have HR0 := Hd (fun h' => reach_ok hs d' k' h');obtain ⟨⟨x0, x1, x2, x3⟩, f0, f1, f2, f3⟩ := hs;have hb : b < w.heap.size := blt_of_cell x0;have HB0 := Hd (kbelow_box w (.cells #[.int .i64 d', .int .u64 k'] 107));have y0 := (HB0.out.cell (p := ⟨b, o, none⟩) hb).trans x0;have y1 := (HB0.out.cell (p := ⟨b, o + 1, none⟩) hb).trans x1;have y2 := (HB0.out.cell (p := ⟨b, o + 2, none⟩) hb).trans x2;have y3 := (HB0.out.cell (p := ⟨b, o + 3, none⟩) hb).trans x3;have g0 := (HB0.out.frozen (p := ⟨b, o, none⟩) hb).trans f0;have g1 := (HB0.out.frozen (p := ⟨b, o + 1, none⟩) hb).trans f1;have g2 := (HB0.out.frozen (p := ⟨b, o + 2, none⟩) hb).trans f2;have g3 := (HB0.out.frozen (p := ⟨b, o + 3, none⟩) hb).trans f3;have HR := Hd (HR0.out false)
 go_enter Tryz.func48, Tryz.ntmps48
 go_wp2_with fail
 go_region
 all_goals go_wp2_with fail
 all_goals refine bodyPost_end (v := .tuple #[]) (by simp [results, Tryz.results48, go_sem]) rfl ?_
 all_goals exact (HR.out _ _).drew
theorem reachBy_again (b o : Nat) (d' k' : Int) (w : World) (hs : SpotIs w b o d' k' true false) :
 Calls Tryz.prog 48 #[.pointer (some ⟨b, o, none⟩), .agg #[.int .i64 d', .int .u64 k']] w fun e w' => ReachRet w b o d' k' false e w' := by
 have HR0 := Hd (fun h' => reach_ok hs d' k' h');obtain ⟨⟨x0, x1, x2, x3⟩, f0, f1, f2, f3⟩ := hs;have hb : b < w.heap.size := blt_of_cell x0;have HB0 := Hd (kbelow_box w (.cells #[.int .i64 d', .int .u64 k'] 107));have y0 := (HB0.out.cell (p := ⟨b, o, none⟩) hb).trans x0;have y1 := (HB0.out.cell (p := ⟨b, o + 1, none⟩) hb).trans x1;have y2 := (HB0.out.cell (p := ⟨b, o + 2, none⟩) hb).trans x2;have y3 := (HB0.out.cell (p := ⟨b, o + 3, none⟩) hb).trans x3;have g0 := (HB0.out.frozen (p := ⟨b, o, none⟩) hb).trans f0;have g1 := (HB0.out.frozen (p := ⟨b, o + 1, none⟩) hb).trans f1;have g2 := (HB0.out.frozen (p := ⟨b, o + 2, none⟩) hb).trans f2;have g3 := (HB0.out.frozen (p := ⟨b, o + 3, none⟩) hb).trans f3;have HR := Hd (HR0.out false)
 go_enter Tryz.func48, Tryz.ntmps48
 go_wp2_with fail
 go_region
 all_goals go_wp2_with fail
 all_goals refine bodyPost_end (v := .tuple #[]) (by simp [results, Tryz.results48, go_sem]) rfl ?_
 all_goals exact (HR.out _ _).drew
theorem reachBy_deep (b o : Nat) (d k d' k' : Int) (h1 : d ≠ d') (w : World) (hs : SpotIs w b o d k true false) :
 Calls Tryz.prog 48 #[.pointer (some ⟨b, o, none⟩), .agg #[.int .i64 d', .int .u64 k']] w fun e w' => ReachRet w b o d' k' true e w' := by
 have HR0 := Hd (fun h' => reach_ok hs d' k' h');obtain ⟨⟨x0, x1, x2, x3⟩, f0, f1, f2, f3⟩ := hs;have hb : b < w.heap.size := blt_of_cell x0;have HB0 := Hd (kbelow_box w (.cells #[.int .i64 d', .int .u64 k'] 107));have y0 := (HB0.out.cell (p := ⟨b, o, none⟩) hb).trans x0;have y1 := (HB0.out.cell (p := ⟨b, o + 1, none⟩) hb).trans x1;have y2 := (HB0.out.cell (p := ⟨b, o + 2, none⟩) hb).trans x2;have y3 := (HB0.out.cell (p := ⟨b, o + 3, none⟩) hb).trans x3;have g0 := (HB0.out.frozen (p := ⟨b, o, none⟩) hb).trans f0;have g1 := (HB0.out.frozen (p := ⟨b, o + 1, none⟩) hb).trans f1;have g2 := (HB0.out.frozen (p := ⟨b, o + 2, none⟩) hb).trans f2;have g3 := (HB0.out.frozen (p := ⟨b, o + 3, none⟩) hb).trans f3;have HR := Hd (HR0.out true);have h1B : decide (d = d') = false := dEf h1;have h1E : (d == d') = false := by simpa using h1
 go_enter Tryz.func48, Tryz.ntmps48
 go_wp2_with fail
 go_region
 all_goals go_wp2_with fail
 all_goals refine bodyPost_end (v := .tuple #[]) (by simp [results, Tryz.results48, go_sem]) rfl ?_
 all_goals exact (HR.out _ _).drew
theorem reachBy_kept (b o : Nat) (k d' k' : Int) (h2 : k ≠ k') (w : World) (hs : SpotIs w b o d' k true false) :
 Calls Tryz.prog 48 #[.pointer (some ⟨b, o, none⟩), .agg #[.int .i64 d', .int .u64 k']] w fun e w' => ReachRet w b o d' k' true e w' := by
 have HR0 := Hd (fun h' => reach_ok hs d' k' h');obtain ⟨⟨x0, x1, x2, x3⟩, f0, f1, f2, f3⟩ := hs;have hb : b < w.heap.size := blt_of_cell x0;have HB0 := Hd (kbelow_box w (.cells #[.int .i64 d', .int .u64 k'] 107));have y0 := (HB0.out.cell (p := ⟨b, o, none⟩) hb).trans x0;have y1 := (HB0.out.cell (p := ⟨b, o + 1, none⟩) hb).trans x1;have y2 := (HB0.out.cell (p := ⟨b, o + 2, none⟩) hb).trans x2;have y3 := (HB0.out.cell (p := ⟨b, o + 3, none⟩) hb).trans x3;have g0 := (HB0.out.frozen (p := ⟨b, o, none⟩) hb).trans f0;have g1 := (HB0.out.frozen (p := ⟨b, o + 1, none⟩) hb).trans f1;have g2 := (HB0.out.frozen (p := ⟨b, o + 2, none⟩) hb).trans f2;have g3 := (HB0.out.frozen (p := ⟨b, o + 3, none⟩) hb).trans f3;have HR := Hd (HR0.out true);have h2B : decide (k = k') = false := dEf h2;have h2E : (k == k') = false := by simpa using h2
 go_enter Tryz.func48, Tryz.ntmps48
 go_wp2_with fail
 go_region
 all_goals go_wp2_with fail
 all_goals refine bodyPost_end (v := .tuple #[]) (by simp [results, Tryz.results48, go_sem]) rfl ?_
 all_goals exact (HR.out _ _).drew
def hungB (d k d' k' : Int) (r h : Bool) : Bool := h || (r && !(decide (d = d') && decide (k = k')))
theorem reachBy_any (b o : Nat) (d k d' k' : Int) (r h : Bool) (w : World) (hs : SpotIs w b o d k r h) :
 Calls Tryz.prog 48 #[.pointer (some ⟨b, o, none⟩), .agg #[.int .i64 d', .int .u64 k']] w fun e w' => ReachRet w b o d' k' (hungB d k d' k' r h) e w' := by
 cases h
 ·cases r
  ·exact reachBy_new b o d k d' k' w hs
  ·by_cases h1 : d = d'
   ·subst h1
    by_cases h2 : k = k'
    ·subst h2;rw [show hungB d k d k true false = false by simp [hungB]];exact reachBy_again b o d k w hs
    ·rw [show hungB d k d k' true false = true by simp [hungB, h2]];exact reachBy_kept b o k d k' h2 w hs
   ·rw [show hungB d k d' k' true false = true by simp [hungB, h1]];exact reachBy_deep b o d k d' k' h1 w hs
 ·exact reachBy_hung b o d k d' k' r w hs
open Go.Sort
def takesOf (d : Int) : Int := if d <= 4 then 0 else if d <= 7 then 1 else if d <= 9 then 2 else if d <= 11 then 1 else if d <= 13 then 2 else if d = 14 then 0 else if d = 15 then 2 else 1
def laysOf (d : Int) : Int := if d <= 13 then 1 else 0
def Eff (w : World) : Prop := ∀ q : Nat, 1 <= q -> q <= 16 -> w.cell? ⟨2, q * 2, none⟩ = some (.int .i64 (takesOf q)) /\ w.cell? ⟨2, q * 2 + 1, none⟩ = some (.int .i64 (laysOf q))
theorem Eff.lt {w : World} (h : Eff w) : 2 < w.heap.size := blt_of_cell (h 1 (by omega) (by omega)).1
theorem Eff.below {w w' : World} (h : Eff w) (hb : Below w.heap.size w w') : Eff w' := fun q h1 h2 => by
 have hB := h.lt;obtain ⟨c0, c1⟩ := h q h1 h2;exact ⟨(hb.cell (p := ⟨_, q * 2, none⟩) hB).trans c0, (hb.cell (p := ⟨_, q * 2 + 1, none⟩) hB).trans c1⟩
def allowB (d : Int) (k : Nat) (q : Nat) (n : Int) : Bool := if d < takesOf q then false else if q = 3 then k.testBit n.toNat else if q = 16 then !k.testBit n.toNat else true
theorem and_bit_ne {k n : Nat} (hk : k < 1099511627776) (hn : n < 40) : (bits .and .u64 (k : Int) ((2 : Int) ^ n) != 0) = k.testBit n := by
 have h2 : 2 ^ n < 1099511627776 := by
  have : 2 ^ n <= 2 ^ 39 := Nat.pow_le_pow_right (by omega) (by omega);omega
 rw [show ((2 : Int) ^ n) = ((2 ^ n : Nat) : Int) by simp, bits_and_u64_nat k (2 ^ n) (by omega) (by omega)]
 cases h : k.testBit n
 ·have e : k &&& 2 ^ n = 0 := Nat.eq_of_testBit_eq (fun i => by
   rw [Nat.testBit_and, Nat.testBit_two_pow, Nat.zero_testBit]
   by_cases e : n = i
   ·subst e; simp [h]
   ·simp [e])
  rw [e]; rfl
 ·have e : k &&& 2 ^ n ≠ 0 := fun e => by
   have q := congrArg (fun x : Nat => x.testBit n) e;simp only [Nat.testBit_and, Nat.testBit_two_pow, h] at q;simp at q
  have e' : ((k &&& 2 ^ n : Nat) : Int) ≠ 0 := by omega
  simpa using e'
theorem and_bit_eq {k n : Nat} (hk : k < 1099511627776) (hn : n < 40) : (bits .and .u64 (k : Int) ((2 : Int) ^ n) == 0) = !k.testBit n := by
 have := and_bit_ne hk hn;rw [bne, Bool.not_eq_eq_eq_not] at this;rw [this]
theorem allows_3 (d : Int) (k : Nat) (n : Nat) (w : World) (hE : Eff w) (hk : k < 1099511627776) (hn : n < 40) :
 Calls Tryz.prog 95 #[.agg #[.int .i64 d, .int .u64 k], .agg #[.int .i64 3, .int .i64 n]] w fun e w' => e = .returned (.bool (allowB d k 3 n)) /\ Below w.heap.size w w' := by
 have HR : Hid (allowB d k 3 n = if d < takesOf 3 then false else k.testBit n) := by unfold Hid allowB; simp
 have HB0 := Hd (kbelow_box w (.cells #[.int .i64 d, .int .u64 k] 107));have HB1 := Hd (HB0.out.alloc HB0.out.size (.cells #[.int .i64 3, .int .i64 n] 55));obtain ⟨e0, e1⟩ := (hE.below HB1.out) 3 (by omega) (by omega);clear hE
 go_enter Tryz.func95, Tryz.ntmps95
 go_wp2_with fail
 go_quiet (fail)
 by_cases hd : d < takesOf 3
 ·rw [if_pos hd] at HR;go_wp2_with fail
  go_ret;exact ⟨kret_bool HR.out.symm, kbelow_dN HB1.out _⟩
 ·rw [if_neg hd] at HR;have hdB : decide (d < takesOf 3) = false := dEf hd;go_wp2_with fail
  have HB2 := Hd (kbelow_dN HB1.out nq);have x0 : (((w.alloc (.cells #[.int .i64 d, .int .u64 k] 107)).alloc (.cells #[.int .i64 3, .int .i64 n] 55)).drewN nq).cell? ⟨w.heap.size, 1, none⟩ = some (.int .u64 k) := by simp
  have x1 : (((w.alloc (.cells #[.int .i64 d, .int .u64 k] 107)).alloc (.cells #[.int .i64 3, .int .i64 n] 55)).drewN nq).cell? ⟨w.heap.size + 1, 0, none⟩ = some (.int .i64 3) := by simp
  have x2 : (((w.alloc (.cells #[.int .i64 d, .int .u64 k] 107)).alloc (.cells #[.int .i64 3, .int .i64 n] 55)).drewN nq).cell? ⟨w.heap.size + 1, 1, none⟩ = some (.int .i64 n) := by simp
  generalize (((w.alloc (.cells #[.int .i64 d, .int .u64 k] 107)).alloc (.cells #[.int .i64 3, .int .i64 n] 55)).drewN nq) = W at *;have z0 := cell_regrown x0;have z1 := cell_regrown x1;have z2 := cell_regrown x2;have HBI := Hd (And.intro (and_bit_ne hk hn) (and_bit_eq hk hn));refine wp_region_quiet_below (by kernel_rfl) (by kernel_rfl) ?_
  repeat (quiet_step (exact Calls.regrown_of (lineBit_any 3 n _ hn)))
  refine wpQuiet_nil ?_;intro _ hw';obtain ⟨⟨dq, osq⟩, hw''⟩ := hw';subst hw'';go_wp2_with fail
  go_ret;exact ⟨kret_bool (by rw [HR.out]; first | rw [HBI.out.1] | rw [HBI.out.2]), HB2.out.trans ((below_regrown W dq osq).mono HB2.out.size)⟩
theorem allows_16 (d : Int) (k : Nat) (n : Nat) (w : World) (hE : Eff w) (hk : k < 1099511627776) (hn : n < 40) :
 Calls Tryz.prog 95 #[.agg #[.int .i64 d, .int .u64 k], .agg #[.int .i64 16, .int .i64 n]] w fun e w' => e = .returned (.bool (allowB d k 16 n)) /\ Below w.heap.size w w' := by
 have HR : Hid (allowB d k 16 n = if d < takesOf 16 then false else !k.testBit n) := by unfold Hid allowB; simp
 have HB0 := Hd (kbelow_box w (.cells #[.int .i64 d, .int .u64 k] 107));have HB1 := Hd (HB0.out.alloc HB0.out.size (.cells #[.int .i64 16, .int .i64 n] 55));obtain ⟨e0, e1⟩ := (hE.below HB1.out) 16 (by omega) (by omega);clear hE
 go_enter Tryz.func95, Tryz.ntmps95
 go_wp2_with fail
 go_quiet (fail)
 by_cases hd : d < takesOf 16
 ·rw [if_pos hd] at HR;go_wp2_with fail
  go_ret;exact ⟨kret_bool HR.out.symm, kbelow_dN HB1.out _⟩
 ·rw [if_neg hd] at HR;have hdB : decide (d < takesOf 16) = false := dEf hd;go_wp2_with fail
  have HB2 := Hd (kbelow_dN HB1.out nq);have x0 : (((w.alloc (.cells #[.int .i64 d, .int .u64 k] 107)).alloc (.cells #[.int .i64 16, .int .i64 n] 55)).drewN nq).cell? ⟨w.heap.size, 1, none⟩ = some (.int .u64 k) := by simp
  have x1 : (((w.alloc (.cells #[.int .i64 d, .int .u64 k] 107)).alloc (.cells #[.int .i64 16, .int .i64 n] 55)).drewN nq).cell? ⟨w.heap.size + 1, 0, none⟩ = some (.int .i64 16) := by simp
  have x2 : (((w.alloc (.cells #[.int .i64 d, .int .u64 k] 107)).alloc (.cells #[.int .i64 16, .int .i64 n] 55)).drewN nq).cell? ⟨w.heap.size + 1, 1, none⟩ = some (.int .i64 n) := by simp
  generalize (((w.alloc (.cells #[.int .i64 d, .int .u64 k] 107)).alloc (.cells #[.int .i64 16, .int .i64 n] 55)).drewN nq) = W at *;have z0 := cell_regrown x0;have z1 := cell_regrown x1;have z2 := cell_regrown x2;have HBI := Hd (And.intro (and_bit_ne hk hn) (and_bit_eq hk hn));refine wp_region_quiet_below (by kernel_rfl) (by kernel_rfl) ?_
  repeat (quiet_step (exact Calls.regrown_of (lineBit_any 16 n _ hn)))
  refine wpQuiet_nil ?_;intro _ hw';obtain ⟨⟨dq, osq⟩, hw''⟩ := hw';subst hw'';go_wp2_with fail
  go_ret;exact ⟨kret_bool (by rw [HR.out]; first | rw [HBI.out.1] | rw [HBI.out.2]), HB2.out.trans ((below_regrown W dq osq).mono HB2.out.size)⟩
theorem allows_else (d : Int) (k : Nat) (q : Nat) (n : Int) (w : World) (hE : Eff w) (h1 : 1 <= q) (h2 : q <= 16) (h3 : q ≠ 3) (h4 : q ≠ 16) :
 Calls Tryz.prog 95 #[.agg #[.int .i64 d, .int .u64 k], .agg #[.int .i64 q, .int .i64 n]] w fun e w' => e = .returned (.bool (allowB d k q n)) /\ Below w.heap.size w w' := by
 have HR : Hid (allowB d k q n = if d < takesOf q then false else true) := by unfold Hid allowB; rw [if_neg h3, if_neg h4]
 have hq17 : (q : Int) < 17 := by omega
 have h3B : decide ((q : Int) = 3) = false := dEf (by omega);have h3E : ((q : Int) == 3) = false := by simp; omega
 have h3D : decide (q = 3) = false := dEf h3;have h4B : decide ((q : Int) = 16) = false := dEf (by omega);have h4E : ((q : Int) == 16) = false := by simp; omega
 have h4D : decide (q = 16) = false := dEf h4;have HB0 := Hd (kbelow_box w (.cells #[.int .i64 d, .int .u64 k] 107));have HB1 := Hd (HB0.out.alloc HB0.out.size (.cells #[.int .i64 q, .int .i64 n] 55));obtain ⟨e0, e1⟩ := (hE.below HB1.out) q (by omega) (by omega);clear hE
 go_enter Tryz.func95, Tryz.ntmps95
 go_wp2_with fail
 go_quiet (fail)
 by_cases hd : d < takesOf q
 ·rw [if_pos hd] at HR;go_wp2_with fail
  go_ret;exact ⟨kret_bool HR.out.symm, kbelow_dN HB1.out _⟩
 ·rw [if_neg hd] at HR;have hdB : decide (d < takesOf q) = false := dEf hd;go_wp2_with fail
  go_ret;exact ⟨kret_bool HR.out.symm, kbelow_dN HB1.out _⟩
theorem takes_bd (d : Int) : 0 <= takesOf d /\ takesOf d <= 2 := by unfold takesOf; (repeat' split) <;> omega
theorem lays_bd (d : Int) : 0 <= laysOf d /\ laysOf d <= 1 := by unfold laysOf; split <;> omega
theorem below3 (w : World) (a b c : Obj) : Below w.heap.size w (((w.alloc a).alloc b).alloc c) := by
 have h1 := kbelow_box w a;have h2 := h1.alloc h1.size b;exact h2.alloc h2.size c
theorem after_else (d : Int) (k : Nat) (q : Nat) (n : Int) (w : World) (hE : Eff w) (h1 : 1 <= q) (h2 : q <= 15) (hd0 : 0 <= d) (hd1 : d <= 20000) :
 Calls Tryz.prog 96 #[.agg #[.int .i64 d, .int .u64 k], .agg #[.int .i64 q, .int .i64 n]] w fun e w' => e = .returned (.agg #[.int .i64 (d + (laysOf q - takesOf q)), .int .u64 k]) /\ Below w.heap.size w w' := by
 have hq17 : (q : Int) < 17 := by omega
 have h4B : decide ((q : Int) = 16) = false := dEf (by omega);have h4E : ((q : Int) == 16) = false := by simp; omega
 have h4D : decide (q = 16) = false := dEf (by omega);have ht := takes_bd q;have hl := lays_bd q;have HB0 := Hd (kbelow_box w (.cells #[.int .i64 d, .int .u64 k] 107));have HB1 := Hd (HB0.out.alloc HB0.out.size (.cells #[.int .i64 q, .int .i64 n] 55));have HB2 := Hd (HB1.out.alloc HB1.out.size (.cells #[.int .i64 0, .int .u64 0] 107));obtain ⟨e0, e1⟩ := (hE.below HB2.out) q (by omega) (by omega);have hw1 : IntKind.i64.wrap (laysOf q - takesOf q) = laysOf q - takesOf q := IntWalk.i64_in _ (by omega);have hw2 : IntKind.i64.wrap (d + (laysOf q - takesOf q)) = d + (laysOf q - takesOf q) := IntWalk.i64_in _ (by omega);clear hE
 go_enter Tryz.func96, Tryz.ntmps96
 go_wp2_with fail
 go_region
 all_goals go_wp2_with fail
 all_goals refine bodyPost_ret (v := .agg #[.int .i64 (d + (laysOf q - takesOf q)), .int .u64 k]) (by simp [results, Tryz.results96, go_sem] <;> rfl) rfl ⟨rfl, ?_⟩
 all_goals exact (below3 w _ _ _).drew
theorem or_bit {k n : Nat} (hk : k < 1099511627776) (hn : n < 40) : bits .or .u64 (k : Int) ((2 : Int) ^ n) = ((k ||| 2 ^ n : Nat) : Int) := by
 have h2 : 2 ^ n < 1099511627776 := by
  have : 2 ^ n <= 2 ^ 39 := Nat.pow_le_pow_right (by omega) (by omega);omega
 rw [show ((2 : Int) ^ n) = ((2 ^ n : Nat) : Int) by simp, bits_or_u64_nat k (2 ^ n) (by omega) (by omega)]
theorem nfrom_drewA {B : Nat} {w w' : World} (h : Below B w.drew w') : Below B w w' := (kbelow_dN (Below.refl B w) 1).trans h
theorem cell_past (W : World) (c : Obj) (b i : Nat) (h : b < W.heap.size) : (W.alloc c).cell? ⟨b, i, none⟩ = W.cell? ⟨b, i, none⟩ := (kbelow_box W c).cell (p := ⟨b, i, none⟩) h
theorem frozen_past (W : World) (c : Obj) (b i : Nat) (h : b < W.heap.size) : (W.alloc c).frozen? ⟨b, i, none⟩ = W.frozen? ⟨b, i, none⟩ := (kbelow_box W c).frozen (p := ⟨b, i, none⟩) h
def AfterIs (W : World) (g : Nat) (d : Int) (k n : Nat) : Prop := (W.cell? ⟨g, 0, none⟩ = some (.int .i64 d) /\ W.cell? ⟨g, 1, none⟩ = some (.int .u64 k) /\ W.cell? ⟨g + 1, 0, none⟩ = some (.int .i64 16) /\ W.cell? ⟨g + 1, 1, none⟩ = some (.int .i64 n) /\ W.cell? ⟨g + 1 + 1, 0, none⟩ = some (.int .i64 0) /\ W.cell? ⟨g + 1 + 1, 1, none⟩ = some (.int .u64 0)) /\ W.frozen? ⟨g, 1, none⟩ = false /\ W.frozen? ⟨g + 1 + 1, 0, none⟩ = false /\ W.frozen? ⟨g + 1 + 1, 1, none⟩ = false
theorem AfterIs.below {W W' : World} {g : Nat} {d : Int} {k n : Nat} (h : AfterIs W g d k n) (hb : Below W.heap.size W W') : AfterIs W' g d k n := by
 obtain ⟨⟨c0, c1, o0, o1, r0, r1⟩, f1, f2, f3⟩ := h;have b2 : g + 1 + 1 < W.heap.size := blt_of_cell r0;have b1 : g + 1 < W.heap.size := by omega
 have b0 : g < W.heap.size := by omega
 exact ⟨⟨(hb.cell (p := ⟨g, 0, none⟩) b0).trans c0, (hb.cell (p := ⟨g, 1, none⟩) b0).trans c1, (hb.cell (p := ⟨g + 1, 0, none⟩) b1).trans o0, (hb.cell (p := ⟨g + 1, 1, none⟩) b1).trans o1, (hb.cell (p := ⟨g + 1 + 1, 0, none⟩) b2).trans r0, (hb.cell (p := ⟨g + 1 + 1, 1, none⟩) b2).trans r1⟩, (hb.frozen (p := ⟨g, 1, none⟩) b0).trans f1, (hb.frozen (p := ⟨g + 1 + 1, 0, none⟩) b2).trans f2, (hb.frozen (p := ⟨g + 1 + 1, 1, none⟩) b2).trans f3⟩
theorem after_world (w : World) (d : Int) (k n : Nat) (S O : TypeId) : AfterIs ((((w.alloc (.cells #[.int .i64 d, .int .u64 k] S)).alloc (.cells #[.int .i64 16, .int .i64 n] O)).alloc (.cells #[.int .i64 0, .int .u64 0] S)).drew) w.heap.size d k n := by
 have s1 : (w.alloc (.cells #[.int .i64 d, .int .u64 k] S)).heap.size = w.heap.size + 1 := by simp
 have s2 : ((w.alloc (.cells #[.int .i64 d, .int .u64 k] S)).alloc (.cells #[.int .i64 16, .int .i64 n] O)).heap.size = w.heap.size + 1 + 1 := by simp
 refine ⟨⟨?_, ?_, ?_, ?_, ?_, ?_⟩, ?_, ?_, ?_⟩
 ·show (((w.alloc _).alloc _).alloc _).cell? _ = _
  rw [cell_past _ _ _ _ (by omega)];rw [cell_past _ _ _ _ (by omega)]
  first | simp | (rw [World.cell?_alloc_at _ _ _ _ s2.symm]; rfl) | (rw [World.cell?_alloc_at _ _ _ _ s1.symm]; rfl)
 ·show (((w.alloc _).alloc _).alloc _).cell? _ = _
  rw [cell_past _ _ _ _ (by omega)];rw [cell_past _ _ _ _ (by omega)]
  first | simp | (rw [World.cell?_alloc_at _ _ _ _ s2.symm]; rfl) | (rw [World.cell?_alloc_at _ _ _ _ s1.symm]; rfl)
 ·show (((w.alloc _).alloc _).alloc _).cell? _ = _
  rw [cell_past _ _ _ _ (by omega)]
  first | simp | (rw [World.cell?_alloc_at _ _ _ _ s2.symm]; rfl) | (rw [World.cell?_alloc_at _ _ _ _ s1.symm]; rfl)
 ·show (((w.alloc _).alloc _).alloc _).cell? _ = _
  rw [cell_past _ _ _ _ (by omega)]
  first | simp | (rw [World.cell?_alloc_at _ _ _ _ s2.symm]; rfl) | (rw [World.cell?_alloc_at _ _ _ _ s1.symm]; rfl)
 ·show (((w.alloc _).alloc _).alloc _).cell? _ = _
  first | simp | (rw [World.cell?_alloc_at _ _ _ _ s2.symm]; rfl) | (rw [World.cell?_alloc_at _ _ _ _ s1.symm]; rfl)
 ·show (((w.alloc _).alloc _).alloc _).cell? _ = _
  first | simp | (rw [World.cell?_alloc_at _ _ _ _ s2.symm]; rfl) | (rw [World.cell?_alloc_at _ _ _ _ s1.symm]; rfl)
 ·show (((w.alloc _).alloc _).alloc _).frozen? _ = _
  rw [frozen_past _ _ _ _ (by omega)];rw [frozen_past _ _ _ _ (by omega)]
  first | simp | exact World.frozen?_alloc_at _ _ _ _ s2.symm
 ·show (((w.alloc _).alloc _).alloc _).frozen? _ = _
  first | simp | exact World.frozen?_alloc_at _ _ _ _ s2.symm
 ·show (((w.alloc _).alloc _).alloc _).frozen? _ = _
  first | simp | exact World.frozen?_alloc_at _ _ _ _ s2.symm
theorem after_keep (d : Int) (k : Nat) (n : Nat) (w : World) (hE : Eff w) (hd0 : 0 <= d) (hd1 : d <= 20000) (hk : k < 1099511627776) (hn : n < 40) :
 Calls Tryz.prog 96 #[.agg #[.int .i64 d, .int .u64 k], .agg #[.int .i64 16, .int .i64 n]] w fun e w' => e = .returned (.agg #[.int .i64 (d + (laysOf 16 - takesOf 16)), .int .u64 ((k ||| 2 ^ n : Nat) : Int)]) /\ Below w.heap.size w w' := by
 have ht := takes_bd 16;have hl := lays_bd 16;have HB0 := Hd (kbelow_box w (.cells #[.int .i64 d, .int .u64 k] 107));have HB1 := Hd (HB0.out.alloc HB0.out.size (.cells #[.int .i64 16, .int .i64 n] 55));have HB2 := Hd (HB1.out.alloc HB1.out.size (.cells #[.int .i64 0, .int .u64 0] 107));obtain ⟨e0, e1⟩ := (hE.below HB2.out) 16 (by omega) (by omega);have hw1 : IntKind.i64.wrap (laysOf 16 - takesOf 16) = laysOf 16 - takesOf 16 := IntWalk.i64_in _ (by omega);have hw2 : IntKind.i64.wrap (d + (laysOf 16 - takesOf 16)) = d + (laysOf 16 - takesOf 16) := IntWalk.i64_in _ (by omega);clear hE
 go_enter Tryz.func96, Tryz.ntmps96
 go_wp2_with fail
 go_region
 go_wp2_with fail
 have HX := Hd (after_world w (d + (laysOf 16 - takesOf 16)) k n 107 55);have HBW := Hd (below3 w (.cells #[.int .i64 (d + (laysOf 16 - takesOf 16)), .int .u64 k] 107) (.cells #[.int .i64 16, .int .i64 n] 55) (.cells #[.int .i64 0, .int .u64 0] 107)).drew;have hor : bits .or .u64 (k : Int) ((2 : Int) ^ n) = ((k ||| 2 ^ n : Nat) : Int) := or_bit hk hn;clear HB0 HB1 HB2 e0 e1;generalize ((((w.alloc (.cells #[.int .i64 (d + (laysOf 16 - takesOf 16)), .int .u64 k] 107)).alloc (.cells #[.int .i64 16, .int .i64 n] 55)).alloc (.cells #[.int .i64 0, .int .u64 0] 107)).drew) = W at *;obtain ⟨⟨c0, c1, o0, o1, r0, r1⟩, f1, f2, f3⟩ := HX.out
 go_region_with (go_at_call 145; refine (lineBit_any 16 n _ hn).mono ?_; rintro e w1 ⟨rfl, hb⟩; have HBL := Hd (nfrom_drewA hb); obtain ⟨⟨c0', c1', o0', o1', r0', r1'⟩, f1', f2', f3'⟩ := HX.out.below HBL.out; clear hb)
 all_goals go_wp2_with fail
 all_goals refine bodyPost_ret (v := .agg #[.int .i64 (d + (laysOf 16 - takesOf 16)), .int .u64 ((k ||| 2 ^ n : Nat) : Int)]) (by simp [results, Tryz.results96, go_sem, r0', r1'] <;> rfl) rfl ⟨rfl, ?_⟩
 all_goals exact (((HBW.trans (HBL.out.mono HBW.size)).setCell (by simp) _).setCell (by show _ <= w.heap.size + 1 + 1; omega) _).setCell (by show _ <= w.heap.size + 1 + 1; omega) _
end Go.Proofs.YtmlpedgcpffpnaaGreatDoor
