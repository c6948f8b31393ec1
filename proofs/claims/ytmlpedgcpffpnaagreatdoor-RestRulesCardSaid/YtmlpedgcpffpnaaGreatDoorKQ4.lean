/-
  Promise H2: where things stand by their names: maps of names to places, and the walks of Places.
-/
import Derived.Test.YtmlpedgcpffpnaaGreatDoorKZ0
import Derived.Test.YtmlpedgcpffpnaaGreatDoorKQ2
import Derived.Maps.OwnSet
import Derived.StringKeys
import Derived.Deep.RegionHeld3
import Derived.Test.YtmlpedgcpffpnaaGreatDoorKQ3
set_option linter.unusedSimpArgs false
set_option maxRecDepth 100000
set_option maxHeartbeats 8000000
namespace Go.Proofs.YtmlpedgcpffpnaaGreatDoor
open Go.RowKit Go.Maps Go.WideMaps
theorem strLaw : Keyed Tryz.prog 9 := string_keyed Tryz.underlying9
theorem zeroInt (w : World) : (zeroValue 3).run Tryz.prog w = .ok (.int .i64 0) w := by kernel_rfl
theorem make_map (k : Int) (w : World) : (Instr.makeMap 57 (some (.int .i64 k))).run Tryz.prog w = .ok (.map (some w.heap.size)) (w.alloc (.map #[] 0)) := by
 simp [Instr.makeMap, run_underlying Tryz.underlying57, asInt, asIntOf, Result.andThen]
def MapIs (w : World) (b n : Nat) (g : ByteArray -> Option Nat) : Prop := ∃ D : DataW Unit, w.ownsMap Tryz.prog 9 (plainElem (H := Unit) Tryz.prog 3) b n D /\ ∀ s : ByteArray, Maps.has D (.string s.data.toList) = (g s).isSome /\ D.atKey (.string s.data.toList) (.lit (.int .i64 0)) = .lit (.int .i64 (((g s).getD 0 : Nat) : Int))
theorem MapIs.lt {w : World} {b n : Nat} {g : ByteArray -> Option Nat} (h : MapIs w b n g) : b < w.heap.size := by
 obtain ⟨D, ⟨es, clock, hb, _⟩, _⟩ := h
 by_cases hlt : b < w.heap.size
 ·exact hlt
 ·rw [Array.getElem?_eq_none (by omega)] at hb
  cases hb
theorem MapIs.below {w w' : World} {b n : Nat} {g : ByteArray -> Option Nat} (h : MapIs w b n g) (hb : Below w.heap.size w w') : MapIs w' b n g := by
 have hlt := h.lt;obtain ⟨D, ⟨es, clock, hbk, h3⟩, h2⟩ := h;exact ⟨D, ⟨es, clock, by rw [hb.block b hlt]; exact hbk, h3⟩, h2⟩
def lastN (f : Nat -> ByteArray) : Nat -> ByteArray -> Option Nat
 | 0, _ => none
 | k + 1, s => if (f k).data = s.data then some k else lastN f k s
theorem key_of {s : ByteArray} (h : s.size <= maxLen) : keyOf Tryz.prog 9 (.string s) = some (.string s.data.toList) := keyOf_string_mk Tryz.underlying9 h
theorem map_put {D : DataW Unit} {g : ByteArray -> Option Nat} {nm : ByteArray} {v : Nat} (hm : IsMap D) (h : ∀ s : ByteArray, Maps.has D (.string s.data.toList) = (g s).isSome /\ D.atKey (.string s.data.toList) (.lit (.int .i64 0)) = .lit (.int .i64 (((g s).getD 0 : Nat) : Int))) (s : ByteArray) :
 Maps.has (D.put (.string nm.data.toList) (.lit (.int .i64 v))) (.string s.data.toList) = (if nm.data = s.data then some v else g s).isSome /\ (D.put (.string nm.data.toList) (.lit (.int .i64 v))).atKey (.string s.data.toList) (.lit (.int .i64 0)) = .lit (.int .i64 (((if nm.data = s.data then some v else g s).getD 0 : Nat) : Int)) := by
 by_cases e : nm.data = s.data
 ·rw [if_pos e, <- e];exact ⟨has_put_same hm (show WideAt.IsKeyLit (.string nm.data.toList) from trivial) _, atKey_put_same hm (show WideAt.IsKeyLit (.string nm.data.toList) from trivial) _ _⟩
 ·rw [if_neg e, has_put_other (by intro q; injection q with q; exact e (Array.toList_inj.1 q.symm)), atKey_put_other (by intro q; injection q with q; exact e (Array.toList_inj.1 q.symm))];exact h s
theorem meantA_any (s : ByteArray) (m : Int) (w : World) : Calls Tryz.prog 63 #[.agg #[.string s, .int .i64 m]] w fun e w' => e = .returned (.string s) /\ Below w.heap.size w w' := by
 go_enter Tryz.func63, Tryz.ntmps63
 go_wp2_with fail
 go_ret;exact ⟨rfl, kbelow_box _ _⟩
theorem meantL_any (k : Int) (s : ByteArray) (k2 n2 : Int) (s2 : ByteArray) (a : Option Addr) (m c : Nat) (w : World) : Calls Tryz.prog 65 #[.agg #[.int .i64 k, .string s, .int .i64 k2, .int .i64 n2, .string s2, .slice a m c]] w fun e w' => e = .returned (.string s) /\ Below w.heap.size w w' := by
 go_enter Tryz.func65, Tryz.ntmps65
 go_wp2_with fail
 go_ret;exact ⟨rfl, kbelow_box _ _⟩
theorem meantT_any (s : ByteArray) (a : Option Addr) (n c : Nat) (w : World) : Calls Tryz.prog 68 #[.agg #[.string s, .slice a n c]] w fun e w' => e = .returned (.string s) /\ Below w.heap.size w w' := by
 go_enter Tryz.func68, Tryz.ntmps68
 go_wp2_with fail
 go_ret;exact ⟨rfl, kbelow_box _ _⟩
theorem placesA (a : Option Addr) (n cap : Nat) (l : List Am) (w : World) (hc : CameA w a l) (hfit : ∀ j, j < n -> (anth l j).name.size <= maxLen) (hn : l.length = n) (hm : n <= 40) :
 Calls Tryz.prog 66 #[.slice a n cap, .func (.func 63) #[] #[]] w fun e w' => e = .returned (.map (some w.heap.size)) /\ MapIs w' w.heap.size n (lastN (fun j => (anth l j).name) n) /\ Below w.heap.size w w' := by
 have HO := Hd (fun h0 => hc.open hn h0);have HFIT := Hd hfit;have hmm := make_map;clear hc hfit
 go_enter Tryz.func66, Tryz.ntmps66
 go_wp2_with fail
 go_loopw [13] (fun i wr => ∃ k : Nat, k <= n /\ i = .int .i64 k /\ MapIs wr w.heap.size k (lastN (fun j => (anth l j).name) k) /\ Below w.heap.size w wr) (fun i _ => n - (intOf i).toNat)
 case atStart => exact ⟨0, Nat.zero_le _, rfl, ⟨.map [], World.ownsMap_made _ _ _ _, fun s => ⟨by simp [Maps.has, lastN], by simp [lastN, DataW.atKey]⟩⟩, (Below.refl _ _).alloc (Nat.le_refl _) _⟩
 case round =>
  obtain ⟨k, hk, rfl, hmap, hnx⟩ := hrel;have HMAP := Hd hmap;have HN := Hd hnx;clear hmap hnx
  by_cases hlt : k < n
  ·have hlt' : (k : Int) < (n : Int) := by omega
   obtain ⟨b, off, rfl, hcell⟩ := HO.out (by omega);obtain ⟨x0, x1⟩ := hcell wr HN.out k hlt;clear hcell;have HBJ := Hd (kbelow_box wr (.cells #[.string (anth l k).name, .int .i64 (anth l k).mon] 78));go_wp2_with fail
   refine (meantA_any _ _ _).mono ?_;rintro e w1 ⟨rfl, hb1⟩;have HB1 := Hd (HN.out.trans ((HBJ.out.trans (hb1.mono HBJ.out.size)).mono HN.out.size));obtain ⟨D, hown, hD⟩ := (HMAP.out.below HBJ.out).below hb1;have HD := Hd hD;have hkey := key_of (HFIT.out k hlt);clear hb1 hD HMAP
   go_wp2_with (first
    | (at_mapUpdate; refine wpList_mapUpdate_own _ rfl _ _ _ 57 rfl 9 3 strLaw Tryz.underlying57 (plainElem (H := Unit) Tryz.prog 3) w.heap.size k _ rfl hown (by unfold maxLen; omega) _ _ _ rfl rfl hkey (.lit (.int .i64 (k : Int))) [] (plainElem_int Tryz.underlying3 (WalkArith.wf_i64 (by omega))) ?_; intro w2 hown2 hgrow2))
   go_roundw
   case rel => exact ⟨k + 1, by omega, by go_num, ⟨_, hown2, map_put hown.isMap HD.out⟩, HB1.out.grown hgrow2 HB1.out.size (fun j hj => by cases hj; exact Nat.le_refl _)⟩
   case measure => simp [intOf]; omega
  ·have hkn : k = n := by omega
   subst hkn;go_wp2_with fail
   go_ret;exact ⟨rfl, HMAP.out, HN.out⟩
theorem placesT (a : Option Addr) (n cap : Nat) (l : List Tb) (w : World) (hc : CameT w a l) (hfit : ∀ j, j < n -> (tnth l j).name.size <= maxLen) (hn : l.length = n) (hm : n <= 40) :
 Calls Tryz.prog 67 #[.slice a n cap, .func (.func 68) #[] #[]] w fun e w' => e = .returned (.map (some w.heap.size)) /\ MapIs w' w.heap.size n (lastN (fun j => (tnth l j).name) n) /\ Below w.heap.size w w' := by
 have HO := Hd (fun h0 => hc.open hn h0);have HFIT := Hd hfit;have hmm := make_map;clear hc hfit
 go_enter Tryz.func67, Tryz.ntmps67
 go_wp2_with fail
 go_loopw [13] (fun i wr => ∃ k : Nat, k <= n /\ i = .int .i64 k /\ MapIs wr w.heap.size k (lastN (fun j => (tnth l j).name) k) /\ Below w.heap.size w wr) (fun i _ => n - (intOf i).toNat)
 case atStart => exact ⟨0, Nat.zero_le _, rfl, ⟨.map [], World.ownsMap_made _ _ _ _, fun s => ⟨by simp [Maps.has, lastN], by simp [lastN, DataW.atKey]⟩⟩, (Below.refl _ _).alloc (Nat.le_refl _) _⟩
 case round =>
  obtain ⟨k, hk, rfl, hmap, hnx⟩ := hrel;have HMAP := Hd hmap;have HN := Hd hnx;clear hmap hnx
  by_cases hlt : k < n
  ·have hlt' : (k : Int) < (n : Int) := by omega
   obtain ⟨b, off, rfl, hcell⟩ := HO.out (by omega);obtain ⟨ax, cx, x0, x1, _⟩ := hcell wr HN.out k hlt;clear hcell;have HBJ := Hd (kbelow_box wr (.cells #[.string (tnth l k).name, .slice ax (tnth l k).bks.length cx] 83));go_wp2_with fail
   refine (meantT_any _ _ _ _ _).mono ?_;rintro e w1 ⟨rfl, hb1⟩;have HB1 := Hd (HN.out.trans ((HBJ.out.trans (hb1.mono HBJ.out.size)).mono HN.out.size));obtain ⟨D, hown, hD⟩ := (HMAP.out.below HBJ.out).below hb1;have HD := Hd hD;have hkey := key_of (HFIT.out k hlt);clear hb1 hD HMAP
   go_wp2_with (first
    | (at_mapUpdate; refine wpList_mapUpdate_own _ rfl _ _ _ 57 rfl 9 3 strLaw Tryz.underlying57 (plainElem (H := Unit) Tryz.prog 3) w.heap.size k _ rfl hown (by unfold maxLen; omega) _ _ _ rfl rfl hkey (.lit (.int .i64 (k : Int))) [] (plainElem_int Tryz.underlying3 (WalkArith.wf_i64 (by omega))) ?_; intro w2 hown2 hgrow2))
   go_roundw
   case rel => exact ⟨k + 1, by omega, by go_num, ⟨_, hown2, map_put hown.isMap HD.out⟩, HB1.out.grown hgrow2 HB1.out.size (fun j hj => by cases hj; exact Nat.le_refl _)⟩
   case measure => simp [intOf]; omega
  ·have hkn : k = n := by omega
   subst hkn;go_wp2_with fail
   go_ret;exact ⟨rfl, HMAP.out, HN.out⟩
theorem placesL (a : Option Addr) (n cap : Nat) (l : List Ln) (w : World) (hc : CameL w a l) (hfit : ∀ j, j < n -> (lnth l j).name.size <= maxLen) (hn : l.length = n) (hm : n <= 40) :
 Calls Tryz.prog 64 #[.slice a n cap, .func (.func 65) #[] #[]] w fun e w' => e = .returned (.map (some w.heap.size)) /\ MapIs w' w.heap.size n (lastN (fun j => (lnth l j).name) n) /\ Below w.heap.size w w' := by
 have HO := Hd (fun h0 => hc.open hn h0);have HFIT := Hd hfit;have hmm := make_map;clear hc hfit
 go_enter Tryz.func64, Tryz.ntmps64
 go_wp2_with fail
 go_loopw [13] (fun i wr => ∃ k : Nat, k <= n /\ i = .int .i64 k /\ MapIs wr w.heap.size k (lastN (fun j => (lnth l j).name) k) /\ Below w.heap.size w wr) (fun i _ => n - (intOf i).toNat)
 case atStart => exact ⟨0, Nat.zero_le _, rfl, ⟨.map [], World.ownsMap_made _ _ _ _, fun s => ⟨by simp [Maps.has, lastN], by simp [lastN, DataW.atKey]⟩⟩, (Below.refl _ _).alloc (Nat.le_refl _) _⟩
 case round =>
  obtain ⟨k, hk, rfl, hmap, hnx⟩ := hrel;have HMAP := Hd hmap;have HN := Hd hnx;clear hmap hnx
  by_cases hlt : k < n
  ·have hlt' : (k : Int) < (n : Int) := by omega
   obtain ⟨b, off, rfl, hcell⟩ := HO.out (by omega);obtain ⟨ax, cx, ⟨x0, x1, x2, x3, x4, x5⟩, _⟩ := hcell wr HN.out k hlt;clear hcell;have HBJ := Hd (kbelow_box wr (.cells #[.int .i64 (lnth l k).kind, .string (lnth l k).name, .int .i64 (lnth l k).ex.k, .int .i64 (lnth l k).ex.n, .string (lnth l k).ex.s, .slice ax (lnth l k).ex.m cx] 52));go_wp2_with fail
   refine (meantL_any _ _ _ _ _ _ _ _ _).mono ?_;rintro e w1 ⟨rfl, hb1⟩;have HB1 := Hd (HN.out.trans ((HBJ.out.trans (hb1.mono HBJ.out.size)).mono HN.out.size));obtain ⟨D, hown, hD⟩ := (HMAP.out.below HBJ.out).below hb1;have HD := Hd hD;have hkey := key_of (HFIT.out k hlt);clear hb1 hD HMAP
   go_wp2_with (first
    | (at_mapUpdate; refine wpList_mapUpdate_own _ rfl _ _ _ 57 rfl 9 3 strLaw Tryz.underlying57 (plainElem (H := Unit) Tryz.prog 3) w.heap.size k _ rfl hown (by unfold maxLen; omega) _ _ _ rfl rfl hkey (.lit (.int .i64 (k : Int))) [] (plainElem_int Tryz.underlying3 (WalkArith.wf_i64 (by omega))) ?_; intro w2 hown2 hgrow2))
   go_roundw
   case rel => exact ⟨k + 1, by omega, by go_num, ⟨_, hown2, map_put hown.isMap HD.out⟩, HB1.out.grown hgrow2 HB1.out.size (fun j hj => by cases hj; exact Nat.le_refl _)⟩
   case measure => simp [intOf]; omega
  ·have hkn : k = n := by omega
   subst hkn;go_wp2_with fail
   go_ret;exact ⟨rfl, HMAP.out, HN.out⟩
theorem nfrom_drew {B : Nat} {w w' : World} (h : Below B w.drew w') : Below B w w' := (kbelow_dN (Below.refl B w) 1).trans h
def MeantIs (w : World) (b1 b2 b3 b4 : Nat) (l : List Ln) (k : Kn) : Prop :=
 MapIs w b1 l.length (lastN (fun j => (lnth l j).name) l.length) /\ MapIs w b2 k.ins.length (lastN (fun j => (anth k.ins j).name) k.ins.length) /\ MapIs w b3 k.tbs.length (lastN (fun j => (tnth k.tbs j).name) k.tbs.length) /\ MapIs w b4 k.yrs.length (lastN (fun j => (anth k.yrs j).name) k.yrs.length)
def MeantRet (w : World) (l : List Ln) (k : Kn) (e : Ending) (w' : World) : Prop := ∃ b1 b2 b3 b4 : Nat, e = .returned (.agg #[.map (some b1), .map (some b2), .map (some b3), .map (some b4)]) /\ w.heap.size <= b1 /\ b1 < b2 /\ b2 < b3 /\ b3 < b4 /\ MeantIs w' b1 b2 b3 b4 l k /\ Below w.heap.size w w'
theorem MapIs.set {w : World} {b n : Nat} {g : ByteArray -> Option Nat} {p : Addr} (h : MapIs w b n g) (v : Value) (hp : b ≠ p.block) : MapIs (w.setCell p v) b n g := by
 obtain ⟨D, ⟨es, clock, hbk, h3⟩, h2⟩ := h;exact ⟨D, ⟨es, clock, by rw [Below.heap_setCell w p v b hp]; exact hbk, h3⟩, h2⟩
def row4 (w : World) (b : Nat) : Prop := w.cell? ⟨b, 0, none⟩ = some (.map none) /\ w.cell? ⟨b, 1, none⟩ = some (.map none) /\ w.cell? ⟨b, 2, none⟩ = some (.map none) /\ w.cell? ⟨b, 3, none⟩ = some (.map none) /\ w.frozen? ⟨b, 0, none⟩ = false /\ w.frozen? ⟨b, 1, none⟩ = false /\ w.frozen? ⟨b, 2, none⟩ = false /\ w.frozen? ⟨b, 3, none⟩ = false
theorem row4.made (w : World) (o : Obj) (T : TypeId) : row4 ((w.alloc o).alloc (.cells #[.map none, .map none, .map none, .map none] T)) (w.heap.size + 1) := by
 refine ⟨?_, ?_, ?_, ?_, ?_, ?_, ?_, ?_⟩ <;> simp
theorem row4.below {w w' : World} {b : Nat} (h : row4 w b) (hb : Below w.heap.size w w') : row4 w' b := by
 have hB : b < w.heap.size := blt_of_cell h.1;obtain ⟨h0, h1, h2, h3, f0, f1, f2, f3⟩ := h;exact ⟨(hb.cell (p := ⟨b, 0, none⟩) hB).trans h0, (hb.cell (p := ⟨b, 1, none⟩) hB).trans h1, (hb.cell (p := ⟨b, 2, none⟩) hB).trans h2, (hb.cell (p := ⟨b, 3, none⟩) hB).trans h3, (hb.frozen (p := ⟨b, 0, none⟩) hB).trans f0, (hb.frozen (p := ⟨b, 1, none⟩) hB).trans f1, (hb.frozen (p := ⟨b, 2, none⟩) hB).trans f2, (hb.frozen (p := ⟨b, 3, none⟩) hB).trans f3⟩
theorem meantIn_any (a : Option Addr) (n cap : Nat) (l : List Ln) (a1 a2 a3 : Option Addr) (n1 n2 n3 c1 c2 c3 : Nat) (k : Kn) (w : World) (hl : CameL w a l) (hn : l.length = n) (hm : n <= 40) (hlf : ∀ j, j < n -> (lnth l j).name.size <= maxLen) (hc : CameK w a1 a2 a3 k) (htf : ∀ j, j < n2 -> (tnth k.tbs j).name.size <= maxLen) (h1 : k.ins.length = n1) (h2 : k.tbs.length = n2) (h3 : k.yrs.length = n3) (g1 : n1 <= 30) (g2 : n2 <= 30) (g3 : n3 <= 30) :
 Calls Tryz.prog 24 #[.slice a n cap, .agg #[.slice a1 n1 c1, .slice a2 n2 c2, .slice a3 n3 c3]] w fun e w' => MeantRet w l k e w' := by
 have HL := Hd hl;have HN := Hd hn;have HLF := Hd hlf;have HC := Hd hc;have HTF := Hd htf;have H1 := Hd h1;have H2 := Hd h2;have H3 := Hd h3;have HF1 : Hid (∀ j, j < n1 -> (anth k.ins j).name.size <= maxLen) := fun j hj => hc.2.2.2.1 j (by omega)
 have HF3 : Hid (∀ j, j < n3 -> (anth k.yrs j).name.size <= maxLen) := fun j hj => hc.2.2.2.2.1 j (by omega)
 clear hl hn hlf hc htf h1 h2 h3;have HB0 := Hd (kbelow_box w (.cells #[.slice a1 n1 c1, .slice a2 n2 c2, .slice a3 n3 c3] 26));have HK0 := Hd (KAt.made w (.slice a1 n1 c1) (.slice a2 n2 c2) (.slice a3 n3 c3) 26);have HB1 := Hd (HB0.out.alloc HB0.out.size (.cells #[.map none, .map none, .map none, .map none] 59));have HK1 := Hd (KAt.below HK0.out (kbelow_box _ (.cells #[.map none, .map none, .map none, .map none] 59)))
 go_enter Tryz.func24, Tryz.ntmps24
 go_wp2_with fail
 have hsz : ((w.alloc (.cells #[.slice a1 n1 c1, .slice a2 n2 c2, .slice a3 n3 c3] 26)).alloc (.cells #[.map none, .map none, .map none, .map none] 59)).heap.size = w.heap.size + 2 := by simp
 have HRW := Hd (row4.made w (.cells #[.slice a1 n1 c1, .slice a2 n2 c2, .slice a3 n3 c3] 26) 59);clear HK0 HB0;generalize ((w.alloc (.cells #[.slice a1 n1 c1, .slice a2 n2 c2, .slice a3 n3 c3] 26)).alloc (.cells #[.map none, .map none, .map none, .map none] 59)) = W at *;obtain ⟨_, k0, k1, k2⟩ := HK1.out;have hgw : w.heap.size < W.heap.size := by omega
 have HSZ := Hd hsz;clear hsz
 go_region_held3 (fun w' => w'.cell? ⟨w.heap.size, 0, none⟩ = some (.slice a1 n1 c1) /\ w'.cell? ⟨w.heap.size, 1, none⟩ = some (.slice a2 n2 c2) /\ w'.cell? ⟨w.heap.size, 2, none⟩ = some (.slice a3 n3 c3)) (go_keep)
  (first
   | (have := HX3; go_at_call 66; refine (placesA a3 n3 c3 k.yrs _ (HC.out.2.2.1.below (HB1.out.trans (HX3.out.mono HB1.out.size))) HF3.out H3.out (by omega)).mono ?_; rintro e w4 ⟨rfl, hm4, hb4⟩
      have HM4 := Hd hm4;have HX4 := Hd (HX3.out.trans (hb4.mono HX3.out.size));have HY4 := Hd hb4;have r0 := (HX4.out.cell (p := ⟨w.heap.size, 0, none⟩) hgw).trans k0;have r1 := (HX4.out.cell (p := ⟨w.heap.size, 1, none⟩) hgw).trans k1;have r2 := (HX4.out.cell (p := ⟨w.heap.size, 2, none⟩) hgw).trans k2;obtain ⟨s0, s1, s2, s3, f0, f1, f2, f3⟩ := (HRW.out.below HX4.out);clear hm4 hb4)
   | (have := HX2; go_at_call 67; refine (placesT a2 n2 c2 k.tbs _ (HC.out.2.1.below (HB1.out.trans (HX2.out.mono HB1.out.size))) HTF.out H2.out (by omega)).mono ?_; rintro e w3 ⟨rfl, hm3, hb3⟩
      have HM3 := Hd hm3;have HX3 := Hd (HX2.out.trans (hb3.mono HX2.out.size));have HY3 := Hd hb3;have r0 := (HX3.out.cell (p := ⟨w.heap.size, 0, none⟩) hgw).trans k0;have r1 := (HX3.out.cell (p := ⟨w.heap.size, 1, none⟩) hgw).trans k1;have r2 := (HX3.out.cell (p := ⟨w.heap.size, 2, none⟩) hgw).trans k2;clear hm3 hb3)
   | (have := HX1; go_at_call 66; refine (placesA a1 n1 c1 k.ins _ (HC.out.1.below (HB1.out.trans (HX1.out.mono HB1.out.size))) HF1.out H1.out (by omega)).mono ?_; rintro e w2 ⟨rfl, hm2, hb2⟩
      have HM2 := Hd hm2;have HX2 := Hd (HX1.out.trans (hb2.mono HX1.out.size));have HY2 := Hd hb2;have r0 := (HX2.out.cell (p := ⟨w.heap.size, 0, none⟩) hgw).trans k0;have r1 := (HX2.out.cell (p := ⟨w.heap.size, 1, none⟩) hgw).trans k1;have r2 := (HX2.out.cell (p := ⟨w.heap.size, 2, none⟩) hgw).trans k2;clear hm2 hb2)
   | (go_at_call 64; refine (placesL a n cap l _ (HL.out.below HB1.out.drew) HLF.out HN.out hm).mono ?_; rintro e w1 ⟨rfl, hm1, hb1⟩
      have HM1 : Hid (MapIs w1 W.heap.size n (lastN (fun j => (lnth l j).name) n)) := Hd hm1;have HX1 := Hd (nfrom_drew hb1);have r0 := (HX1.out.cell (p := ⟨w.heap.size, 0, none⟩) hgw).trans k0;have r1 := (HX1.out.cell (p := ⟨w.heap.size, 1, none⟩) hgw).trans k1;have r2 := (HX1.out.cell (p := ⟨w.heap.size, 2, none⟩) hgw).trans k2;clear hm1 hb1))
 go_wp2_with fail
 refine bodyPost_ret (v := .agg #[.map (some W.heap.size), .map (some w1.heap.size), .map (some w2.heap.size), .map (some w3.heap.size)]) (by simp [results, Tryz.results24, go_sem, s0, s1, s2, s3] <;> rfl) rfl ?_;have q1 := HM1.out.lt;have q2 := HM2.out.lt;have q3 := HM3.out.lt;have hz := HSZ.out;have e1 := HN.out;have e2 := H1.out;have e3 := H2.out;have e4 := H3.out;subst e1 e2 e3 e4;have hx1 := HX1.out.size;refine ⟨_, _, _, _, rfl, by omega, q1, q2, q3, ⟨?_, ?_, ?_, ?_⟩, ?_⟩
 ·exact ((((((HM1.out.below HY2.out).below HY3.out).below HY4.out).set _ (by show _ ≠ w.heap.size + 1; omega)).set _ (by show _ ≠ w.heap.size + 1; omega)).set _ (by show _ ≠ w.heap.size + 1; omega)).set _ (by show _ ≠ w.heap.size + 1; omega)
 ·exact (((((HM2.out.below HY3.out).below HY4.out).set _ (by show _ ≠ w.heap.size + 1; omega)).set _ (by show _ ≠ w.heap.size + 1; omega)).set _ (by show _ ≠ w.heap.size + 1; omega)).set _ (by show _ ≠ w.heap.size + 1; omega)
 ·exact ((((HM3.out.below HY4.out).set _ (by show _ ≠ w.heap.size + 1; omega)).set _ (by show _ ≠ w.heap.size + 1; omega)).set _ (by show _ ≠ w.heap.size + 1; omega)).set _ (by show _ ≠ w.heap.size + 1; omega)
 ·exact (((HM4.out.set _ (by show _ ≠ w.heap.size + 1; have := HX3.out.size; omega)).set _ (by show _ ≠ w.heap.size + 1; have := HX3.out.size; omega)).set _ (by show _ ≠ w.heap.size + 1; have := HX3.out.size; omega)).set _ (by show _ ≠ w.heap.size + 1; have := HX3.out.size; omega)
 ·exact ((((HB1.out.trans (HX4.out.mono HB1.out.size)).setCell (by simp) _).setCell (by simp) _).setCell (by simp) _).setCell (by simp) _
def allN (f : Nat -> Bool) : Nat -> Bool
 | 0 => true
 | j + 1 => allN f j && f j
theorem allN_yes {f : Nat -> Bool} {j : Nat} (h : allN f j = true) : allN f (j + 1) = f j := by simp [allN, h]
theorem allN_no {f : Nat -> Bool} {m j : Nat} (hj : j < m) (he : f j = false) : allN f m = false := by
 induction m with
 | zero => omega
 | succ q ih =>
   by_cases e : j = q
   ·subst e; simp [allN, he]
   ·simp [allN, ih (by omega)]
def Ex.all (P : Int -> ByteArray -> Bool) : Ex -> Bool
 | .no => true
 | .mk k _ s m kid => P k s && allN (fun j => (kid j).all P) m
def knowB (gv gl gt : ByteArray -> Option Nat) (k : Int) (s : ByteArray) : Bool := if k = 2 then (gv s).isSome else if k = 3 then (gl s).isSome else if k = 5 then (gt s).isSome else true
def Sc (w : World) (sb bv bl bt nv nl nt : Nat) (gv gl gt : ByteArray -> Option Nat) : Prop := sb < w.heap.size /\ w.cell? ⟨sb, 0, none⟩ = some (.map (some bv)) /\ w.cell? ⟨sb, 1, none⟩ = some (.map (some bl)) /\ w.cell? ⟨sb, 2, none⟩ = some (.map (some bt)) /\ MapIs w bv nv gv /\ MapIs w bl nl gl /\ MapIs w bt nt gt
theorem Sc.below {w w' : World} {sb bv bl bt nv nl nt : Nat} {gv gl gt : ByteArray -> Option Nat} (h : Sc w sb bv bl bt nv nl nt gv gl gt) (hb : Below w.heap.size w w') : Sc w' sb bv bl bt nv nl nt gv gl gt :=
 ⟨Nat.lt_of_lt_of_le h.1 hb.size, (hb.cell (p := ⟨sb, 0, none⟩) h.1).trans h.2.1, (hb.cell (p := ⟨sb, 1, none⟩) h.1).trans h.2.2.1, (hb.cell (p := ⟨sb, 2, none⟩) h.1).trans h.2.2.2.1, h.2.2.2.2.1.below hb, h.2.2.2.2.2.1.below hb, h.2.2.2.2.2.2.below hb⟩
theorem knows1_any (k n : Int) (s : ByteArray) (a : Option Addr) (m c sb bv bl bt nv nl nt : Nat) (gv gl gt : ByteArray -> Option Nat) (w : World) (hs : s.size <= maxLen) (hsc : Sc w sb bv bl bt nv nl nt gv gl gt) :
 Calls Tryz.prog 110 #[.agg #[.int .i64 k, .int .i64 n, .string s, .slice a m c], .pointer (some ⟨sb, 0, none⟩)] w fun e w' => e = .returned (.bool (knowB gv gl gt k s)) /\ Below w.heap.size w w' := by
 have HB0 := Hd (kbelow_box w (.cells #[.int .i64 k, .int .i64 n, .string s, .slice a m c] 50));obtain ⟨_, y0, y1, y2, m0, m1, m2⟩ := hsc.below HB0.out;have hkey := key_of hs;clear hsc
 by_cases hk : k = 2
 ·subst hk;have HR : Hid (knowB gv gl gt 2 s = (gv s).isSome) := rfl;obtain ⟨D, hown, hD⟩ := m0;have hD1 := (hD s).1;have HD1 := Hd hD1;clear hD hD1
  go_enter Tryz.func110, Tryz.ntmps110
  go_wp2_with (first
   | (at_lookup; refine wpList_lookup_own_ok_int _ rfl _ _ 57 rfl 9 3 .i64 strLaw Tryz.underlying57 Tryz.underlying3 (zeroInt _) _ _ _ rfl hown _ _ rfl hkey ?_; intro c0 hat hwc))
  go_ret;exact ⟨kret_bool (by rw [HR.out, <- HD1.out]), HB0.out⟩
 ·have hkB : decide (k = 2) = false := dEf hk;have hkE : (k == 2) = false := by simpa using hk
  have HK2 := Hd hk;clear hk
  by_cases hk : k = 3
  ·subst hk;have HR : Hid (knowB gv gl gt 3 s = (gl s).isSome) := rfl;obtain ⟨D, hown, hD⟩ := m1;have hD1 := (hD s).1;have HD1 := Hd hD1;clear hD hD1
   go_enter Tryz.func110, Tryz.ntmps110
   go_wp2_with (first
    | (at_lookup; refine wpList_lookup_own_ok_int _ rfl _ _ 57 rfl 9 3 .i64 strLaw Tryz.underlying57 Tryz.underlying3 (zeroInt _) _ _ _ rfl hown _ _ rfl hkey ?_; intro c0 hat hwc))
   go_ret;exact ⟨kret_bool (by rw [HR.out, <- HD1.out]), HB0.out⟩
  ·have hk3B : decide (k = 3) = false := dEf hk;have hk3E : (k == 3) = false := by simpa using hk
   have HK3 := Hd hk;clear hk
   by_cases hk : k = 5
   ·subst hk;have HR : Hid (knowB gv gl gt 5 s = (gt s).isSome) := rfl;obtain ⟨D, hown, hD⟩ := m2;have hD1 := (hD s).1;have HD1 := Hd hD1;clear hD hD1
    go_enter Tryz.func110, Tryz.ntmps110
    go_wp2_with (first
     | (at_lookup; refine wpList_lookup_own_ok_int _ rfl _ _ 57 rfl 9 3 .i64 strLaw Tryz.underlying57 Tryz.underlying3 (zeroInt _) _ _ _ rfl hown _ _ rfl hkey ?_; intro c0 hat hwc))
    go_ret;exact ⟨kret_bool (by rw [HR.out, <- HD1.out]), HB0.out⟩
   ·have hk5B : decide (k = 5) = false := dEf hk;have hk5E : (k == 5) = false := by simpa using hk
    have HR : Hid (knowB gv gl gt k s = true) := by unfold Hid knowB; rw [if_neg HK2.out, if_neg HK3.out, if_neg hk]
    go_enter Tryz.func110, Tryz.ntmps110
    go_wp2_with fail
    go_ret;exact ⟨kret_bool HR.out.symm, HB0.out⟩
theorem all_mk (P : Int -> ByteArray -> Bool) (k n : Int) (s : ByteArray) (m : Nat) (kid : Nat -> Ex) : (Ex.mk k n s m kid).all P = (P k s && allN (fun j => (kid j).all P) m) := by rw [Ex.all]
theorem every_knows (x : Ex) : ∀ (a : Option Addr) (c sb bv bl bt nv nl nt : Nat) (gv gl gt : ByteArray -> Option Nat) (w : World), Sc w sb bv bl bt nv nl nt gv gl gt -> KidsAt w x a →
 Calls Tryz.prog 109 #[.agg #[.int .i64 x.k, .int .i64 x.n, .string x.s, .slice a x.m c], .func (.func 110) #[] #[.pointer (some ⟨sb, 0, none⟩)]] w fun e w' => e = .returned (.bool (x.all (knowB gv gl gt))) /\ Below w.heap.size w w' := by
 induction x with
 | no => intro a c sb bv bl bt nv nl nt gv gl gt w _ h; exact h.elim
 | mk k n s m kid ih =>
   intro a c sb bv bl bt nv nl nt gv gl gt w hsc hk
   show Calls Tryz.prog 109 #[.agg #[.int .i64 k, .int .i64 n, .string s, .slice a m c], .func (.func 110) #[] #[.pointer (some ⟨sb, 0, none⟩)]] w _
   have hm : m <= 9223372036854775807 := by have := hk.many; unfold maxLen at this; exact this
   have HSZ : Hid (s.size <= maxLen) := Hd hk.name;have HK := Hd hk;have HSC := Hd hsc;have HB0 := Hd (kbelow_box w (.cells #[.int .i64 k, .int .i64 n, .string s, .slice a m c] 50));have HX0 := Hd (XBox.made w k n s a m c 50);have HM := Hd (all_mk (knowB gv gl gt) k n s m kid);have HIH := Hd ih;clear hk ih hsc;generalize (Ex.mk k n s m kid).all (knowB gv gl gt) = z at *
   go_enter Tryz.func109, Tryz.ntmps109
   go_wp2_with fail
   refine (knows1_any k n s a m c sb bv bl bt nv nl nt gv gl gt _ HSZ.out (HSC.out.below HB0.out)).mono ?_;rintro e w1 ⟨rfl, hb1⟩;have HB1 := Hd (HB0.out.trans (hb1.mono HB0.out.size));obtain ⟨_, y0, y1, y2, y3⟩ := HX0.out.below hb1;clear hb1 HX0 HB0
   cases hp : knowB gv gl gt k s
   ·have HR : Hid (z = false) := by unfold Hid; rw [HM.out, hp]; rfl
    go_wp2_with fail
    go_ret;exact ⟨kret_bool HR.out.symm, HB1.out⟩
   ·have HZ : Hid (z = allN (fun j => (kid j).all (knowB gv gl gt)) m) := by unfold Hid; rw [HM.out, hp]; rfl
    clear HM;go_wp2_with fail
    go_loopw [14] (fun i wr => ∃ j : Nat, j <= m /\ i = .int .i64 j /\ allN (fun j => (kid j).all (knowB gv gl gt)) j = true /\ Below w.heap.size w wr) (fun i _ => m - (intOf i).toNat)
    case atStart => exact ⟨0, Nat.zero_le _, rfl, rfl, HB1.out⟩
    case round =>
     obtain ⟨j, hj, rfl, hf, hb⟩ := hrel;have HF := Hd hf;have HB := Hd hb;clear hf hb
     by_cases hlt : j < m
     ·have hlt' : (j : Int) < (m : Int) := by omega
      obtain ⟨b, off, rfl, hcell⟩ := HK.out.open (show 0 < m by omega);obtain ⟨aj, cj, ⟨x0, x1, x2, x3⟩, hkj⟩ := hcell wr HB.out j hlt;have HKJ := Hd hkj;clear hcell hkj;have x0' : wr.cell? ⟨b, off + j * 4, none⟩ = some (.int .i64 (kid j).k) := x0;have x1' : wr.cell? ⟨b, off + j * 4 + 1, none⟩ = some (.int .i64 (kid j).n) := x1;have x2' : wr.cell? ⟨b, off + j * 4 + 2, none⟩ = some (.string (kid j).s) := x2;have x3' : wr.cell? ⟨b, off + j * 4 + 3, none⟩ = some (.slice aj (kid j).m cj) := x3;clear x0 x1 x2 x3;have HBJ := Hd (kbelow_box wr (.cells #[.int .i64 (kid j).k, .int .i64 (kid j).n, .string (kid j).s, .slice aj (kid j).m cj] 50));go_wp2_with fail
      refine (HIH.out j aj cj sb bv bl bt nv nl nt gv gl gt _ ((HSC.out.below HB.out).below HBJ.out) (HKJ.out.below HBJ.out)).mono ?_;rintro e w9 ⟨rfl, hb9⟩;have HB9 := Hd (HB.out.trans ((HBJ.out.trans (hb9.mono HBJ.out.size)).mono HB.out.size));clear hb9 x0' x1' x2' x3'
      cases hz : (kid j).all (knowB gv gl gt)
      ·have HR : Hid (z = false) := by unfold Hid; rw [HZ.out, allN_no (f := fun j => (kid j).all (knowB gv gl gt)) hlt hz]
       go_wp2_with fail
       go_ret;exact ⟨kret_bool HR.out.symm, HB9.out⟩
      ·have HF1 : Hid (allN (fun j => (kid j).all (knowB gv gl gt)) (j + 1) = true) := by unfold Hid; rw [allN_yes HF.out]; exact hz
       go_wp2_with fail
       go_roundw
       case rel => exact ⟨j + 1, by omega, by go_num, HF1.out, HB9.out⟩
       case measure => simp [intOf]; omega
     ·have hjm : j = m := by omega
      subst hjm;have HR : Hid (z = true) := by unfold Hid; rw [HZ.out, HF.out]
      go_wp2_with fail
      go_ret;exact ⟨kret_bool HR.out.symm, HB.out⟩
theorem knows_any (x : Ex) (a : Option Addr) (c bv bl bt nv nl nt : Nat) (gv gl gt : ByteArray -> Option Nat) (w : World) (hv : MapIs w bv nv gv) (hl : MapIs w bl nl gl) (ht : MapIs w bt nt gt) (hk : KidsAt w x a) :
 Calls Tryz.prog 62 #[.agg #[.map (some bv), .map (some bl), .map (some bt)], .agg #[.int .i64 x.k, .int .i64 x.n, .string x.s, .slice a x.m c]] w fun e w' => e = .returned (.bool (x.all (knowB gv gl gt))) /\ Below w.heap.size w w' := by
 have HB0 := Hd (kbelow_box w (.cells #[.map (some bv), .map (some bl), .map (some bt)] 128));have HSC0 : Hid (Sc (w.alloc (.cells #[.map (some bv), .map (some bl), .map (some bt)] 128)) w.heap.size bv bl bt nv nl nt gv gl gt) := by
  refine ⟨?_, ?_, ?_, ?_, hv.below HB0.out, hl.below HB0.out, ht.below HB0.out⟩ <;> simp
 have HB1 := Hd (HB0.out.alloc HB0.out.size (.cells #[.int .i64 x.k, .int .i64 x.n, .string x.s, .slice a x.m c] 50));have HSC1 := Hd (HSC0.out.below (kbelow_box _ (.cells #[.int .i64 x.k, .int .i64 x.n, .string x.s, .slice a x.m c] 50)));have HK := Hd hk;clear hv hl ht hk HSC0
 go_enter Tryz.func62, Tryz.ntmps62
 go_wp2_with fail
 refine (every_knows x a c w.heap.size bv bl bt nv nl nt gv gl gt _ HSC1.out (HK.out.below HB1.out)).mono ?_;rintro e w1 ⟨rfl, hb1⟩;have HB2 := Hd (HB1.out.trans (hb1.mono HB1.out.size));clear hb1;go_wp2_with fail
 go_ret;exact ⟨rfl, HB2.out⟩
def valsK (l : List Ln) (k : Kn) (j : Nat) (s : ByteArray) : Option Nat := match lastN (fun j => (lnth l j).name) j s with | some v => some v | none => lastN (fun j => (anth k.ins j).name) k.ins.length s
def linesG (l : List Ln) : ByteArray -> Option Nat := lastN (fun j => (lnth l j).name) l.length
def tabsG (k : Kn) : ByteArray -> Option Nat := lastN (fun j => (tnth k.tbs j).name) k.tbs.length
def lineOk (l : List Ln) (k : Kn) (j : Nat) : Int := if (valsK l k j (lnth l j).name).isSome = true then 6 else if (lnth l j).ex.all (knowB (valsK l k j) (linesG l) (tabsG k)) = true then 0 else 5
def BindIs (l : List Ln) (k : Kn) (i e : Int) : Prop :=
 (linesE l ≠ 0 /\ i = 0 /\ e = linesE l) \/ (linesE l = 0 /\ knE k ≠ 0 /\ i = 0 /\ e = knE k) \/ (linesE l = 0 /\ knE k = 0 /\ ((i = 0 /\ e = 0 /\ ∀ j, j < l.length -> lineOk l k j = 0) \/ ∃ j : Nat, j < l.length /\ i = j /\ e = lineOk l k j /\ e ≠ 0 /\ ∀ q, q < j -> lineOk l k q = 0))
theorem valsK_succ (l : List Ln) (k : Kn) (j : Nat) : (fun s : ByteArray => if (lnth l j).name.data = s.data then some j else valsK l k j s) = valsK l k (j + 1) := by
 funext s
 unfold valsK;simp only [lastN]
 split <;> simp_all
def BindRet (w : World) (l : List Ln) (k : Kn) (e : Ending) (w' : World) : Prop := ∃ i er : Int, e = .returned (.tuple #[.int .i64 i, .int .i64 er]) /\ BindIs l k i er /\ Below w.heap.size w w'
theorem LBox.name (w : World) (v0 v1 v2 v3 v4 v5 : Value) (T : TypeId) : (w.alloc (.cells #[v0, v1, v2, v3, v4, v5] T)).cell? ⟨w.heap.size, 1, none⟩ = some v1 := by simp
theorem MapIs.kept {w w' : World} {b n c : Nat} {g : ByteArray -> Option Nat} (h : MapIs w b n g) (hg : w.grownBy w' (some c)) (hne : b ≠ c) : MapIs w' b n g := by
 obtain ⟨D, h1, h2⟩ := h;exact ⟨D, h1.kept hg (by intro e; injection e with e; exact hne e), h2⟩
theorem linesE_40 {l : List Ln} (h : linesE l = 0) : l.length <= 40 := by
 unfold linesE at h
 by_cases c : 40 < l.length \/ ¬ (sumP l l.length <= 4000 /\ maxD l l.length <= 20)
 ·rw [if_pos c] at h; cases h
 ·omega
theorem knE_30 {k : Kn} (h : knE k = 0) : k.ins.length <= 30 /\ k.tbs.length <= 30 /\ k.yrs.length <= 30 := by
 unfold knE at h
 by_cases c : 30 < k.ins.length \/ 30 < k.tbs.length \/ 30 < k.yrs.length
 ·rw [if_pos c] at h; cases h
 ·omega
theorem Lines_any (a : Option Addr) (n cap : Nat) (l : List Ln) (a1 a2 a3 : Option Addr) (n1 n2 n3 c1 c2 c3 : Nat) (k : Kn) (w : World) (hS : Shp w) (hl : CameL w a l) (hn : l.length = n) (hm : n <= maxLen) (hc : CameK w a1 a2 a3 k) (h1 : k.ins.length = n1) (h2 : k.tbs.length = n2) (h3 : k.yrs.length = n3) :
 Calls Tryz.prog 23 #[.slice a n cap, .agg #[.slice a1 n1 c1, .slice a2 n2 c2, .slice a3 n3 c3]] w fun e w' => BindRet w l k e w' := by
 have hm' : n <= 9223372036854775807 := by unfold maxLen at hm; omega
 have HM := Hd hm;have HL := Hd hl;have HN := Hd hn;have HC := Hd hc;have HS := Hd hS;have H1 := Hd h1;have H2 := Hd h2;have H3 := Hd h3;clear hl hn hc h1 h2 h3 hm hS;have HB0 := Hd (kbelow_box w (.cells #[.slice a1 n1 c1, .slice a2 n2 c2, .slice a3 n3 c3] 26));have HK0 := Hd (KAt.made w (.slice a1 n1 c1) (.slice a2 n2 c2) (.slice a3 n3 c3) 26)
 go_enter Tryz.func23, Tryz.ntmps23
 go_wp2_with fail
 refine (check_lines a n cap l _ (HS.out.below HB0.out) (HL.out.below HB0.out) HN.out HM.out).mono ?_;rintro e w1 ⟨rfl, hb1⟩;have HB1 := Hd (HB0.out.trans (hb1.mono HB0.out.size));have HK1 := Hd (KAt.below HK0.out hb1);clear hb1 HK0 HB0;obtain ⟨_, x0, x1, x2⟩ := HK1.out
 by_cases z1 : linesE l = 0
 ·have HZ1 := Hd z1;rw [z1];clear z1;go_wp2_with fail
  refine (Known_any a1 a2 a3 n1 n2 n3 c1 c2 c3 k _ (HC.out.below HB1.out) H1.out H2.out H3.out).mono ?_;rintro e w2 ⟨rfl, hb2⟩;have HB2 := Hd (HB1.out.trans (hb2.mono HB1.out.size));have HK2 := Hd (KAt.below HK1.out hb2);clear hb2 HK1 HB1 x0 x1 x2;obtain ⟨_, x0, x1, x2⟩ := HK2.out
  by_cases z2 : knE k = 0
  ·have HZ2 := Hd z2;rw [z2];clear z2;have h40 : n <= 40 := by have := linesE_40 HZ1.out; have := HN.out; omega
   have HLF : Hid (∀ j, j < n -> (lnth l j).name.size <= maxLen) := fun j hj => by
    obtain ⟨_, _, _, h⟩ := HL.out.open HN.out (by omega);obtain ⟨_, _, _, h, _⟩ := h w (Below.refl _ _) j hj;exact h
   have HTF : Hid (∀ j, j < n2 -> (tnth k.tbs j).name.size <= maxLen) := fun j hj => by
    obtain ⟨_, _, _, h⟩ := HC.out.2.1.open H2.out (by omega);obtain ⟨_, _, _, _, _, h, _⟩ := h w (Below.refl _ _) j hj;exact h
   have h30 := knE_30 HZ2.out;have e1 := H1.out;have e2 := H2.out;have e3 := H3.out;go_wp2_with fail
   refine (meantIn_any a n cap l a1 a2 a3 n1 n2 n3 c1 c2 c3 k _ (HL.out.below HB2.out) HN.out h40 HLF.out (HC.out.below HB2.out) HTF.out H1.out H2.out H3.out (by omega) (by omega) (by omega)).mono ?_;rintro e w3 ⟨b1, b2, b3, b4, rfl, hb1, hb12, hb23, hb34, hmt, hb3⟩;have HB3 := Hd (HB2.out.trans (hb3.mono HB2.out.size));have HMT := Hd hmt;have hbw : w.heap.size <= b1 := Nat.le_trans HB2.out.size hb1;clear hb3 hmt HK2 HTF h30 e1 e2 e3 x0 x1 x2;go_wp2_with fail
   have HSC0 : Hid (Sc ((w3.alloc (.cells #[.map (some b1), .map (some b2), .map (some b3), .map (some b4)] 59)).alloc (.cells #[.map (some b2), .map (some b1), .map (some b3)] 128)) (w3.heap.size + 1) b2 b1 b3 (k.ins.length + 0) l.length k.tbs.length (valsK l k 0) (linesG l) (tabsG k)) := by
    have q1 := kbelow_box w3 (.cells #[.map (some b1), .map (some b2), .map (some b3), .map (some b4)] 59);have q2 := kbelow_box (w3.alloc (.cells #[.map (some b1), .map (some b2), .map (some b3), .map (some b4)] 59)) (.cells #[.map (some b2), .map (some b1), .map (some b3)] 128);refine ⟨?_, ?_, ?_, ?_, (HMT.out.2.1.below q1).below q2, (HMT.out.1.below q1).below q2, (HMT.out.2.2.1.below q1).below q2⟩ <;> simp
   have HB4 := Hd ((HB3.out.alloc HB3.out.size (.cells #[.map (some b1), .map (some b2), .map (some b3), .map (some b4)] 59)).alloc (HB3.out.alloc HB3.out.size (.cells #[.map (some b1), .map (some b2), .map (some b3), .map (some b4)] 59)).size (.cells #[.map (some b2), .map (some b1), .map (some b3)] 128));have hsb : b2 ≠ w3.heap.size + 1 := by have := HMT.out.2.1.lt; omega
   have HO := Hd (fun h0 => HL.out.open HN.out h0);have hins : k.ins.length <= 30 := (knE_30 HZ2.out).1;clear HMT HB3;generalize w3.heap.size + 1 = sb at *
   go_loopw [36] (fun i wr => ∃ j : Nat, j <= n /\ i = .int .i64 j /\ (∀ q, q < j -> lineOk l k q = 0) /\ Sc wr sb b2 b1 b3 (k.ins.length + j) l.length k.tbs.length (valsK l k j) (linesG l) (tabsG k) /\ Below w.heap.size w wr) (fun i _ => n - (intOf i).toNat)
   case atStart => exact ⟨0, Nat.zero_le _, rfl, fun q hq => by omega, HSC0.out, HB4.out⟩
   case round =>
    clear HSC0 HB4;obtain ⟨j, hj, rfl, hall, hsc, hb⟩ := hrel;have HA := Hd hall;have HSC := Hd hsc;have HB := Hd hb;clear hall hsc hb
    by_cases hlt : j < n
    ·have hlt' : (j : Int) < (n : Int) := by omega
     have HJ : Hid (j < l.length) := by have := HN.out; unfold Hid; omega
     obtain ⟨b, off, rfl, hcell⟩ := HO.out (by omega);obtain ⟨aj, cj, ⟨x0, x1, x2, x3, x4, x5⟩, hns, hkj⟩ := hcell wr HB.out j hlt;have HKJ := Hd hkj;clear hcell hkj hns;have HBJ := Hd (kbelow_box wr (.cells #[.int .i64 (lnth l j).kind, .string (lnth l j).name, .int .i64 (lnth l j).ex.k, .int .i64 (lnth l j).ex.n, .string (lnth l j).ex.s, .slice aj (lnth l j).ex.m cj] 52));have HLB := Hd (LBox.made wr (.int .i64 (lnth l j).kind) (.string (lnth l j).name) (.int .i64 (lnth l j).ex.k) (.int .i64 (lnth l j).ex.n) (.string (lnth l j).ex.s) (.slice aj (lnth l j).ex.m cj) 52);have HLN := Hd (LBox.name wr (.int .i64 (lnth l j).kind) (.string (lnth l j).name) (.int .i64 (lnth l j).ex.k) (.int .i64 (lnth l j).ex.n) (.string (lnth l j).ex.s) (.slice aj (lnth l j).ex.m cj) 52);have HSC1 := Hd (HSC.out.below HBJ.out);obtain ⟨_, y0, y1, y2, ⟨D, hown, hD⟩, _, _⟩ := HSC1.out;have HD := Hd (hD (lnth l j).name).1;have hkey := key_of (HLF.out j hlt);clear hD
     cases hv : (valsK l k j (lnth l j).name).isSome
     ·have hhas : Maps.has D (.string (lnth l j).name.data.toList) = false := by rw [HD.out, hv]
      go_wp2_with (first
       | (at_lookup; refine wpList_lookup_own_ok_int _ rfl _ _ 57 rfl 9 3 .i64 strLaw Tryz.underlying57 Tryz.underlying3 (zeroInt _) _ _ _ rfl hown _ _ rfl hkey ?_; intro c0 hat hwc; rw [hhas]))
      refine (knows_any (lnth l j).ex aj cj b2 b1 b3 _ _ _ _ _ _ _ HSC1.out.2.2.2.2.1 HSC1.out.2.2.2.2.2.1 HSC1.out.2.2.2.2.2.2 (HKJ.out.below HBJ.out)).mono ?_;rintro e w9 ⟨rfl, hb9⟩;have HB9 := Hd (HB.out.trans ((HBJ.out.trans (hb9.mono HBJ.out.size)).mono HB.out.size));have HSC9 := Hd (HSC1.out.below hb9);have u1 := (hb9.cell (p := ⟨wr.heap.size, 1, none⟩) HLB.out.1).trans HLN.out;clear hb9 x0 x1 x2 x3 x4 x5 y0 y1 y2 hown hat hwc hhas HD
      cases hkn : (lnth l j).ex.all (knowB (valsK l k j) (linesG l) (tabsG k))
      ·have HR : Hid (BindIs l k j 5) := by
        have ho : lineOk l k j = 5 := by unfold lineOk; rw [hv, hkn]; rfl
        exact .inr (.inr ⟨HZ1.out, HZ2.out, .inr ⟨j, HJ.out, rfl, ho.symm, by omega, HA.out⟩⟩)
       go_wp2_with fail
       go_ret2
       exact ⟨_, _, rfl, HR.out, HB9.out⟩
      ·have HA1 : Hid (∀ q, q < j + 1 -> lineOk l k q = 0) := fun q hq => by
        by_cases e : q = j
        ·subst e; unfold lineOk; rw [hv, hkn]; rfl
        ·exact HA.out q (by omega)
       obtain ⟨hs9, y0, y1, y2, ⟨D9, hown9, hD9⟩, m1, m2⟩ := HSC9.out;have HD9 := Hd hD9;have HM1 := Hd m1;have HM2 := Hd m2;clear hD9 m1 m2 hkn hv
       go_wp2_with (first
        | (at_mapUpdate; refine wpList_mapUpdate_own _ rfl _ _ _ 57 rfl 9 3 strLaw Tryz.underlying57 (plainElem (H := Unit) Tryz.prog 3) b2 (k.ins.length + j) _ rfl hown9 (by unfold maxLen; omega) _ _ _ rfl rfl hkey (.lit (.int .i64 (j : Int))) [] (plainElem_int Tryz.underlying3 (WalkArith.wf_i64 (by omega))) ?_; intro w2' hown2 hgrow2))
       go_roundw
       case rel =>
        refine ⟨j + 1, by omega, by go_num, HA1.out, ⟨Nat.lt_of_lt_of_le hs9 hgrow2.size, ?_, ?_, ?_, ⟨_, hown2, ?_⟩, HM1.out.kept hgrow2 (by omega), HM2.out.kept hgrow2 (by omega)⟩, HB9.out.grown hgrow2 HB9.out.size (fun q hq => by cases hq; omega)⟩
        ·rw [World.cell?_of_block (w := w9) (hgrow2.block sb hs9 (by intro h; injection h with h; exact hsb h.symm))]; exact y0
        ·rw [World.cell?_of_block (w := w9) (hgrow2.block sb hs9 (by intro h; injection h with h; exact hsb h.symm))]; exact y1
        ·rw [World.cell?_of_block (w := w9) (hgrow2.block sb hs9 (by intro h; injection h with h; exact hsb h.symm))]; exact y2
        ·rw [<- valsK_succ]; exact map_put hown9.isMap HD9.out
       case measure => simp [intOf]; omega
     ·have hhas : Maps.has D (.string (lnth l j).name.data.toList) = true := by rw [HD.out, hv]
      have HR : Hid (BindIs l k j 6) := by
       have ho : lineOk l k j = 6 := by unfold lineOk; rw [hv]; rfl
       exact .inr (.inr ⟨HZ1.out, HZ2.out, .inr ⟨j, HJ.out, rfl, ho.symm, by omega, HA.out⟩⟩)
      have HBR := Hd (HB.out.trans (HBJ.out.mono HB.out.size))
      go_wp2_with (first
       | (at_lookup; refine wpList_lookup_own_ok_int _ rfl _ _ 57 rfl 9 3 .i64 strLaw Tryz.underlying57 Tryz.underlying3 (zeroInt _) _ _ _ rfl hown _ _ rfl hkey ?_; intro c0 hat hwc; rw [hhas]))
      go_ret2
      exact ⟨_, _, rfl, HR.out, HBR.out⟩
    ·have hjn : j = n := by omega
     have HR : Hid (BindIs l k 0 0) := .inr (.inr ⟨HZ1.out, HZ2.out, .inl ⟨rfl, rfl, fun q hq => HA.out q (by have := HN.out; omega)⟩⟩);subst hjn;go_wp2_with fail
     go_ret2
     exact ⟨_, _, rfl, HR.out, HB.out⟩
  ·have z2B : decide (knE k = 0) = false := dEf z2;have z2N : (knE k != 0) = true := by simpa using z2
   have HR : Hid (BindIs l k 0 (knE k)) := .inr (.inl ⟨HZ1.out, z2, rfl, rfl⟩);generalize knE k = z at *;go_wp2_with fail
   go_ret2
   exact ⟨_, _, rfl, HR.out, HB2.out⟩
 ·have z1B : decide (linesE l = 0) = false := dEf z1;have z1N : (linesE l != 0) = true := by simpa using z1
  have HR : Hid (BindIs l k 0 (linesE l)) := .inl ⟨z1, rfl, rfl⟩;generalize linesE l = z at *;go_wp2_with fail
  go_ret2
  exact ⟨_, _, rfl, HR.out, HB1.out⟩
end Go.Proofs.YtmlpedgcpffpnaaGreatDoor
