/-
  Promise H2: where things stand by their names: maps of names to places, and the walks of Places.
  Promise H2: what names mean: the walk of MeantIn.
  Promise H2: do all names in an expression mean something? The walks of knows and every.
  Promise H2: which line is wrong first: the walk of Lines.
  Promise H2: the walks of the reference's LineAt, AmountAt and TableAt.
  Promise H2: the reference's LineAt and AmountAt only read.
  Promise H2: the walk of the reference's means, over whatever expression.
  Promise H2: the walk of the reference's BindLines; there is one answer.
-/
import Derived.Test.YtkalfdjmklakdaaGreatDoorKB
import Derived.Maps.OwnSet
import Derived.StringKeys
import Derived.Deep.RegionHeld3
import Derived.Test.YtkalfdjmklakdaaGreatDoorKC
import Derived.Test.YtkalfdjmklakdaaGreatDoorKD
import Derived.Lib.QuietBelow
namespace Go.Proofs.YtkalfdjmklakdaaGreatDoor
open Go.RowKit Go.Maps Go.WideMaps
theorem strLaw : Keyed Tryz.prog 9 := string_keyed Tryz.underlying9
theorem zeroInt (w : World) : (zeroValue 3).run Tryz.prog w = .ok (.int .i64 0) w := by kernel_rfl
theorem make_map (k : Int) (w : World) : (Instr.makeMap 216 (some (.int .i64 k))).run Tryz.prog w = .ok (.map (some w.heap.size)) (w.alloc (.map #[] 0)) := by
 simp [Instr.makeMap, run_underlying Tryz.underlying216, asInt, asIntOf, Result.andThen]
def MapIs (w : World) (b n : Nat) (g : ByteArray → Option Nat) : Prop := ∃ D : DataW Unit, w.ownsMap Tryz.prog 9 (plainElem (H := Unit) Tryz.prog 3) b n D ∧ ∀ s : ByteArray, Maps.has D (.string s.data.toList) = (g s).isSome ∧ D.atKey (.string s.data.toList) (.lit (.int .i64 0)) = .lit (.int .i64 (((g s).getD 0 : Nat) : Int))
theorem MapIs.lt {w : World} {b n : Nat} {g : ByteArray → Option Nat} (h : MapIs w b n g) : b < w.heap.size := by
 obtain ⟨D, ⟨es, clock, hb, _⟩, _⟩ := h
 by_cases hlt : b < w.heap.size
 ·exact hlt
 ·rw [Array.getElem?_eq_none (by omega)] at hb
  cases hb
theorem MapIs.below {w w' : World} {b n : Nat} {g : ByteArray → Option Nat} (h : MapIs w b n g) (hb : Below w.heap.size w w') : MapIs w' b n g := by
 have hlt := h.lt
 obtain ⟨D, ⟨es, clock, hbk, h3⟩, h2⟩ := h
 exact ⟨D, ⟨es, clock, by rw [hb.block b hlt]; exact hbk, h3⟩, h2⟩
def lastN (f : Nat → ByteArray) : Nat → ByteArray → Option Nat
 | 0, _ => none
 | k + 1, s => if (f k).data = s.data then some k else lastN f k s
theorem key_of {s : ByteArray} (h : s.size ≤ maxLen) : keyOf Tryz.prog 9 (.string s) = some (.string s.data.toList) := keyOf_string_mk Tryz.underlying9 h
theorem map_put {D : DataW Unit} {g : ByteArray → Option Nat} {nm : ByteArray} {v : Nat} (hm : IsMap D) (h : ∀ s : ByteArray, Maps.has D (.string s.data.toList) = (g s).isSome ∧ D.atKey (.string s.data.toList) (.lit (.int .i64 0)) = .lit (.int .i64 (((g s).getD 0 : Nat) : Int))) (s : ByteArray) :
 Maps.has (D.put (.string nm.data.toList) (.lit (.int .i64 v))) (.string s.data.toList) = (if nm.data = s.data then some v else g s).isSome ∧ (D.put (.string nm.data.toList) (.lit (.int .i64 v))).atKey (.string s.data.toList) (.lit (.int .i64 0)) = .lit (.int .i64 (((if nm.data = s.data then some v else g s).getD 0 : Nat) : Int)) := by
 by_cases e : nm.data = s.data
 ·rw [if_pos e, ← e]
  exact ⟨has_put_same hm (show WideAt.IsKeyLit (.string nm.data.toList) from trivial) _, atKey_put_same hm (show WideAt.IsKeyLit (.string nm.data.toList) from trivial) _ _⟩
 ·rw [if_neg e, has_put_other (by intro q; injection q with q; exact e (Array.toList_inj.1 q.symm)), atKey_put_other (by intro q; injection q with q; exact e (Array.toList_inj.1 q.symm))]
  exact h s
set_option maxHeartbeats 1000000 in
theorem meantA_any (s : ByteArray) (m : Int) (w : World) : Calls Tryz.prog 227 #[.agg #[.string s, .int .i64 m]] w fun e w' => e = .returned (.string s) ∧ Below w.heap.size w w' := by
 go_enter Tryz.func227, Tryz.ntmps227
 go_wp2_with fail
 go_ret
 exact ⟨rfl, kbelow_box _ _⟩
set_option maxHeartbeats 1000000 in
theorem meantL_any (k : Int) (s : ByteArray) (k2 n2 : Int) (s2 : ByteArray) (a : Option Addr) (m c : Nat) (w : World) : Calls Tryz.prog 229 #[.agg #[.int .i64 k, .string s, .int .i64 k2, .int .i64 n2, .string s2, .slice a m c]] w fun e w' => e = .returned (.string s) ∧ Below w.heap.size w w' := by
 go_enter Tryz.func229, Tryz.ntmps229
 go_wp2_with fail
 go_ret
 exact ⟨rfl, kbelow_box _ _⟩
set_option maxHeartbeats 1000000 in
theorem meantT_any (s : ByteArray) (a : Option Addr) (n c : Nat) (w : World) : Calls Tryz.prog 232 #[.agg #[.string s, .slice a n c]] w fun e w' => e = .returned (.string s) ∧ Below w.heap.size w w' := by
 go_enter Tryz.func232, Tryz.ntmps232
 go_wp2_with fail
 go_ret
 exact ⟨rfl, kbelow_box _ _⟩
set_option maxRecDepth 100000 in
set_option maxHeartbeats 2000000 in
theorem placesA (a : Option Addr) (n cap : Nat) (l : List Am) (w : World) (hc : CameA w a l) (hfit : ∀ j, j < n → (anth l j).name.size ≤ maxLen) (hn : l.length = n) (hm : n ≤ 40) :
 Calls Tryz.prog 230 #[.slice a n cap, .func (.func 227) #[] #[]] w fun e w' => e = .returned (.map (some w.heap.size)) ∧ MapIs w' w.heap.size n (lastN (fun j => (anth l j).name) n) ∧ Below w.heap.size w w' := by
 have HO := Lib.hid (fun h0 => hc.open hn h0)
 have HFIT := Lib.hid hfit
 have hmm := make_map
 clear hc hfit
 go_enter Tryz.func230, Tryz.ntmps230
 go_wp2_with fail
 go_loopw [13] (fun i wr => ∃ k : Nat, k ≤ n ∧ i = .int .i64 k ∧ MapIs wr w.heap.size k (lastN (fun j => (anth l j).name) k) ∧ Below w.heap.size w wr) (fun i _ => n - (intOf i).toNat)
 case atStart => exact ⟨0, Nat.zero_le _, rfl, ⟨.map [], World.ownsMap_made _ _ _ _, fun s => ⟨by simp [Maps.has, lastN], by simp [lastN, DataW.atKey]⟩⟩, (Below.refl _ _).alloc (Nat.le_refl _) _⟩
 case round =>
  obtain ⟨k, hk, rfl, hmap, hnx⟩ := hrel
  have HMAP := Lib.hid hmap
  have HN := Lib.hid hnx
  clear hmap hnx
  by_cases hlt : k < n
  ·have hlt' : (k : Int) < (n : Int) := by omega
   obtain ⟨b, off, rfl, hcell⟩ := HO.out (by omega)
   obtain ⟨x0, x1⟩ := hcell wr HN.out k hlt
   clear hcell
   have HBJ := Lib.hid (kbelow_box wr (.cells #[.string (anth l k).name, .int .i64 (anth l k).mon] 87))
   go_wp2_with fail
   refine (meantA_any _ _ _).mono ?_
   rintro e w1 ⟨rfl, hb1⟩
   have HB1 := Lib.hid (HN.out.trans ((HBJ.out.trans (hb1.mono HBJ.out.size)).mono HN.out.size))
   obtain ⟨D, hown, hD⟩ := (HMAP.out.below HBJ.out).below hb1
   have HD := Lib.hid hD
   have hkey := key_of (HFIT.out k hlt)
   clear hb1 hD HMAP
   go_wp2_with (first
    | (at_mapUpdate; refine wpList_mapUpdate_own _ rfl _ _ _ 216 rfl 9 3 strLaw Tryz.underlying216 (plainElem (H := Unit) Tryz.prog 3) w.heap.size k _ rfl hown (by unfold maxLen; omega) _ _ _ rfl rfl hkey (.lit (.int .i64 (k : Int))) [] (plainElem_int Tryz.underlying3 (WalkArith.wf_i64 (by omega))) ?_; intro w2 hown2 hgrow2))
   go_roundw
   case rel => exact ⟨k + 1, by omega, by go_num, ⟨_, hown2, map_put hown.isMap HD.out⟩, HB1.out.grown hgrow2 HB1.out.size (fun j hj => by cases hj; exact Nat.le_refl _)⟩
   case measure => simp [intOf]; omega
  ·have hkn : k = n := by omega
   subst hkn
   go_wp2_with fail
   go_ret
   exact ⟨rfl, HMAP.out, HN.out⟩
set_option maxRecDepth 100000 in
set_option maxHeartbeats 2000000 in
theorem placesT (a : Option Addr) (n cap : Nat) (l : List Tb) (w : World) (hc : CameT w a l) (hfit : ∀ j, j < n → (tnth l j).name.size ≤ maxLen) (hn : l.length = n) (hm : n ≤ 40) :
 Calls Tryz.prog 231 #[.slice a n cap, .func (.func 232) #[] #[]] w fun e w' => e = .returned (.map (some w.heap.size)) ∧ MapIs w' w.heap.size n (lastN (fun j => (tnth l j).name) n) ∧ Below w.heap.size w w' := by
 have HO := Lib.hid (fun h0 => hc.open hn h0)
 have HFIT := Lib.hid hfit
 have hmm := make_map
 clear hc hfit
 go_enter Tryz.func231, Tryz.ntmps231
 go_wp2_with fail
 go_loopw [13] (fun i wr => ∃ k : Nat, k ≤ n ∧ i = .int .i64 k ∧ MapIs wr w.heap.size k (lastN (fun j => (tnth l j).name) k) ∧ Below w.heap.size w wr) (fun i _ => n - (intOf i).toNat)
 case atStart => exact ⟨0, Nat.zero_le _, rfl, ⟨.map [], World.ownsMap_made _ _ _ _, fun s => ⟨by simp [Maps.has, lastN], by simp [lastN, DataW.atKey]⟩⟩, (Below.refl _ _).alloc (Nat.le_refl _) _⟩
 case round =>
  obtain ⟨k, hk, rfl, hmap, hnx⟩ := hrel
  have HMAP := Lib.hid hmap
  have HN := Lib.hid hnx
  clear hmap hnx
  by_cases hlt : k < n
  ·have hlt' : (k : Int) < (n : Int) := by omega
   obtain ⟨b, off, rfl, hcell⟩ := HO.out (by omega)
   obtain ⟨ax, cx, x0, x1, _⟩ := hcell wr HN.out k hlt
   clear hcell
   have HBJ := Lib.hid (kbelow_box wr (.cells #[.string (tnth l k).name, .slice ax (tnth l k).bks.length cx] 135))
   go_wp2_with fail
   refine (meantT_any _ _ _ _ _).mono ?_
   rintro e w1 ⟨rfl, hb1⟩
   have HB1 := Lib.hid (HN.out.trans ((HBJ.out.trans (hb1.mono HBJ.out.size)).mono HN.out.size))
   obtain ⟨D, hown, hD⟩ := (HMAP.out.below HBJ.out).below hb1
   have HD := Lib.hid hD
   have hkey := key_of (HFIT.out k hlt)
   clear hb1 hD HMAP
   go_wp2_with (first
    | (at_mapUpdate; refine wpList_mapUpdate_own _ rfl _ _ _ 216 rfl 9 3 strLaw Tryz.underlying216 (plainElem (H := Unit) Tryz.prog 3) w.heap.size k _ rfl hown (by unfold maxLen; omega) _ _ _ rfl rfl hkey (.lit (.int .i64 (k : Int))) [] (plainElem_int Tryz.underlying3 (WalkArith.wf_i64 (by omega))) ?_; intro w2 hown2 hgrow2))
   go_roundw
   case rel => exact ⟨k + 1, by omega, by go_num, ⟨_, hown2, map_put hown.isMap HD.out⟩, HB1.out.grown hgrow2 HB1.out.size (fun j hj => by cases hj; exact Nat.le_refl _)⟩
   case measure => simp [intOf]; omega
  ·have hkn : k = n := by omega
   subst hkn
   go_wp2_with fail
   go_ret
   exact ⟨rfl, HMAP.out, HN.out⟩
set_option maxRecDepth 100000 in
set_option maxHeartbeats 2000000 in
theorem placesL (a : Option Addr) (n cap : Nat) (l : List Ln) (w : World) (hc : CameL w a l) (hfit : ∀ j, j < n → (lnth l j).name.size ≤ maxLen) (hn : l.length = n) (hm : n ≤ 40) :
 Calls Tryz.prog 228 #[.slice a n cap, .func (.func 229) #[] #[]] w fun e w' => e = .returned (.map (some w.heap.size)) ∧ MapIs w' w.heap.size n (lastN (fun j => (lnth l j).name) n) ∧ Below w.heap.size w w' := by
 have HO := Lib.hid (fun h0 => hc.open hn h0)
 have HFIT := Lib.hid hfit
 have hmm := make_map
 clear hc hfit
 go_enter Tryz.func228, Tryz.ntmps228
 go_wp2_with fail
 go_loopw [13] (fun i wr => ∃ k : Nat, k ≤ n ∧ i = .int .i64 k ∧ MapIs wr w.heap.size k (lastN (fun j => (lnth l j).name) k) ∧ Below w.heap.size w wr) (fun i _ => n - (intOf i).toNat)
 case atStart => exact ⟨0, Nat.zero_le _, rfl, ⟨.map [], World.ownsMap_made _ _ _ _, fun s => ⟨by simp [Maps.has, lastN], by simp [lastN, DataW.atKey]⟩⟩, (Below.refl _ _).alloc (Nat.le_refl _) _⟩
 case round =>
  obtain ⟨k, hk, rfl, hmap, hnx⟩ := hrel
  have HMAP := Lib.hid hmap
  have HN := Lib.hid hnx
  clear hmap hnx
  by_cases hlt : k < n
  ·have hlt' : (k : Int) < (n : Int) := by omega
   obtain ⟨b, off, rfl, hcell⟩ := HO.out (by omega)
   obtain ⟨ax, cx, ⟨x0, x1, x2, x3, x4, x5⟩, _⟩ := hcell wr HN.out k hlt
   clear hcell
   have HBJ := Lib.hid (kbelow_box wr (.cells #[.int .i64 (lnth l k).kind, .string (lnth l k).name, .int .i64 (lnth l k).ex.k, .int .i64 (lnth l k).ex.n, .string (lnth l k).ex.s, .slice ax (lnth l k).ex.m cx] 73))
   go_wp2_with fail
   refine (meantL_any _ _ _ _ _ _ _ _ _).mono ?_
   rintro e w1 ⟨rfl, hb1⟩
   have HB1 := Lib.hid (HN.out.trans ((HBJ.out.trans (hb1.mono HBJ.out.size)).mono HN.out.size))
   obtain ⟨D, hown, hD⟩ := (HMAP.out.below HBJ.out).below hb1
   have HD := Lib.hid hD
   have hkey := key_of (HFIT.out k hlt)
   clear hb1 hD HMAP
   go_wp2_with (first
    | (at_mapUpdate; refine wpList_mapUpdate_own _ rfl _ _ _ 216 rfl 9 3 strLaw Tryz.underlying216 (plainElem (H := Unit) Tryz.prog 3) w.heap.size k _ rfl hown (by unfold maxLen; omega) _ _ _ rfl rfl hkey (.lit (.int .i64 (k : Int))) [] (plainElem_int Tryz.underlying3 (WalkArith.wf_i64 (by omega))) ?_; intro w2 hown2 hgrow2))
   go_roundw
   case rel => exact ⟨k + 1, by omega, by go_num, ⟨_, hown2, map_put hown.isMap HD.out⟩, HB1.out.grown hgrow2 HB1.out.size (fun j hj => by cases hj; exact Nat.le_refl _)⟩
   case measure => simp [intOf]; omega
  ·have hkn : k = n := by omega
   subst hkn
   go_wp2_with fail
   go_ret
   exact ⟨rfl, HMAP.out, HN.out⟩
end Go.Proofs.YtkalfdjmklakdaaGreatDoor
namespace Go.Proofs.YtkalfdjmklakdaaGreatDoor
open Go.RowKit Go.Maps Go.WideMaps
theorem nfrom_drew {B : Nat} {w w' : World} (h : Below B w.drew w') : Below B w w' := (kbelow_dN (Below.refl B w) 1).trans h
def MeantIs (w : World) (b1 b2 b3 b4 : Nat) (l : List Ln) (k : Kn) : Prop :=
 MapIs w b1 l.length (lastN (fun j => (lnth l j).name) l.length) ∧ MapIs w b2 k.ins.length (lastN (fun j => (anth k.ins j).name) k.ins.length) ∧ MapIs w b3 k.tbs.length (lastN (fun j => (tnth k.tbs j).name) k.tbs.length) ∧ MapIs w b4 k.yrs.length (lastN (fun j => (anth k.yrs j).name) k.yrs.length)
def MeantRet (w : World) (l : List Ln) (k : Kn) (e : Ending) (w' : World) : Prop := ∃ b1 b2 b3 b4 : Nat, e = .returned (.agg #[.map (some b1), .map (some b2), .map (some b3), .map (some b4)]) ∧ w.heap.size ≤ b1 ∧ b1 < b2 ∧ b2 < b3 ∧ b3 < b4 ∧ MeantIs w' b1 b2 b3 b4 l k ∧ Below w.heap.size w w'
theorem MapIs.set {w : World} {b n : Nat} {g : ByteArray → Option Nat} {p : Addr} (h : MapIs w b n g) (v : Value) (hp : b ≠ p.block) : MapIs (w.setCell p v) b n g := by
 obtain ⟨D, ⟨es, clock, hbk, h3⟩, h2⟩ := h
 exact ⟨D, ⟨es, clock, by rw [Below.heap_setCell w p v b hp]; exact hbk, h3⟩, h2⟩
def row4 (w : World) (b : Nat) : Prop := w.cell? ⟨b, 0, none⟩ = some (.map none) ∧ w.cell? ⟨b, 1, none⟩ = some (.map none) ∧ w.cell? ⟨b, 2, none⟩ = some (.map none) ∧ w.cell? ⟨b, 3, none⟩ = some (.map none) ∧ w.frozen? ⟨b, 0, none⟩ = false ∧ w.frozen? ⟨b, 1, none⟩ = false ∧ w.frozen? ⟨b, 2, none⟩ = false ∧ w.frozen? ⟨b, 3, none⟩ = false
theorem row4.made (w : World) (o : Obj) (T : TypeId) : row4 ((w.alloc o).alloc (.cells #[.map none, .map none, .map none, .map none] T)) (w.heap.size + 1) := by
 refine ⟨?_, ?_, ?_, ?_, ?_, ?_, ?_, ?_⟩ <;> simp
theorem row4.below {w w' : World} {b : Nat} (h : row4 w b) (hb : Below w.heap.size w w') : row4 w' b := by
 have hB : b < w.heap.size := blt_of_cell h.1
 obtain ⟨h0, h1, h2, h3, f0, f1, f2, f3⟩ := h
 exact ⟨(hb.cell (p := ⟨b, 0, none⟩) hB).trans h0, (hb.cell (p := ⟨b, 1, none⟩) hB).trans h1, (hb.cell (p := ⟨b, 2, none⟩) hB).trans h2, (hb.cell (p := ⟨b, 3, none⟩) hB).trans h3, (hb.frozen (p := ⟨b, 0, none⟩) hB).trans f0, (hb.frozen (p := ⟨b, 1, none⟩) hB).trans f1, (hb.frozen (p := ⟨b, 2, none⟩) hB).trans f2, (hb.frozen (p := ⟨b, 3, none⟩) hB).trans f3⟩
set_option maxRecDepth 100000 in
set_option maxHeartbeats 2000000 in
theorem meantIn_any (a : Option Addr) (n cap : Nat) (l : List Ln) (a1 a2 a3 : Option Addr) (n1 n2 n3 c1 c2 c3 : Nat) (k : Kn) (w : World) (hl : CameL w a l) (hn : l.length = n) (hm : n ≤ 40) (hlf : ∀ j, j < n → (lnth l j).name.size ≤ maxLen) (hc : CameK w a1 a2 a3 k) (htf : ∀ j, j < n2 → (tnth k.tbs j).name.size ≤ maxLen) (h1 : k.ins.length = n1) (h2 : k.tbs.length = n2) (h3 : k.yrs.length = n3) (g1 : n1 ≤ 30) (g2 : n2 ≤ 30) (g3 : n3 ≤ 30) :
 Calls Tryz.prog 188 #[.slice a n cap, .agg #[.slice a1 n1 c1, .slice a2 n2 c2, .slice a3 n3 c3]] w fun e w' => MeantRet w l k e w' := by
 have HL := Lib.hid hl
 have HN := Lib.hid hn
 have HLF := Lib.hid hlf
 have HC := Lib.hid hc
 have HTF := Lib.hid htf
 have H1 := Lib.hid h1
 have H2 := Lib.hid h2
 have H3 := Lib.hid h3
 have HF1 : Hid (∀ j, j < n1 → (anth k.ins j).name.size ≤ maxLen) := fun j hj => hc.2.2.2.1 j (by omega)
 have HF3 : Hid (∀ j, j < n3 → (anth k.yrs j).name.size ≤ maxLen) := fun j hj => hc.2.2.2.2.1 j (by omega)
 clear hl hn hlf hc htf h1 h2 h3
 have HB0 := Lib.hid (kbelow_box w (.cells #[.slice a1 n1 c1, .slice a2 n2 c2, .slice a3 n3 c3] 124))
 have HK0 := Lib.hid (KAt.made w (.slice a1 n1 c1) (.slice a2 n2 c2) (.slice a3 n3 c3) 124)
 have HB1 := Lib.hid (HB0.out.alloc HB0.out.size (.cells #[.map none, .map none, .map none, .map none] 218))
 have HK1 := Lib.hid (KAt.below HK0.out (kbelow_box _ (.cells #[.map none, .map none, .map none, .map none] 218)))
 go_enter Tryz.func188, Tryz.ntmps188
 go_wp2_with fail
 have hsz : ((w.alloc (.cells #[.slice a1 n1 c1, .slice a2 n2 c2, .slice a3 n3 c3] 124)).alloc (.cells #[.map none, .map none, .map none, .map none] 218)).heap.size = w.heap.size + 2 := by simp
 have HRW := Lib.hid (row4.made w (.cells #[.slice a1 n1 c1, .slice a2 n2 c2, .slice a3 n3 c3] 124) 218)
 clear HK0 HB0
 generalize ((w.alloc (.cells #[.slice a1 n1 c1, .slice a2 n2 c2, .slice a3 n3 c3] 124)).alloc (.cells #[.map none, .map none, .map none, .map none] 218)) = W at *
 obtain ⟨_, k0, k1, k2⟩ := HK1.out
 have hgw : w.heap.size < W.heap.size := by omega
 have HSZ := Lib.hid hsz
 clear hsz
 go_region_held3 (fun w' => w'.cell? ⟨w.heap.size, 0, none⟩ = some (.slice a1 n1 c1) ∧ w'.cell? ⟨w.heap.size, 1, none⟩ = some (.slice a2 n2 c2) ∧ w'.cell? ⟨w.heap.size, 2, none⟩ = some (.slice a3 n3 c3)) (go_keep)
  (first
   | (have := HX3; go_at_call 230; refine (placesA a3 n3 c3 k.yrs _ (HC.out.2.2.1.below (HB1.out.trans (HX3.out.mono HB1.out.size))) HF3.out H3.out (by omega)).mono ?_; rintro e w4 ⟨rfl, hm4, hb4⟩
      have HM4 := Lib.hid hm4
      have HX4 := Lib.hid (HX3.out.trans (hb4.mono HX3.out.size))
      have HY4 := Lib.hid hb4
      have r0 := (HX4.out.cell (p := ⟨w.heap.size, 0, none⟩) hgw).trans k0
      have r1 := (HX4.out.cell (p := ⟨w.heap.size, 1, none⟩) hgw).trans k1
      have r2 := (HX4.out.cell (p := ⟨w.heap.size, 2, none⟩) hgw).trans k2
      obtain ⟨s0, s1, s2, s3, f0, f1, f2, f3⟩ := (HRW.out.below HX4.out)
      clear hm4 hb4)
   | (have := HX2; go_at_call 231; refine (placesT a2 n2 c2 k.tbs _ (HC.out.2.1.below (HB1.out.trans (HX2.out.mono HB1.out.size))) HTF.out H2.out (by omega)).mono ?_; rintro e w3 ⟨rfl, hm3, hb3⟩
      have HM3 := Lib.hid hm3
      have HX3 := Lib.hid (HX2.out.trans (hb3.mono HX2.out.size))
      have HY3 := Lib.hid hb3
      have r0 := (HX3.out.cell (p := ⟨w.heap.size, 0, none⟩) hgw).trans k0
      have r1 := (HX3.out.cell (p := ⟨w.heap.size, 1, none⟩) hgw).trans k1
      have r2 := (HX3.out.cell (p := ⟨w.heap.size, 2, none⟩) hgw).trans k2
      clear hm3 hb3)
   | (have := HX1; go_at_call 230; refine (placesA a1 n1 c1 k.ins _ (HC.out.1.below (HB1.out.trans (HX1.out.mono HB1.out.size))) HF1.out H1.out (by omega)).mono ?_; rintro e w2 ⟨rfl, hm2, hb2⟩
      have HM2 := Lib.hid hm2
      have HX2 := Lib.hid (HX1.out.trans (hb2.mono HX1.out.size))
      have HY2 := Lib.hid hb2
      have r0 := (HX2.out.cell (p := ⟨w.heap.size, 0, none⟩) hgw).trans k0
      have r1 := (HX2.out.cell (p := ⟨w.heap.size, 1, none⟩) hgw).trans k1
      have r2 := (HX2.out.cell (p := ⟨w.heap.size, 2, none⟩) hgw).trans k2
      clear hm2 hb2)
   | (go_at_call 228; refine (placesL a n cap l _ (HL.out.below HB1.out.drew) HLF.out HN.out hm).mono ?_; rintro e w1 ⟨rfl, hm1, hb1⟩
      have HM1 : Hid (MapIs w1 W.heap.size n (lastN (fun j => (lnth l j).name) n)) := Lib.hid hm1
      have HX1 := Lib.hid (nfrom_drew hb1)
      have r0 := (HX1.out.cell (p := ⟨w.heap.size, 0, none⟩) hgw).trans k0
      have r1 := (HX1.out.cell (p := ⟨w.heap.size, 1, none⟩) hgw).trans k1
      have r2 := (HX1.out.cell (p := ⟨w.heap.size, 2, none⟩) hgw).trans k2
      clear hm1 hb1))
 go_wp2_with fail
 refine bodyPost_ret (v := .agg #[.map (some W.heap.size), .map (some w1.heap.size), .map (some w2.heap.size), .map (some w3.heap.size)]) (by simp [results, Tryz.results188, go_sem, s0, s1, s2, s3] <;> rfl) rfl ?_
 have q1 := HM1.out.lt
 have q2 := HM2.out.lt
 have q3 := HM3.out.lt
 have hz := HSZ.out
 have e1 := HN.out
 have e2 := H1.out
 have e3 := H2.out
 have e4 := H3.out
 subst e1 e2 e3 e4
 have hx1 := HX1.out.size
 refine ⟨_, _, _, _, rfl, by omega, q1, q2, q3, ⟨?_, ?_, ?_, ?_⟩, ?_⟩
 ·exact ((((((HM1.out.below HY2.out).below HY3.out).below HY4.out).set _ (by show _ ≠ w.heap.size + 1; omega)).set _ (by show _ ≠ w.heap.size + 1; omega)).set _ (by show _ ≠ w.heap.size + 1; omega)).set _ (by show _ ≠ w.heap.size + 1; omega)
 ·exact (((((HM2.out.below HY3.out).below HY4.out).set _ (by show _ ≠ w.heap.size + 1; omega)).set _ (by show _ ≠ w.heap.size + 1; omega)).set _ (by show _ ≠ w.heap.size + 1; omega)).set _ (by show _ ≠ w.heap.size + 1; omega)
 ·exact ((((HM3.out.below HY4.out).set _ (by show _ ≠ w.heap.size + 1; omega)).set _ (by show _ ≠ w.heap.size + 1; omega)).set _ (by show _ ≠ w.heap.size + 1; omega)).set _ (by show _ ≠ w.heap.size + 1; omega)
 ·exact (((HM4.out.set _ (by show _ ≠ w.heap.size + 1; have := HX3.out.size; omega)).set _ (by show _ ≠ w.heap.size + 1; have := HX3.out.size; omega)).set _ (by show _ ≠ w.heap.size + 1; have := HX3.out.size; omega)).set _ (by show _ ≠ w.heap.size + 1; have := HX3.out.size; omega)
 ·exact ((((HB1.out.trans (HX4.out.mono HB1.out.size)).setCell (by simp) _).setCell (by simp) _).setCell (by simp) _).setCell (by simp) _
end Go.Proofs.YtkalfdjmklakdaaGreatDoor
namespace Go.Proofs.YtkalfdjmklakdaaGreatDoor
open Go.RowKit Go.Maps Go.WideMaps
def allN (f : Nat → Bool) : Nat → Bool
 | 0 => true
 | j + 1 => allN f j && f j
theorem allN_yes {f : Nat → Bool} {j : Nat} (h : allN f j = true) : allN f (j + 1) = f j := by simp [allN, h]
theorem allN_no {f : Nat → Bool} {m j : Nat} (hj : j < m) (he : f j = false) : allN f m = false := by
 induction m with
 | zero => omega
 | succ q ih =>
   by_cases e : j = q
   ·subst e; simp [allN, he]
   ·simp [allN, ih (by omega)]
def Ex.all (P : Int → ByteArray → Bool) : Ex → Bool
 | .no => true
 | .mk k _ s m kid => P k s && allN (fun j => (kid j).all P) m
def knowB (gv gl gt : ByteArray → Option Nat) (k : Int) (s : ByteArray) : Bool := if k = 2 then (gv s).isSome else if k = 3 then (gl s).isSome else if k = 5 then (gt s).isSome else true
def Sc (w : World) (sb bv bl bt nv nl nt : Nat) (gv gl gt : ByteArray → Option Nat) : Prop := sb < w.heap.size ∧ w.cell? ⟨sb, 0, none⟩ = some (.map (some bv)) ∧ w.cell? ⟨sb, 1, none⟩ = some (.map (some bl)) ∧ w.cell? ⟨sb, 2, none⟩ = some (.map (some bt)) ∧ MapIs w bv nv gv ∧ MapIs w bl nl gl ∧ MapIs w bt nt gt
theorem Sc.below {w w' : World} {sb bv bl bt nv nl nt : Nat} {gv gl gt : ByteArray → Option Nat} (h : Sc w sb bv bl bt nv nl nt gv gl gt) (hb : Below w.heap.size w w') : Sc w' sb bv bl bt nv nl nt gv gl gt :=
 ⟨Nat.lt_of_lt_of_le h.1 hb.size, (hb.cell (p := ⟨sb, 0, none⟩) h.1).trans h.2.1, (hb.cell (p := ⟨sb, 1, none⟩) h.1).trans h.2.2.1, (hb.cell (p := ⟨sb, 2, none⟩) h.1).trans h.2.2.2.1, h.2.2.2.2.1.below hb, h.2.2.2.2.2.1.below hb, h.2.2.2.2.2.2.below hb⟩
set_option maxRecDepth 100000 in
set_option maxHeartbeats 1000000 in
theorem knows1_any (k n : Int) (s : ByteArray) (a : Option Addr) (m c sb bv bl bt nv nl nt : Nat) (gv gl gt : ByteArray → Option Nat) (w : World) (hs : s.size ≤ maxLen) (hsc : Sc w sb bv bl bt nv nl nt gv gl gt) :
 Calls Tryz.prog 234 #[.agg #[.int .i64 k, .int .i64 n, .string s, .slice a m c], .pointer (some ⟨sb, 0, none⟩)] w fun e w' => e = .returned (.bool (knowB gv gl gt k s)) ∧ Below w.heap.size w w' := by
 have HB0 := Lib.hid (kbelow_box w (.cells #[.int .i64 k, .int .i64 n, .string s, .slice a m c] 71))
 obtain ⟨_, y0, y1, y2, m0, m1, m2⟩ := hsc.below HB0.out
 have hkey := key_of hs
 clear hsc
 by_cases hk : k = 2
 ·subst hk
  have HR : Hid (knowB gv gl gt 2 s = (gv s).isSome) := rfl
  obtain ⟨D, hown, hD⟩ := m0
  have hD1 := (hD s).1
  have HD1 := Lib.hid hD1
  clear hD hD1
  go_enter Tryz.func234, Tryz.ntmps234
  go_wp2_with (first
   | (at_lookup; refine wpList_lookup_own_ok_int _ rfl _ _ 216 rfl 9 3 .i64 strLaw Tryz.underlying216 Tryz.underlying3 (zeroInt _) _ _ _ rfl hown _ _ rfl hkey ?_; intro c0 hat hwc))
  go_ret
  exact ⟨kret_bool (by rw [HR.out, ← HD1.out]), HB0.out⟩
 ·have hkB : decide (k = 2) = false := decide_eq_false hk
  have hkE : (k == 2) = false := by simpa using hk
  have HK2 := Lib.hid hk
  clear hk
  by_cases hk : k = 3
  ·subst hk
   have HR : Hid (knowB gv gl gt 3 s = (gl s).isSome) := rfl
   obtain ⟨D, hown, hD⟩ := m1
   have hD1 := (hD s).1
   have HD1 := Lib.hid hD1
   clear hD hD1
   go_enter Tryz.func234, Tryz.ntmps234
   go_wp2_with (first
    | (at_lookup; refine wpList_lookup_own_ok_int _ rfl _ _ 216 rfl 9 3 .i64 strLaw Tryz.underlying216 Tryz.underlying3 (zeroInt _) _ _ _ rfl hown _ _ rfl hkey ?_; intro c0 hat hwc))
   go_ret
   exact ⟨kret_bool (by rw [HR.out, ← HD1.out]), HB0.out⟩
  ·have hk3B : decide (k = 3) = false := decide_eq_false hk
   have hk3E : (k == 3) = false := by simpa using hk
   have HK3 := Lib.hid hk
   clear hk
   by_cases hk : k = 5
   ·subst hk
    have HR : Hid (knowB gv gl gt 5 s = (gt s).isSome) := rfl
    obtain ⟨D, hown, hD⟩ := m2
    have hD1 := (hD s).1
    have HD1 := Lib.hid hD1
    clear hD hD1
    go_enter Tryz.func234, Tryz.ntmps234
    go_wp2_with (first
     | (at_lookup; refine wpList_lookup_own_ok_int _ rfl _ _ 216 rfl 9 3 .i64 strLaw Tryz.underlying216 Tryz.underlying3 (zeroInt _) _ _ _ rfl hown _ _ rfl hkey ?_; intro c0 hat hwc))
    go_ret
    exact ⟨kret_bool (by rw [HR.out, ← HD1.out]), HB0.out⟩
   ·have hk5B : decide (k = 5) = false := decide_eq_false hk
    have hk5E : (k == 5) = false := by simpa using hk
    have HR : Hid (knowB gv gl gt k s = true) := by unfold Hid knowB; rw [if_neg HK2.out, if_neg HK3.out, if_neg hk]
    go_enter Tryz.func234, Tryz.ntmps234
    go_wp2_with fail
    go_ret
    exact ⟨kret_bool HR.out.symm, HB0.out⟩
theorem all_mk (P : Int → ByteArray → Bool) (k n : Int) (s : ByteArray) (m : Nat) (kid : Nat → Ex) : (Ex.mk k n s m kid).all P = (P k s && allN (fun j => (kid j).all P) m) := by rw [Ex.all]
set_option maxRecDepth 100000 in
set_option maxHeartbeats 2000000 in
theorem every_knows (x : Ex) : ∀ (a : Option Addr) (c sb bv bl bt nv nl nt : Nat) (gv gl gt : ByteArray → Option Nat) (w : World), Sc w sb bv bl bt nv nl nt gv gl gt → KidsAt w x a →
 Calls Tryz.prog 233 #[.agg #[.int .i64 x.k, .int .i64 x.n, .string x.s, .slice a x.m c], .func (.func 234) #[] #[.pointer (some ⟨sb, 0, none⟩)]] w fun e w' => e = .returned (.bool (x.all (knowB gv gl gt))) ∧ Below w.heap.size w w' := by
 induction x with
 | no => intro a c sb bv bl bt nv nl nt gv gl gt w _ h; exact h.elim
 | mk k n s m kid ih =>
   intro a c sb bv bl bt nv nl nt gv gl gt w hsc hk
   show Calls Tryz.prog 233 #[.agg #[.int .i64 k, .int .i64 n, .string s, .slice a m c], .func (.func 234) #[] #[.pointer (some ⟨sb, 0, none⟩)]] w _
   have hm : m ≤ 9223372036854775807 := by have := hk.many; unfold maxLen at this; exact this
   have HSZ : Hid (s.size ≤ maxLen) := Lib.hid hk.name
   have HK := Lib.hid hk
   have HSC := Lib.hid hsc
   have HB0 := Lib.hid (kbelow_box w (.cells #[.int .i64 k, .int .i64 n, .string s, .slice a m c] 71))
   have HX0 := Lib.hid (XBox.made w k n s a m c 71)
   have HM := Lib.hid (all_mk (knowB gv gl gt) k n s m kid)
   have HIH := Lib.hid ih
   clear hk ih hsc
   generalize (Ex.mk k n s m kid).all (knowB gv gl gt) = z at *
   go_enter Tryz.func233, Tryz.ntmps233
   go_wp2_with fail
   refine (knows1_any k n s a m c sb bv bl bt nv nl nt gv gl gt _ HSZ.out (HSC.out.below HB0.out)).mono ?_
   rintro e w1 ⟨rfl, hb1⟩
   have HB1 := Lib.hid (HB0.out.trans (hb1.mono HB0.out.size))
   obtain ⟨_, y0, y1, y2, y3⟩ := HX0.out.below hb1
   clear hb1 HX0 HB0
   cases hp : knowB gv gl gt k s
   ·have HR : Hid (z = false) := by unfold Hid; rw [HM.out, hp]; rfl
    go_wp2_with fail
    go_ret
    exact ⟨kret_bool HR.out.symm, HB1.out⟩
   ·have HZ : Hid (z = allN (fun j => (kid j).all (knowB gv gl gt)) m) := by unfold Hid; rw [HM.out, hp]; rfl
    clear HM
    go_wp2_with fail
    go_loopw [14] (fun i wr => ∃ j : Nat, j ≤ m ∧ i = .int .i64 j ∧ allN (fun j => (kid j).all (knowB gv gl gt)) j = true ∧ Below w.heap.size w wr) (fun i _ => m - (intOf i).toNat)
    case atStart => exact ⟨0, Nat.zero_le _, rfl, rfl, HB1.out⟩
    case round =>
     obtain ⟨j, hj, rfl, hf, hb⟩ := hrel
     have HF := Lib.hid hf
     have HB := Lib.hid hb
     clear hf hb
     by_cases hlt : j < m
     ·have hlt' : (j : Int) < (m : Int) := by omega
      obtain ⟨b, off, rfl, hcell⟩ := HK.out.open (show 0 < m by omega)
      obtain ⟨aj, cj, ⟨x0, x1, x2, x3⟩, hkj⟩ := hcell wr HB.out j hlt
      have HKJ := Lib.hid hkj
      clear hcell hkj
      have x0' : wr.cell? ⟨b, off + j * 4, none⟩ = some (.int .i64 (kid j).k) := x0
      have x1' : wr.cell? ⟨b, off + j * 4 + 1, none⟩ = some (.int .i64 (kid j).n) := x1
      have x2' : wr.cell? ⟨b, off + j * 4 + 2, none⟩ = some (.string (kid j).s) := x2
      have x3' : wr.cell? ⟨b, off + j * 4 + 3, none⟩ = some (.slice aj (kid j).m cj) := x3
      clear x0 x1 x2 x3
      have HBJ := Lib.hid (kbelow_box wr (.cells #[.int .i64 (kid j).k, .int .i64 (kid j).n, .string (kid j).s, .slice aj (kid j).m cj] 71))
      go_wp2_with fail
      refine (HIH.out j aj cj sb bv bl bt nv nl nt gv gl gt _ ((HSC.out.below HB.out).below HBJ.out) (HKJ.out.below HBJ.out)).mono ?_
      rintro e w9 ⟨rfl, hb9⟩
      have HB9 := Lib.hid (HB.out.trans ((HBJ.out.trans (hb9.mono HBJ.out.size)).mono HB.out.size))
      clear hb9 x0' x1' x2' x3'
      cases hz : (kid j).all (knowB gv gl gt)
      ·have HR : Hid (z = false) := by unfold Hid; rw [HZ.out, allN_no (f := fun j => (kid j).all (knowB gv gl gt)) hlt hz]
       go_wp2_with fail
       go_ret
       exact ⟨kret_bool HR.out.symm, HB9.out⟩
      ·have HF1 : Hid (allN (fun j => (kid j).all (knowB gv gl gt)) (j + 1) = true) := by unfold Hid; rw [allN_yes HF.out]; exact hz
       go_wp2_with fail
       go_roundw
       case rel => exact ⟨j + 1, by omega, by go_num, HF1.out, HB9.out⟩
       case measure => simp [intOf]; omega
     ·have hjm : j = m := by omega
      subst hjm
      have HR : Hid (z = true) := by unfold Hid; rw [HZ.out, HF.out]
      go_wp2_with fail
      go_ret
      exact ⟨kret_bool HR.out.symm, HB.out⟩
set_option maxRecDepth 100000 in
set_option maxHeartbeats 1000000 in
theorem knows_any (x : Ex) (a : Option Addr) (c bv bl bt nv nl nt : Nat) (gv gl gt : ByteArray → Option Nat) (w : World) (hv : MapIs w bv nv gv) (hl : MapIs w bl nl gl) (ht : MapIs w bt nt gt) (hk : KidsAt w x a) :
 Calls Tryz.prog 189 #[.agg #[.map (some bv), .map (some bl), .map (some bt)], .agg #[.int .i64 x.k, .int .i64 x.n, .string x.s, .slice a x.m c]] w fun e w' => e = .returned (.bool (x.all (knowB gv gl gt))) ∧ Below w.heap.size w w' := by
 have HB0 := Lib.hid (kbelow_box w (.cells #[.map (some bv), .map (some bl), .map (some bt)] 221))
 have HSC0 : Hid (Sc (w.alloc (.cells #[.map (some bv), .map (some bl), .map (some bt)] 221)) w.heap.size bv bl bt nv nl nt gv gl gt) := by
  refine ⟨?_, ?_, ?_, ?_, hv.below HB0.out, hl.below HB0.out, ht.below HB0.out⟩ <;> simp
 have HB1 := Lib.hid (HB0.out.alloc HB0.out.size (.cells #[.int .i64 x.k, .int .i64 x.n, .string x.s, .slice a x.m c] 71))
 have HSC1 := Lib.hid (HSC0.out.below (kbelow_box _ (.cells #[.int .i64 x.k, .int .i64 x.n, .string x.s, .slice a x.m c] 71)))
 have HK := Lib.hid hk
 clear hv hl ht hk HSC0
 go_enter Tryz.func189, Tryz.ntmps189
 go_wp2_with fail
 refine (every_knows x a c w.heap.size bv bl bt nv nl nt gv gl gt _ HSC1.out (HK.out.below HB1.out)).mono ?_
 rintro e w1 ⟨rfl, hb1⟩
 have HB2 := Lib.hid (HB1.out.trans (hb1.mono HB1.out.size))
 clear hb1
 go_wp2_with fail
 go_ret
 exact ⟨rfl, HB2.out⟩
end Go.Proofs.YtkalfdjmklakdaaGreatDoor
namespace Go.Proofs.YtkalfdjmklakdaaGreatDoor
open Go.RowKit Go.Maps Go.WideMaps
def valsK (l : List Ln) (k : Kn) (j : Nat) (s : ByteArray) : Option Nat := match lastN (fun j => (lnth l j).name) j s with | some v => some v | none => lastN (fun j => (anth k.ins j).name) k.ins.length s
def linesG (l : List Ln) : ByteArray → Option Nat := lastN (fun j => (lnth l j).name) l.length
def tabsG (k : Kn) : ByteArray → Option Nat := lastN (fun j => (tnth k.tbs j).name) k.tbs.length
def lineOk (l : List Ln) (k : Kn) (j : Nat) : Int := if (valsK l k j (lnth l j).name).isSome = true then 6 else if (lnth l j).ex.all (knowB (valsK l k j) (linesG l) (tabsG k)) = true then 0 else 5
def BindIs (l : List Ln) (k : Kn) (i e : Int) : Prop :=
 (linesE l ≠ 0 ∧ i = 0 ∧ e = linesE l) ∨ (linesE l = 0 ∧ knE k ≠ 0 ∧ i = 0 ∧ e = knE k) ∨ (linesE l = 0 ∧ knE k = 0 ∧ ((i = 0 ∧ e = 0 ∧ ∀ j, j < l.length → lineOk l k j = 0) ∨ ∃ j : Nat, j < l.length ∧ i = j ∧ e = lineOk l k j ∧ e ≠ 0 ∧ ∀ q, q < j → lineOk l k q = 0))
theorem valsK_succ (l : List Ln) (k : Kn) (j : Nat) : (fun s : ByteArray => if (lnth l j).name.data = s.data then some j else valsK l k j s) = valsK l k (j + 1) := by
 funext s
 unfold valsK
 simp only [lastN]
 split <;> simp_all
def BindRet (w : World) (l : List Ln) (k : Kn) (e : Ending) (w' : World) : Prop := ∃ i er : Int, e = .returned (.tuple #[.int .i64 i, .int .i64 er]) ∧ BindIs l k i er ∧ Below w.heap.size w w'
theorem LBox.name (w : World) (v0 v1 v2 v3 v4 v5 : Value) (T : TypeId) : (w.alloc (.cells #[v0, v1, v2, v3, v4, v5] T)).cell? ⟨w.heap.size, 1, none⟩ = some v1 := by simp
theorem MapIs.kept {w w' : World} {b n c : Nat} {g : ByteArray → Option Nat} (h : MapIs w b n g) (hg : w.grownBy w' (some c)) (hne : b ≠ c) : MapIs w' b n g := by
 obtain ⟨D, h1, h2⟩ := h
 exact ⟨D, h1.kept hg (by intro e; injection e with e; exact hne e), h2⟩
theorem linesE_40 {l : List Ln} (h : linesE l = 0) : l.length ≤ 40 := by
 unfold linesE at h
 by_cases c : 40 < l.length ∨ ¬ (sumP l l.length ≤ 4000 ∧ maxD l l.length ≤ 20)
 ·rw [if_pos c] at h; cases h
 ·omega
theorem knE_30 {k : Kn} (h : knE k = 0) : k.ins.length ≤ 30 ∧ k.tbs.length ≤ 30 ∧ k.yrs.length ≤ 30 := by
 unfold knE at h
 by_cases c : 30 < k.ins.length ∨ 30 < k.tbs.length ∨ 30 < k.yrs.length
 ·rw [if_pos c] at h; cases h
 ·omega
set_option maxRecDepth 100000 in
set_option maxHeartbeats 4000000 in
theorem Lines_any (a : Option Addr) (n cap : Nat) (l : List Ln) (a1 a2 a3 : Option Addr) (n1 n2 n3 c1 c2 c3 : Nat) (k : Kn) (w : World) (hS : Shp w) (hl : CameL w a l) (hn : l.length = n) (hm : n ≤ maxLen) (hc : CameK w a1 a2 a3 k) (h1 : k.ins.length = n1) (h2 : k.tbs.length = n2) (h3 : k.yrs.length = n3) :
 Calls Tryz.prog 144 #[.slice a n cap, .agg #[.slice a1 n1 c1, .slice a2 n2 c2, .slice a3 n3 c3]] w fun e w' => BindRet w l k e w' := by
 have hm' : n ≤ 9223372036854775807 := by unfold maxLen at hm; omega
 have HM := Lib.hid hm
 have HL := Lib.hid hl
 have HN := Lib.hid hn
 have HC := Lib.hid hc
 have HS := Lib.hid hS
 have H1 := Lib.hid h1
 have H2 := Lib.hid h2
 have H3 := Lib.hid h3
 clear hl hn hc h1 h2 h3 hm hS
 have HB0 := Lib.hid (kbelow_box w (.cells #[.slice a1 n1 c1, .slice a2 n2 c2, .slice a3 n3 c3] 124))
 have HK0 := Lib.hid (KAt.made w (.slice a1 n1 c1) (.slice a2 n2 c2) (.slice a3 n3 c3) 124)
 go_enter Tryz.func144, Tryz.ntmps144
 go_wp2_with fail
 refine (check_lines a n cap l _ (HS.out.below HB0.out) (HL.out.below HB0.out) HN.out HM.out).mono ?_
 rintro e w1 ⟨rfl, hb1⟩
 have HB1 := Lib.hid (HB0.out.trans (hb1.mono HB0.out.size))
 have HK1 := Lib.hid (KAt.below HK0.out hb1)
 clear hb1 HK0 HB0
 obtain ⟨_, x0, x1, x2⟩ := HK1.out
 by_cases z1 : linesE l = 0
 ·have HZ1 := Lib.hid z1
  rw [z1]
  clear z1
  go_wp2_with fail
  refine (Known_any a1 a2 a3 n1 n2 n3 c1 c2 c3 k _ (HC.out.below HB1.out) H1.out H2.out H3.out).mono ?_
  rintro e w2 ⟨rfl, hb2⟩
  have HB2 := Lib.hid (HB1.out.trans (hb2.mono HB1.out.size))
  have HK2 := Lib.hid (KAt.below HK1.out hb2)
  clear hb2 HK1 HB1 x0 x1 x2
  obtain ⟨_, x0, x1, x2⟩ := HK2.out
  by_cases z2 : knE k = 0
  ·have HZ2 := Lib.hid z2
   rw [z2]
   clear z2
   have h40 : n ≤ 40 := by have := linesE_40 HZ1.out; have := HN.out; omega
   have HLF : Hid (∀ j, j < n → (lnth l j).name.size ≤ maxLen) := fun j hj => by
    obtain ⟨_, _, _, h⟩ := HL.out.open HN.out (by omega)
    obtain ⟨_, _, _, h, _⟩ := h w (Below.refl _ _) j hj
    exact h
   have HTF : Hid (∀ j, j < n2 → (tnth k.tbs j).name.size ≤ maxLen) := fun j hj => by
    obtain ⟨_, _, _, h⟩ := HC.out.2.1.open H2.out (by omega)
    obtain ⟨_, _, _, _, _, h, _⟩ := h w (Below.refl _ _) j hj
    exact h
   have h30 := knE_30 HZ2.out
   have e1 := H1.out
   have e2 := H2.out
   have e3 := H3.out
   go_wp2_with fail
   refine (meantIn_any a n cap l a1 a2 a3 n1 n2 n3 c1 c2 c3 k _ (HL.out.below HB2.out) HN.out h40 HLF.out (HC.out.below HB2.out) HTF.out H1.out H2.out H3.out (by omega) (by omega) (by omega)).mono ?_
   rintro e w3 ⟨b1, b2, b3, b4, rfl, hb1, hb12, hb23, hb34, hmt, hb3⟩
   have HB3 := Lib.hid (HB2.out.trans (hb3.mono HB2.out.size))
   have HMT := Lib.hid hmt
   have hbw : w.heap.size ≤ b1 := Nat.le_trans HB2.out.size hb1
   clear hb3 hmt HK2 HTF h30 e1 e2 e3 x0 x1 x2
   go_wp2_with fail
   have HSC0 : Hid (Sc ((w3.alloc (.cells #[.map (some b1), .map (some b2), .map (some b3), .map (some b4)] 218)).alloc (.cells #[.map (some b2), .map (some b1), .map (some b3)] 221)) (w3.heap.size + 1) b2 b1 b3 (k.ins.length + 0) l.length k.tbs.length (valsK l k 0) (linesG l) (tabsG k)) := by
    have q1 := kbelow_box w3 (.cells #[.map (some b1), .map (some b2), .map (some b3), .map (some b4)] 218)
    have q2 := kbelow_box (w3.alloc (.cells #[.map (some b1), .map (some b2), .map (some b3), .map (some b4)] 218)) (.cells #[.map (some b2), .map (some b1), .map (some b3)] 221)
    refine ⟨?_, ?_, ?_, ?_, (HMT.out.2.1.below q1).below q2, (HMT.out.1.below q1).below q2, (HMT.out.2.2.1.below q1).below q2⟩ <;> simp
   have HB4 := Lib.hid ((HB3.out.alloc HB3.out.size (.cells #[.map (some b1), .map (some b2), .map (some b3), .map (some b4)] 218)).alloc (HB3.out.alloc HB3.out.size (.cells #[.map (some b1), .map (some b2), .map (some b3), .map (some b4)] 218)).size (.cells #[.map (some b2), .map (some b1), .map (some b3)] 221))
   have hsb : b2 ≠ w3.heap.size + 1 := by have := HMT.out.2.1.lt; omega
   have HO := Lib.hid (fun h0 => HL.out.open HN.out h0)
   have hins : k.ins.length ≤ 30 := (knE_30 HZ2.out).1
   clear HMT HB3
   generalize w3.heap.size + 1 = sb at *
   go_loopw [36] (fun i wr => ∃ j : Nat, j ≤ n ∧ i = .int .i64 j ∧ (∀ q, q < j → lineOk l k q = 0) ∧ Sc wr sb b2 b1 b3 (k.ins.length + j) l.length k.tbs.length (valsK l k j) (linesG l) (tabsG k) ∧ Below w.heap.size w wr) (fun i _ => n - (intOf i).toNat)
   case atStart => exact ⟨0, Nat.zero_le _, rfl, fun q hq => by omega, HSC0.out, HB4.out⟩
   case round =>
    clear HSC0 HB4
    obtain ⟨j, hj, rfl, hall, hsc, hb⟩ := hrel
    have HA := Lib.hid hall
    have HSC := Lib.hid hsc
    have HB := Lib.hid hb
    clear hall hsc hb
    by_cases hlt : j < n
    ·have hlt' : (j : Int) < (n : Int) := by omega
     have HJ : Hid (j < l.length) := by have := HN.out; unfold Hid; omega
     obtain ⟨b, off, rfl, hcell⟩ := HO.out (by omega)
     obtain ⟨aj, cj, ⟨x0, x1, x2, x3, x4, x5⟩, hns, hkj⟩ := hcell wr HB.out j hlt
     have HKJ := Lib.hid hkj
     clear hcell hkj hns
     have HBJ := Lib.hid (kbelow_box wr (.cells #[.int .i64 (lnth l j).kind, .string (lnth l j).name, .int .i64 (lnth l j).ex.k, .int .i64 (lnth l j).ex.n, .string (lnth l j).ex.s, .slice aj (lnth l j).ex.m cj] 73))
     have HLB := Lib.hid (LBox.made wr (.int .i64 (lnth l j).kind) (.string (lnth l j).name) (.int .i64 (lnth l j).ex.k) (.int .i64 (lnth l j).ex.n) (.string (lnth l j).ex.s) (.slice aj (lnth l j).ex.m cj) 73)
     have HLN := Lib.hid (LBox.name wr (.int .i64 (lnth l j).kind) (.string (lnth l j).name) (.int .i64 (lnth l j).ex.k) (.int .i64 (lnth l j).ex.n) (.string (lnth l j).ex.s) (.slice aj (lnth l j).ex.m cj) 73)
     have HSC1 := Lib.hid (HSC.out.below HBJ.out)
     obtain ⟨_, y0, y1, y2, ⟨D, hown, hD⟩, _, _⟩ := HSC1.out
     have HD := Lib.hid (hD (lnth l j).name).1
     have hkey := key_of (HLF.out j hlt)
     clear hD
     cases hv : (valsK l k j (lnth l j).name).isSome
     ·have hhas : Maps.has D (.string (lnth l j).name.data.toList) = false := by rw [HD.out, hv]
      go_wp2_with (first
       | (at_lookup; refine wpList_lookup_own_ok_int _ rfl _ _ 216 rfl 9 3 .i64 strLaw Tryz.underlying216 Tryz.underlying3 (zeroInt _) _ _ _ rfl hown _ _ rfl hkey ?_; intro c0 hat hwc; rw [hhas]))
      refine (knows_any (lnth l j).ex aj cj b2 b1 b3 _ _ _ _ _ _ _ HSC1.out.2.2.2.2.1 HSC1.out.2.2.2.2.2.1 HSC1.out.2.2.2.2.2.2 (HKJ.out.below HBJ.out)).mono ?_
      rintro e w9 ⟨rfl, hb9⟩
      have HB9 := Lib.hid (HB.out.trans ((HBJ.out.trans (hb9.mono HBJ.out.size)).mono HB.out.size))
      have HSC9 := Lib.hid (HSC1.out.below hb9)
      have u1 := (hb9.cell (p := ⟨wr.heap.size, 1, none⟩) HLB.out.1).trans HLN.out
      clear hb9 x0 x1 x2 x3 x4 x5 y0 y1 y2 hown hat hwc hhas HD
      cases hkn : (lnth l j).ex.all (knowB (valsK l k j) (linesG l) (tabsG k))
      ·have HR : Hid (BindIs l k j 5) := by
        have ho : lineOk l k j = 5 := by unfold lineOk; rw [hv, hkn]; rfl
        exact .inr (.inr ⟨HZ1.out, HZ2.out, .inr ⟨j, HJ.out, rfl, ho.symm, by omega, HA.out⟩⟩)
       go_wp2_with fail
       go_ret2
       exact ⟨_, _, rfl, HR.out, HB9.out⟩
      ·have HA1 : Hid (∀ q, q < j + 1 → lineOk l k q = 0) := fun q hq => by
        by_cases e : q = j
        ·subst e; unfold lineOk; rw [hv, hkn]; rfl
        ·exact HA.out q (by omega)
       obtain ⟨hs9, y0, y1, y2, ⟨D9, hown9, hD9⟩, m1, m2⟩ := HSC9.out
       have HD9 := Lib.hid hD9
       have HM1 := Lib.hid m1
       have HM2 := Lib.hid m2
       clear hD9 m1 m2 hkn hv
       go_wp2_with (first
        | (at_mapUpdate; refine wpList_mapUpdate_own _ rfl _ _ _ 216 rfl 9 3 strLaw Tryz.underlying216 (plainElem (H := Unit) Tryz.prog 3) b2 (k.ins.length + j) _ rfl hown9 (by unfold maxLen; omega) _ _ _ rfl rfl hkey (.lit (.int .i64 (j : Int))) [] (plainElem_int Tryz.underlying3 (WalkArith.wf_i64 (by omega))) ?_; intro w2' hown2 hgrow2))
       go_roundw
       case rel =>
        refine ⟨j + 1, by omega, by go_num, HA1.out, ⟨Nat.lt_of_lt_of_le hs9 hgrow2.size, ?_, ?_, ?_, ⟨_, hown2, ?_⟩, HM1.out.kept hgrow2 (by omega), HM2.out.kept hgrow2 (by omega)⟩, HB9.out.grown hgrow2 HB9.out.size (fun q hq => by cases hq; omega)⟩
        ·rw [World.cell?_of_block (w := w9) (hgrow2.block sb hs9 (by intro h; injection h with h; exact hsb h.symm))]; exact y0
        ·rw [World.cell?_of_block (w := w9) (hgrow2.block sb hs9 (by intro h; injection h with h; exact hsb h.symm))]; exact y1
        ·rw [World.cell?_of_block (w := w9) (hgrow2.block sb hs9 (by intro h; injection h with h; exact hsb h.symm))]; exact y2
        ·rw [← valsK_succ]; exact map_put hown9.isMap HD9.out
       case measure => simp [intOf]; omega
     ·have hhas : Maps.has D (.string (lnth l j).name.data.toList) = true := by rw [HD.out, hv]
      have HR : Hid (BindIs l k j 6) := by
       have ho : lineOk l k j = 6 := by unfold lineOk; rw [hv]; rfl
       exact .inr (.inr ⟨HZ1.out, HZ2.out, .inr ⟨j, HJ.out, rfl, ho.symm, by omega, HA.out⟩⟩)
      have HBR := Lib.hid (HB.out.trans (HBJ.out.mono HB.out.size))
      go_wp2_with (first
       | (at_lookup; refine wpList_lookup_own_ok_int _ rfl _ _ 216 rfl 9 3 .i64 strLaw Tryz.underlying216 Tryz.underlying3 (zeroInt _) _ _ _ rfl hown _ _ rfl hkey ?_; intro c0 hat hwc; rw [hhas]))
      go_ret2
      exact ⟨_, _, rfl, HR.out, HBR.out⟩
    ·have hjn : j = n := by omega
     have HR : Hid (BindIs l k 0 0) := .inr (.inr ⟨HZ1.out, HZ2.out, .inl ⟨rfl, rfl, fun q hq => HA.out q (by have := HN.out; omega)⟩⟩)
     subst hjn
     go_wp2_with fail
     go_ret2
     exact ⟨_, _, rfl, HR.out, HB.out⟩
  ·have z2B : decide (knE k = 0) = false := decide_eq_false z2
   have z2N : (knE k != 0) = true := by simpa using z2
   have HR : Hid (BindIs l k 0 (knE k)) := .inr (.inl ⟨HZ1.out, z2, rfl, rfl⟩)
   generalize knE k = z at *
   go_wp2_with fail
   go_ret2
   exact ⟨_, _, rfl, HR.out, HB2.out⟩
 ·have z1B : decide (linesE l = 0) = false := decide_eq_false z1
  have z1N : (linesE l != 0) = true := by simpa using z1
  have HR : Hid (BindIs l k 0 (linesE l)) := .inl ⟨z1, rfl, rfl⟩
  generalize linesE l = z at *
  go_wp2_with fail
  go_ret2
  exact ⟨_, _, rfl, HR.out, HB1.out⟩
end Go.Proofs.YtkalfdjmklakdaaGreatDoor
namespace Go.Proofs.YtkalfdjmklakdaaGreatDoor
open Go.RowKit
theorem eqS (a b : ByteArray) : (a.toList == b.toList) = decide (a.data = b.data) := by
 rw [ByteArray.toList_eq, ByteArray.toList_eq, Bool.eq_iff_iff]
 simp
def optI : Option Nat → Int | some v => v | none => -1
def firstN (f : Nat → ByteArray) : Nat → ByteArray → Option Nat
 | 0, _ => none
 | k + 1, s => match firstN f k s with | some v => some v | none => if (f k).data = s.data then some k else none
theorem firstN_miss {f : Nat → ByteArray} {k : Nat} {s : ByteArray} (h : firstN f k s = none) (hn : (f k).data ≠ s.data) : firstN f (k + 1) s = none := by simp [firstN, h, hn]
theorem firstN_hit {f : Nat → ByteArray} {n k : Nat} {s : ByteArray} (hk : k < n) (h : firstN f k s = none) (he : (f k).data = s.data) : firstN f n s = some k := by
 induction n with
 | zero => omega
 | succ q ih =>
   by_cases e : k = q
   ·subst e; simp [firstN, h, he]
   ·simp [firstN, ih (by omega)]
theorem firstN_some {f : Nat → ByteArray} {n : Nat} {s : ByteArray} : (firstN f n s).isSome = (lastN f n s).isSome := by
 induction n with
 | zero => rfl
 | succ q ih =>
   by_cases e : (f q).data = s.data
   ·simp only [lastN, e, if_true, firstN]
    cases firstN f q s <;> rfl
   ·simp only [lastN, firstN, if_neg e]
    rw [← ih]
    cases firstN f q s <;> rfl
theorem optI_ge (o : Option Nat) : decide (0 ≤ optI o) = o.isSome := by
 cases o
 ·rfl
 ·simp [optI]
theorem lastN_skip {f : Nat → ByteArray} {q : Nat} {s : ByteArray} (h : (f q).data ≠ s.data) : lastN f (q + 1) s = lastN f q s := by simp [lastN, h]
theorem lastN_hit {f : Nat → ByteArray} {q : Nat} {s : ByteArray} (h : (f q).data = s.data) : lastN f (q + 1) s = some q := by simp [lastN, h]
set_option maxRecDepth 100000 in
set_option maxHeartbeats 2000000 in
theorem lineAt_ref (a : Option Addr) (n cap : Nat) (l : List Ln) (s : ByteArray) (p : Nat) (w : World) (hc : CameL w a l) (hn : l.length = n) (hm : n ≤ maxLen) (hp : p ≤ n) :
 Calls Tryz.prog 156 #[.slice a n cap, .string s, .int .i64 p] w fun e w' => e = .returned (.int .i64 (optI (lastN (fun j => (lnth l j).name) p s))) ∧ Below w.heap.size w w' := by
 have hm' : n ≤ 9223372036854775807 := by unfold maxLen at hm; omega
 have HO := Lib.hid (fun h0 => hc.open hn h0)
 clear hm hc
 go_enter Tryz.func156, Tryz.ntmps156
 go_wp2_with fail
 go_loopw [7] (fun i wr => ∃ q : Nat, q ≤ p ∧ i = .int .i64 ((q : Int) - 1) ∧ lastN (fun j => (lnth l j).name) p s = lastN (fun j => (lnth l j).name) q s ∧ Below w.heap.size w wr) (fun i _ => (intOf i + 1).toNat)
 case atStart => exact ⟨p, Nat.le_refl _, by go_num, rfl, Below.refl _ _⟩
 case round =>
  obtain ⟨q, hq, rfl, hf, hb⟩ := hrel
  have HF := Lib.hid hf
  have HB := Lib.hid hb
  clear hf hb
  by_cases h0 : q = 0
  ·subst h0
   have HR : Hid (optI (lastN (fun j => (lnth l j).name) p s) = -1) := by unfold Hid; rw [HF.out]; rfl
   go_wp2_with fail
   go_ret
   exact ⟨kret_int HR.out.symm, HB.out⟩
  ·obtain ⟨r, rfl⟩ : ∃ r, q = r + 1 := ⟨q - 1, by omega⟩
   rw [show (((r + 1 : Nat) : Int) - 1) = (r : Int) by omega]
   have hr0 : (0 : Int) ≤ (r : Int) := by omega
   have hlt' : (r : Int) < (n : Int) := by omega
   obtain ⟨b, off, rfl, hcell⟩ := HO.out (by omega)
   obtain ⟨aj, cj, ⟨x0, x1, x2, x3, x4, x5⟩, _⟩ := hcell wr HB.out r (by omega)
   clear hcell
   by_cases e : (lnth l r).name.data = s.data
   ·have hE : ((lnth l r).name.toList == s.toList) = true := by rw [eqS, decide_eq_true e]
    have HR : Hid (optI (lastN (fun j => (lnth l j).name) p s) = r) := by unfold Hid; rw [HF.out, lastN_hit (f := fun j => (lnth l j).name) e]; rfl
    go_wp2_with fail
    go_ret
    exact ⟨kret_int HR.out.symm, HB.out⟩
   ·have hE : ((lnth l r).name.toList == s.toList) = false := by rw [eqS, decide_eq_false e]
    have HN : Hid (lastN (fun j => (lnth l j).name) p s = lastN (fun j => (lnth l j).name) r s) := by unfold Hid; rw [HF.out, lastN_skip (f := fun j => (lnth l j).name) e]
    go_wp2_with fail
    go_roundw
    case rel => exact ⟨r, by omega, by go_num, HN.out, HB.out⟩
    case measure => simp [intOf]
set_option maxRecDepth 100000 in
set_option maxHeartbeats 2000000 in
theorem amountAt_ref (a : Option Addr) (n cap : Nat) (l : List Am) (s : ByteArray) (w : World) (hc : CameA w a l) (hn : l.length = n) (hm : n ≤ maxLen) :
 Calls Tryz.prog 157 #[.slice a n cap, .string s] w fun e w' => e = .returned (.int .i64 (optI (firstN (fun j => (anth l j).name) n s))) ∧ Below w.heap.size w w' := by
 have hm' : n ≤ 9223372036854775807 := by unfold maxLen at hm; omega
 have HO := Lib.hid (fun h0 => hc.open hn h0)
 clear hm hc
 go_enter Tryz.func157, Tryz.ntmps157
 go_wp2_with fail
 go_loopw [5] (fun i wr => ∃ q : Nat, q ≤ n ∧ i = .int .i64 q ∧ firstN (fun j => (anth l j).name) q s = none ∧ Below w.heap.size w wr) (fun i _ => n - (intOf i).toNat)
 case atStart => exact ⟨0, Nat.zero_le _, rfl, rfl, Below.refl _ _⟩
 case round =>
  obtain ⟨q, hq, rfl, hf, hb⟩ := hrel
  have HF := Lib.hid hf
  have HB := Lib.hid hb
  clear hf hb
  by_cases hlt : q < n
  ·have hlt' : (q : Int) < (n : Int) := by omega
   obtain ⟨b, off, rfl, hcell⟩ := HO.out (by omega)
   obtain ⟨x0, x1⟩ := hcell wr HB.out q hlt
   clear hcell
   by_cases e : (anth l q).name.data = s.data
   ·have hE : ((anth l q).name.toList == s.toList) = true := by rw [eqS, decide_eq_true e]
    have HR : Hid (optI (firstN (fun j => (anth l j).name) n s) = q) := by unfold Hid; rw [firstN_hit (f := fun j => (anth l j).name) hlt HF.out e]; rfl
    go_wp2_with fail
    go_ret
    exact ⟨kret_int HR.out.symm, HB.out⟩
   ·have hE : ((anth l q).name.toList == s.toList) = false := by rw [eqS, decide_eq_false e]
    have HN : Hid (firstN (fun j => (anth l j).name) (q + 1) s = none) := firstN_miss HF.out e
    go_wp2_with fail
    go_roundw
    case rel => exact ⟨q + 1, by omega, by go_num, HN.out, HB.out⟩
    case measure => simp [intOf]; omega
  ·have hqn : q = n := by omega
   subst hqn
   have HR : Hid (optI (firstN (fun j => (anth l j).name) q s) = -1) := by unfold Hid; rw [HF.out]; rfl
   go_wp2_with fail
   go_ret
   exact ⟨kret_int HR.out.symm, HB.out⟩
set_option maxRecDepth 100000 in
set_option maxHeartbeats 2000000 in
theorem tableAt_ref (a : Option Addr) (n cap : Nat) (l : List Tb) (s : ByteArray) (w : World) (hc : CameT w a l) (hn : l.length = n) (hm : n ≤ maxLen) :
 Calls Tryz.prog 204 #[.slice a n cap, .string s] w fun e w' => e = .returned (.int .i64 (optI (firstN (fun j => (tnth l j).name) n s))) ∧ Below w.heap.size w w' := by
 have hm' : n ≤ 9223372036854775807 := by unfold maxLen at hm; omega
 have HO := Lib.hid (fun h0 => hc.open hn h0)
 clear hm hc
 go_enter Tryz.func204, Tryz.ntmps204
 go_wp2_with fail
 go_loopw [5] (fun i wr => ∃ q : Nat, q ≤ n ∧ i = .int .i64 q ∧ firstN (fun j => (tnth l j).name) q s = none ∧ Below w.heap.size w wr) (fun i _ => n - (intOf i).toNat)
 case atStart => exact ⟨0, Nat.zero_le _, rfl, rfl, Below.refl _ _⟩
 case round =>
  obtain ⟨q, hq, rfl, hf, hb⟩ := hrel
  have HF := Lib.hid hf
  have HB := Lib.hid hb
  clear hf hb
  by_cases hlt : q < n
  ·have hlt' : (q : Int) < (n : Int) := by omega
   obtain ⟨b, off, rfl, hcell⟩ := HO.out (by omega)
   obtain ⟨ax, cx, x0, x1, _⟩ := hcell wr HB.out q hlt
   clear hcell
   by_cases e : (tnth l q).name.data = s.data
   ·have hE : ((tnth l q).name.toList == s.toList) = true := by rw [eqS, decide_eq_true e]
    have HR : Hid (optI (firstN (fun j => (tnth l j).name) n s) = q) := by unfold Hid; rw [firstN_hit (f := fun j => (tnth l j).name) hlt HF.out e]; rfl
    go_wp2_with fail
    go_ret
    exact ⟨kret_int HR.out.symm, HB.out⟩
   ·have hE : ((tnth l q).name.toList == s.toList) = false := by rw [eqS, decide_eq_false e]
    have HN : Hid (firstN (fun j => (tnth l j).name) (q + 1) s = none) := firstN_miss HF.out e
    go_wp2_with fail
    go_roundw
    case rel => exact ⟨q + 1, by omega, by go_num, HN.out, HB.out⟩
    case measure => simp [intOf]; omega
  ·have hqn : q = n := by omega
   subst hqn
   have HR : Hid (optI (firstN (fun j => (tnth l j).name) q s) = -1) := by unfold Hid; rw [HF.out]; rfl
   go_wp2_with fail
   go_ret
   exact ⟨kret_int HR.out.symm, HB.out⟩
end Go.Proofs.YtkalfdjmklakdaaGreatDoor
namespace Go.Proofs.YtkalfdjmklakdaaGreatDoor
open Go.RowKit
set_option maxRecDepth 100000 in
set_option maxHeartbeats 2000000 in
theorem lineAt_same (a : Option Addr) (n cap : Nat) (l : List Ln) (s : ByteArray) (p : Nat) (w : World) (hc : CameL w a l) (hn : l.length = n) (hm : n ≤ maxLen) (hp : p ≤ n) :
 Calls Tryz.prog 156 #[.slice a n cap, .string s, .int .i64 p] w fun e w' => e = .returned (.int .i64 (optI (lastN (fun j => (lnth l j).name) p s))) ∧ w' = w := by
 have hm' : n ≤ 9223372036854775807 := by unfold maxLen at hm; omega
 have HO := Lib.hid (fun h0 => hc.open hn h0)
 clear hm hc
 go_enter Tryz.func156, Tryz.ntmps156
 go_wp2_with fail
 go_loop [7] (fun i => ∃ q : Nat, q ≤ p ∧ i = .int .i64 ((q : Int) - 1) ∧ lastN (fun j => (lnth l j).name) p s = lastN (fun j => (lnth l j).name) q s) (fun i => (intOf i + 1).toNat)
 case atStart => exact ⟨p, Nat.le_refl _, by go_num, rfl⟩
 case round =>
  obtain ⟨q, hq, rfl, hf⟩ := hrel
  have HF := Lib.hid hf
  clear hf
  by_cases h0 : q = 0
  ·subst h0
   have HR : Hid (optI (lastN (fun j => (lnth l j).name) p s) = -1) := by unfold Hid; rw [HF.out]; rfl
   go_wp2_with fail
   go_ret
   exact ⟨kret_int HR.out.symm, rfl⟩
  ·obtain ⟨r, rfl⟩ : ∃ r, q = r + 1 := ⟨q - 1, by omega⟩
   rw [show (((r + 1 : Nat) : Int) - 1) = (r : Int) by omega]
   have hr0 : (0 : Int) ≤ (r : Int) := by omega
   have hlt' : (r : Int) < (n : Int) := by omega
   obtain ⟨b, off, rfl, hcell⟩ := HO.out (by omega)
   obtain ⟨aj, cj, ⟨x0, x1, x2, x3, x4, x5⟩, _⟩ := hcell w (Below.refl _ _) r (by omega)
   clear hcell
   by_cases e : (lnth l r).name.data = s.data
   ·have hE : ((lnth l r).name.toList == s.toList) = true := by rw [eqS, decide_eq_true e]
    have HR : Hid (optI (lastN (fun j => (lnth l j).name) p s) = r) := by unfold Hid; rw [HF.out, lastN_hit (f := fun j => (lnth l j).name) e]; rfl
    go_wp2_with fail
    go_ret
    exact ⟨kret_int HR.out.symm, rfl⟩
   ·have hE : ((lnth l r).name.toList == s.toList) = false := by rw [eqS, decide_eq_false e]
    have HN : Hid (lastN (fun j => (lnth l j).name) p s = lastN (fun j => (lnth l j).name) r s) := by unfold Hid; rw [HF.out, lastN_skip (f := fun j => (lnth l j).name) e]
    go_wp2_with fail
    go_round
    case rel => exact ⟨r, by omega, by go_num, HN.out⟩
    case measure => simp [intOf]
set_option maxRecDepth 100000 in
set_option maxHeartbeats 2000000 in
theorem amountAt_same (a : Option Addr) (n cap : Nat) (l : List Am) (s : ByteArray) (w : World) (hc : CameA w a l) (hn : l.length = n) (hm : n ≤ maxLen) :
 Calls Tryz.prog 157 #[.slice a n cap, .string s] w fun e w' => e = .returned (.int .i64 (optI (firstN (fun j => (anth l j).name) n s))) ∧ w' = w := by
 have hm' : n ≤ 9223372036854775807 := by unfold maxLen at hm; omega
 have HO := Lib.hid (fun h0 => hc.open hn h0)
 clear hm hc
 go_enter Tryz.func157, Tryz.ntmps157
 go_wp2_with fail
 go_loop [5] (fun i => ∃ q : Nat, q ≤ n ∧ i = .int .i64 q ∧ firstN (fun j => (anth l j).name) q s = none) (fun i => n - (intOf i).toNat)
 case atStart => exact ⟨0, Nat.zero_le _, rfl, rfl⟩
 case round =>
  obtain ⟨q, hq, rfl, hf⟩ := hrel
  have HF := Lib.hid hf
  clear hf
  by_cases hlt : q < n
  ·have hlt' : (q : Int) < (n : Int) := by omega
   obtain ⟨b, off, rfl, hcell⟩ := HO.out (by omega)
   obtain ⟨x0, x1⟩ := hcell w (Below.refl _ _) q hlt
   clear hcell
   by_cases e : (anth l q).name.data = s.data
   ·have hE : ((anth l q).name.toList == s.toList) = true := by rw [eqS, decide_eq_true e]
    have HR : Hid (optI (firstN (fun j => (anth l j).name) n s) = q) := by unfold Hid; rw [firstN_hit (f := fun j => (anth l j).name) hlt HF.out e]; rfl
    go_wp2_with fail
    go_ret
    exact ⟨kret_int HR.out.symm, rfl⟩
   ·have hE : ((anth l q).name.toList == s.toList) = false := by rw [eqS, decide_eq_false e]
    have HN : Hid (firstN (fun j => (anth l j).name) (q + 1) s = none) := firstN_miss HF.out e
    go_wp2_with fail
    go_round
    case rel => exact ⟨q + 1, by omega, by go_num, HN.out⟩
    case measure => simp [intOf]; omega
  ·have hqn : q = n := by omega
   subst hqn
   have HR : Hid (optI (firstN (fun j => (anth l j).name) q s) = -1) := by unfold Hid; rw [HF.out]; rfl
   go_wp2_with fail
   go_ret
   exact ⟨kret_int HR.out.symm, rfl⟩
end Go.Proofs.YtkalfdjmklakdaaGreatDoor
namespace Go.Proofs.YtkalfdjmklakdaaGreatDoor
open Go.RowKit Go.Sort
theorem vals_none {l : List Ln} {k : Kn} {p : Nat} {s : ByteArray} (h : (lastN (fun j => (lnth l j).name) p s).isSome = false) : (valsK l k p s).isSome = (firstN (fun j => (anth k.ins j).name) k.ins.length s).isSome := by
 rw [firstN_some]
 unfold valsK
 cases e : lastN (fun j => (lnth l j).name) p s
 ·rfl
 ·rw [e] at h; cases h
theorem vals_some {l : List Ln} {k : Kn} {p : Nat} {s : ByteArray} (h : (lastN (fun j => (lnth l j).name) p s).isSome = true) : (valsK l k p s).isSome = true := by
 unfold valsK
 cases e : lastN (fun j => (lnth l j).name) p s
 ·rw [e] at h; cases h
 ·rfl
set_option maxRecDepth 100000 in
set_option maxHeartbeats 8000000 in
theorem means_ref (a : Option Addr) (n0 cap : Nat) (l : List Ln) (p : Nat) (a1 a2 a3 : Option Addr) (n1 n2 n3 c1 c2 c3 : Nat) (k : Kn) (hn : l.length = n0) (hm0 : n0 ≤ maxLen) (hp : p ≤ n0) (h1 : k.ins.length = n1) (h2 : k.tbs.length = n2) (x : Ex) : ∀ (ax : Option Addr) (cx : Nat) (w : World), KidsAt w x ax → CameL w a l → CameK w a1 a2 a3 k →
 Calls Tryz.prog 158 #[.agg #[.int .i64 x.k, .int .i64 x.n, .string x.s, .slice ax x.m cx], .slice a n0 cap, .int .i64 p, .agg #[.slice a1 n1 c1, .slice a2 n2 c2, .slice a3 n3 c3]] w fun e w' => e = .returned (.bool (x.all (knowB (valsK l k p) (linesG l) (tabsG k)))) ∧ Below w.heap.size w w' := by
 have HN := Lib.hid hn
 have HM0 := Lib.hid hm0
 have HP0 := Lib.hid hp
 have H1 := Lib.hid h1
 have H2 := Lib.hid h2
 have hn0 : n0 ≤ 9223372036854775807 := by unfold maxLen at hm0; omega
 clear hn hm0 hp h1 h2
 have HPD : Hid (∃ P, P = knowB (valsK l k p) (linesG l) (tabsG k)) := ⟨_, rfl⟩
 obtain ⟨P, hP⟩ := HPD.out
 rw [← hP]
 have HPE := Lib.hid hP
 clear HPD hP
 induction x with
 | no => intro ax cx w h; exact h.elim
 | mk kk n s m kid ih =>
   intro ax cx w hk hl hc
   show Calls Tryz.prog 158 #[.agg #[.int .i64 kk, .int .i64 n, .string s, .slice ax m cx], .slice a n0 cap, .int .i64 p, .agg #[.slice a1 n1 c1, .slice a2 n2 c2, .slice a3 n3 c3]] w _
   have hm : m ≤ 9223372036854775807 := by have := hk.many; unfold maxLen at this; exact this
   have HK := Lib.hid hk
   have HL := Lib.hid hl
   have HC := Lib.hid hc
   have HIH := Lib.hid ih
   have HM := Lib.hid (all_mk P kk n s m kid)
   clear hk hl hc ih
   generalize (Ex.mk kk n s m kid).all P = z at *
   have HB0 := Lib.hid (kbelow_box w (.cells #[.int .i64 kk, .int .i64 n, .string s, .slice ax m cx] 71))
   have HX0 := Lib.hid (XBox.made w kk n s ax m cx 71)
   have HB2 := Lib.hid (HB0.out.alloc HB0.out.size (.cells #[.slice a1 n1 c1, .slice a2 n2 c2, .slice a3 n3 c3] 124))
   have HX2 := Lib.hid (HX0.out.below (kbelow_box _ (.cells #[.slice a1 n1 c1, .slice a2 n2 c2, .slice a3 n3 c3] 124)))
   have HK2 : Hid (KAt ((w.alloc (.cells #[.int .i64 kk, .int .i64 n, .string s, .slice ax m cx] 71)).alloc (.cells #[.slice a1 n1 c1, .slice a2 n2 c2, .slice a3 n3 c3] 124)) (w.heap.size + 1) (.slice a1 n1 c1) (.slice a2 n2 c2) (.slice a3 n3 c3)) := by
    refine ⟨?_, ?_, ?_, ?_⟩ <;> simp
   clear HB0 HX0
   go_enter Tryz.func158, Tryz.ntmps158
   by_cases hk2 : kk = 2
   ·have HPK : Hid (P kk s = (valsK l k p s).isSome) := by unfold Hid; rw [HPE.out, hk2]; rfl
    subst hk2
    go_wp2_with fail
    refine (lineAt_ref a n0 cap l s p _ (HL.out.below HB2.out) HN.out HM0.out HP0.out).mono ?_
    rintro e w1 ⟨rfl, hb1⟩
    have HB1 := HB2
    have HX1 := HX2
    have HK1 := HK2
    clear HB2 HX2 HK2
    have HB2 := Lib.hid (HB1.out.trans (hb1.mono HB1.out.size))
    have HX2 := Lib.hid (HX1.out.below hb1)
    have HK2 := Lib.hid (KAt.below HK1.out hb1)
    clear hb1 HB1 HX1 HK1
    obtain ⟨_, v0, v1, v2, v3⟩ := HX2.out
    obtain ⟨_, t0, t1, t2⟩ := HK2.out
    have hge := optI_ge (lastN (fun j => (lnth l j).name) p s)
    cases ho : (lastN (fun j => (lnth l j).name) p s).isSome
    ·rw [ho] at hge
     have HV : Hid (P 2 s = (firstN (fun j => (anth k.ins j).name) n1 s).isSome) := by unfold Hid; rw [HPK.out, vals_none ho, H1.out]
     clear HPK ho
     generalize optI (lastN (fun j => (lnth l j).name) p s) = r at *
     go_wp2_with fail
     refine (amountAt_ref a1 n1 c1 k.ins s _ (HC.out.1.below HB2.out) H1.out (by have := HC.out.2.2.2.2.2.1; have := H1.out; omega)).mono ?_
     rintro e w1 ⟨rfl, hb1⟩
     have HB1 := HB2
     have HX1 := HX2
     have HK1 := HK2
     clear HB2 HX2 HK2
     have HB2 := Lib.hid (HB1.out.trans (hb1.mono HB1.out.size))
     have HX2 := Lib.hid (HX1.out.below hb1)
     have HK2 := Lib.hid (KAt.below HK1.out hb1)
     clear hb1 HB1 HX1 HK1
     obtain ⟨_, v0, v1, v2, v3⟩ := HX2.out
     obtain ⟨_, t0, t1, t2⟩ := HK2.out
     have hge2 := optI_ge (firstN (fun j => (anth k.ins j).name) n1 s)
     cases hq : (firstN (fun j => (anth k.ins j).name) n1 s).isSome
     ·rw [hq] at hge2
      have HP : Hid (P 2 s = false) := by unfold Hid; rw [HV.out, hq]
      clear HV hq
      generalize optI (firstN (fun j => (anth k.ins j).name) n1 s) = r2 at *
      obtain ⟨kk, hkk⟩ : ∃ kk : Int, kk = 2 := ⟨_, rfl⟩
      rw [← hkk] at HX2 HM HP
      go_wp2_with fail
      go_loopw [9, 10] (fun ov i wr => ∃ (j : Nat) (bk : Bool), j ≤ m ∧ i = .int .i64 j ∧ ov = .bool bk ∧ (false && allN (fun j => (kid j).all P) j) = bk ∧ XBox wr w.heap.size kk n s ax m cx ∧ KAt wr (w.heap.size + 1) (.slice a1 n1 c1) (.slice a2 n2 c2) (.slice a3 n3 c3) ∧ Below w.heap.size w wr) (fun _ i _ => m - (intOf i).toNat)
      case atStart => exact ⟨0, false, Nat.zero_le _, rfl, rfl, rfl, HX2.out, HK2.out, HB2.out⟩
      case round =>
       obtain ⟨j, bk, hj, rfl, rfl, hf, hx, hkk, hb⟩ := hrel
       have HF := Lib.hid hf
       have HX := Lib.hid hx
       have HKK := Lib.hid hkk
       have HB := Lib.hid hb
       clear hf hx hkk hb
       obtain ⟨_, v0, v1, v2, v3⟩ := HX.out
       obtain ⟨_, t0, t1, t2⟩ := HKK.out
       by_cases hlt : j < m
       ·have hlt' : (j : Int) < (m : Int) := by omega
        obtain ⟨b, off, rfl, hcell⟩ := HK.out.open (show 0 < m by omega)
        obtain ⟨aj, cj, ⟨x0, x1, x2, x3⟩, hkj⟩ := hcell wr HB.out j hlt
        have HKJ := Lib.hid hkj
        clear hcell hkj
        have x0' : wr.cell? ⟨b, off + j * 4, none⟩ = some (.int .i64 (kid j).k) := x0
        have x1' : wr.cell? ⟨b, off + j * 4 + 1, none⟩ = some (.int .i64 (kid j).n) := x1
        have x2' : wr.cell? ⟨b, off + j * 4 + 2, none⟩ = some (.string (kid j).s) := x2
        have x3' : wr.cell? ⟨b, off + j * 4 + 3, none⟩ = some (.slice aj (kid j).m cj) := x3
        clear x0 x1 x2 x3
        have z0 := cell_regrown x0'
        have z1 := cell_regrown x1'
        have z2 := cell_regrown x2'
        have z3 := cell_regrown x3'
        have z4 := cell_regrown v3
        have z5 := cell_regrown t0
        have z6 := cell_regrown t1
        have z7 := cell_regrown t2
        cases bk
        ·have HF1 : Hid ((false && allN (fun j => (kid j).all P) (j + 1)) = false) := by
          have h := HF.out
          unfold Hid
          simp only [allN]
          rw [← Bool.and_assoc, h]
          rfl
         clear z0 z1 z2 z3 z4 z5 z6 z7
         go_wp2_with fail
         go_quiet (fail)
         go_wp2_with fail
         go_roundw
         case rel => exact ⟨j + 1, false, by omega, by go_num, rfl, HF1.out, HX.out.below (kbelow_dN (Below.refl _ _) _), HKK.out.below (kbelow_dN (Below.refl _ _) _), kbelow_dN HB.out _⟩
         case measure => simp [intOf]; omega
        ·have HF1 : Hid ((false && allN (fun j => (kid j).all P) (j + 1)) = (kid j).all P) := by
          have h := HF.out
          unfold Hid
          simp only [allN]
          rw [← Bool.and_assoc, h]
          rfl
         go_wp2_with fail
         refine wp_region_quiet_below (by kernel_rfl) (by kernel_rfl) ?_
         repeat (quiet_step (exact Calls.regrown_of (HIH.out j aj cj _ (HKJ.out.below (below_regrown wr _ _)) ((HL.out.below HB.out).below (below_regrown wr _ _)) ((HC.out.below HB.out).below (below_regrown wr _ _)))))
         refine wpQuiet_nil ?_
         intro _ hw'
         obtain ⟨⟨dq, osq⟩, hw''⟩ := hw'
         subst hw''
         generalize (kid j).all P = y at *
         go_wp2_with fail
         go_roundw
         case rel => exact ⟨j + 1, y, by omega, by go_num, rfl, HF1.out, HX.out.below (below_regrown wr dq osq), HKK.out.below (below_regrown wr dq osq), HB.out.trans ((below_regrown wr dq osq).mono HB.out.size)⟩
         case measure => simp [intOf]; omega
       ·have hjm : j = m := by omega
        subst hjm
        have HR : Hid (z = bk) := by unfold Hid; rw [HM.out, HP.out, HF.out]
        go_wp2_with fail
        go_ret
        exact ⟨kret_bool HR.out.symm, HB.out⟩
     ·rw [hq] at hge2
      have HP : Hid (P 2 s = true) := by unfold Hid; rw [HV.out, hq]
      clear HV hq
      generalize optI (firstN (fun j => (anth k.ins j).name) n1 s) = r2 at *
      obtain ⟨kk, hkk⟩ : ∃ kk : Int, kk = 2 := ⟨_, rfl⟩
      rw [← hkk] at HX2 HM HP
      go_wp2_with fail
      go_loopw [9, 10] (fun ov i wr => ∃ (j : Nat) (bk : Bool), j ≤ m ∧ i = .int .i64 j ∧ ov = .bool bk ∧ (true && allN (fun j => (kid j).all P) j) = bk ∧ XBox wr w.heap.size kk n s ax m cx ∧ KAt wr (w.heap.size + 1) (.slice a1 n1 c1) (.slice a2 n2 c2) (.slice a3 n3 c3) ∧ Below w.heap.size w wr) (fun _ i _ => m - (intOf i).toNat)
      case atStart => exact ⟨0, true, Nat.zero_le _, rfl, rfl, rfl, HX2.out, HK2.out, HB2.out⟩
      case round =>
       obtain ⟨j, bk, hj, rfl, rfl, hf, hx, hkk, hb⟩ := hrel
       have HF := Lib.hid hf
       have HX := Lib.hid hx
       have HKK := Lib.hid hkk
       have HB := Lib.hid hb
       clear hf hx hkk hb
       obtain ⟨_, v0, v1, v2, v3⟩ := HX.out
       obtain ⟨_, t0, t1, t2⟩ := HKK.out
       by_cases hlt : j < m
       ·have hlt' : (j : Int) < (m : Int) := by omega
        obtain ⟨b, off, rfl, hcell⟩ := HK.out.open (show 0 < m by omega)
        obtain ⟨aj, cj, ⟨x0, x1, x2, x3⟩, hkj⟩ := hcell wr HB.out j hlt
        have HKJ := Lib.hid hkj
        clear hcell hkj
        have x0' : wr.cell? ⟨b, off + j * 4, none⟩ = some (.int .i64 (kid j).k) := x0
        have x1' : wr.cell? ⟨b, off + j * 4 + 1, none⟩ = some (.int .i64 (kid j).n) := x1
        have x2' : wr.cell? ⟨b, off + j * 4 + 2, none⟩ = some (.string (kid j).s) := x2
        have x3' : wr.cell? ⟨b, off + j * 4 + 3, none⟩ = some (.slice aj (kid j).m cj) := x3
        clear x0 x1 x2 x3
        have z0 := cell_regrown x0'
        have z1 := cell_regrown x1'
        have z2 := cell_regrown x2'
        have z3 := cell_regrown x3'
        have z4 := cell_regrown v3
        have z5 := cell_regrown t0
        have z6 := cell_regrown t1
        have z7 := cell_regrown t2
        cases bk
        ·have HF1 : Hid ((true && allN (fun j => (kid j).all P) (j + 1)) = false) := by
          have h := HF.out
          unfold Hid
          simp only [allN]
          rw [← Bool.and_assoc, h]
          rfl
         clear z0 z1 z2 z3 z4 z5 z6 z7
         go_wp2_with fail
         go_quiet (fail)
         go_wp2_with fail
         go_roundw
         case rel => exact ⟨j + 1, false, by omega, by go_num, rfl, HF1.out, HX.out.below (kbelow_dN (Below.refl _ _) _), HKK.out.below (kbelow_dN (Below.refl _ _) _), kbelow_dN HB.out _⟩
         case measure => simp [intOf]; omega
        ·have HF1 : Hid ((true && allN (fun j => (kid j).all P) (j + 1)) = (kid j).all P) := by
          have h := HF.out
          unfold Hid
          simp only [allN]
          rw [← Bool.and_assoc, h]
          rfl
         go_wp2_with fail
         refine wp_region_quiet_below (by kernel_rfl) (by kernel_rfl) ?_
         repeat (quiet_step (exact Calls.regrown_of (HIH.out j aj cj _ (HKJ.out.below (below_regrown wr _ _)) ((HL.out.below HB.out).below (below_regrown wr _ _)) ((HC.out.below HB.out).below (below_regrown wr _ _)))))
         refine wpQuiet_nil ?_
         intro _ hw'
         obtain ⟨⟨dq, osq⟩, hw''⟩ := hw'
         subst hw''
         generalize (kid j).all P = y at *
         go_wp2_with fail
         go_roundw
         case rel => exact ⟨j + 1, y, by omega, by go_num, rfl, HF1.out, HX.out.below (below_regrown wr dq osq), HKK.out.below (below_regrown wr dq osq), HB.out.trans ((below_regrown wr dq osq).mono HB.out.size)⟩
         case measure => simp [intOf]; omega
       ·have hjm : j = m := by omega
        subst hjm
        have HR : Hid (z = bk) := by unfold Hid; rw [HM.out, HP.out, HF.out]
        go_wp2_with fail
        go_ret
        exact ⟨kret_bool HR.out.symm, HB.out⟩
    ·rw [ho] at hge
     have HP : Hid (P 2 s = true) := by unfold Hid; rw [HPK.out, vals_some ho]
     clear HPK ho
     generalize optI (lastN (fun j => (lnth l j).name) p s) = r at *
     obtain ⟨kk, hkk⟩ : ∃ kk : Int, kk = 2 := ⟨_, rfl⟩
     rw [← hkk] at HX2 HM HP
     go_wp2_with fail
     go_loopw [9, 10] (fun ov i wr => ∃ (j : Nat) (bk : Bool), j ≤ m ∧ i = .int .i64 j ∧ ov = .bool bk ∧ (true && allN (fun j => (kid j).all P) j) = bk ∧ XBox wr w.heap.size kk n s ax m cx ∧ KAt wr (w.heap.size + 1) (.slice a1 n1 c1) (.slice a2 n2 c2) (.slice a3 n3 c3) ∧ Below w.heap.size w wr) (fun _ i _ => m - (intOf i).toNat)
     case atStart => exact ⟨0, true, Nat.zero_le _, rfl, rfl, rfl, HX2.out, HK2.out, HB2.out⟩
     case round =>
      obtain ⟨j, bk, hj, rfl, rfl, hf, hx, hkk, hb⟩ := hrel
      have HF := Lib.hid hf
      have HX := Lib.hid hx
      have HKK := Lib.hid hkk
      have HB := Lib.hid hb
      clear hf hx hkk hb
      obtain ⟨_, v0, v1, v2, v3⟩ := HX.out
      obtain ⟨_, t0, t1, t2⟩ := HKK.out
      by_cases hlt : j < m
      ·have hlt' : (j : Int) < (m : Int) := by omega
       obtain ⟨b, off, rfl, hcell⟩ := HK.out.open (show 0 < m by omega)
       obtain ⟨aj, cj, ⟨x0, x1, x2, x3⟩, hkj⟩ := hcell wr HB.out j hlt
       have HKJ := Lib.hid hkj
       clear hcell hkj
       have x0' : wr.cell? ⟨b, off + j * 4, none⟩ = some (.int .i64 (kid j).k) := x0
       have x1' : wr.cell? ⟨b, off + j * 4 + 1, none⟩ = some (.int .i64 (kid j).n) := x1
       have x2' : wr.cell? ⟨b, off + j * 4 + 2, none⟩ = some (.string (kid j).s) := x2
       have x3' : wr.cell? ⟨b, off + j * 4 + 3, none⟩ = some (.slice aj (kid j).m cj) := x3
       clear x0 x1 x2 x3
       have z0 := cell_regrown x0'
       have z1 := cell_regrown x1'
       have z2 := cell_regrown x2'
       have z3 := cell_regrown x3'
       have z4 := cell_regrown v3
       have z5 := cell_regrown t0
       have z6 := cell_regrown t1
       have z7 := cell_regrown t2
       cases bk
       ·have HF1 : Hid ((true && allN (fun j => (kid j).all P) (j + 1)) = false) := by
         have h := HF.out
         unfold Hid
         simp only [allN]
         rw [← Bool.and_assoc, h]
         rfl
        clear z0 z1 z2 z3 z4 z5 z6 z7
        go_wp2_with fail
        go_quiet (fail)
        go_wp2_with fail
        go_roundw
        case rel => exact ⟨j + 1, false, by omega, by go_num, rfl, HF1.out, HX.out.below (kbelow_dN (Below.refl _ _) _), HKK.out.below (kbelow_dN (Below.refl _ _) _), kbelow_dN HB.out _⟩
        case measure => simp [intOf]; omega
       ·have HF1 : Hid ((true && allN (fun j => (kid j).all P) (j + 1)) = (kid j).all P) := by
         have h := HF.out
         unfold Hid
         simp only [allN]
         rw [← Bool.and_assoc, h]
         rfl
        go_wp2_with fail
        refine wp_region_quiet_below (by kernel_rfl) (by kernel_rfl) ?_
        repeat (quiet_step (exact Calls.regrown_of (HIH.out j aj cj _ (HKJ.out.below (below_regrown wr _ _)) ((HL.out.below HB.out).below (below_regrown wr _ _)) ((HC.out.below HB.out).below (below_regrown wr _ _)))))
        refine wpQuiet_nil ?_
        intro _ hw'
        obtain ⟨⟨dq, osq⟩, hw''⟩ := hw'
        subst hw''
        generalize (kid j).all P = y at *
        go_wp2_with fail
        go_roundw
        case rel => exact ⟨j + 1, y, by omega, by go_num, rfl, HF1.out, HX.out.below (below_regrown wr dq osq), HKK.out.below (below_regrown wr dq osq), HB.out.trans ((below_regrown wr dq osq).mono HB.out.size)⟩
        case measure => simp [intOf]; omega
      ·have hjm : j = m := by omega
       subst hjm
       have HR : Hid (z = bk) := by unfold Hid; rw [HM.out, HP.out, HF.out]
       go_wp2_with fail
       go_ret
       exact ⟨kret_bool HR.out.symm, HB.out⟩
   ·have hk2B : decide (kk = 2) = false := decide_eq_false hk2
    have hk2E : (kk == 2) = false := by simpa using hk2
    by_cases hk3 : kk = 3
    ·have HPK : Hid (P kk s = (linesG l s).isSome) := by unfold Hid; rw [HPE.out, hk3]; rfl
     clear hk2 hk2B hk2E
     subst hk3
     go_wp2_with fail
     refine (lineAt_ref a n0 cap l s n0 _ (HL.out.below HB2.out) HN.out HM0.out (Nat.le_refl _)).mono ?_
     rintro e w1 ⟨rfl, hb1⟩
     have HB1 := HB2
     have HX1 := HX2
     have HK1 := HK2
     clear HB2 HX2 HK2
     have HB2 := Lib.hid (HB1.out.trans (hb1.mono HB1.out.size))
     have HX2 := Lib.hid (HX1.out.below hb1)
     have HK2 := Lib.hid (KAt.below HK1.out hb1)
     clear hb1 HB1 HX1 HK1
     obtain ⟨_, v0, v1, v2, v3⟩ := HX2.out
     obtain ⟨_, t0, t1, t2⟩ := HK2.out
     have hge := optI_ge (lastN (fun j => (lnth l j).name) n0 s)
     have HV : Hid (P 3 s = (lastN (fun j => (lnth l j).name) n0 s).isSome) := by unfold Hid; rw [HPK.out]; unfold linesG; rw [HN.out]
     clear HPK
     cases ho : (lastN (fun j => (lnth l j).name) n0 s).isSome
     ·rw [ho] at hge
      have HP : Hid (P 3 s = false) := by unfold Hid; rw [HV.out, ho]
      clear HV ho
      generalize optI (lastN (fun j => (lnth l j).name) n0 s) = r at *
      obtain ⟨kk, hkk⟩ : ∃ kk : Int, kk = 3 := ⟨_, rfl⟩
      rw [← hkk] at HX2 HM HP
      go_wp2_with fail
      go_loopw [9, 10] (fun ov i wr => ∃ (j : Nat) (bk : Bool), j ≤ m ∧ i = .int .i64 j ∧ ov = .bool bk ∧ (false && allN (fun j => (kid j).all P) j) = bk ∧ XBox wr w.heap.size kk n s ax m cx ∧ KAt wr (w.heap.size + 1) (.slice a1 n1 c1) (.slice a2 n2 c2) (.slice a3 n3 c3) ∧ Below w.heap.size w wr) (fun _ i _ => m - (intOf i).toNat)
      case atStart => exact ⟨0, false, Nat.zero_le _, rfl, rfl, rfl, HX2.out, HK2.out, HB2.out⟩
      case round =>
       obtain ⟨j, bk, hj, rfl, rfl, hf, hx, hkk, hb⟩ := hrel
       have HF := Lib.hid hf
       have HX := Lib.hid hx
       have HKK := Lib.hid hkk
       have HB := Lib.hid hb
       clear hf hx hkk hb
       obtain ⟨_, v0, v1, v2, v3⟩ := HX.out
       obtain ⟨_, t0, t1, t2⟩ := HKK.out
       by_cases hlt : j < m
       ·have hlt' : (j : Int) < (m : Int) := by omega
        obtain ⟨b, off, rfl, hcell⟩ := HK.out.open (show 0 < m by omega)
        obtain ⟨aj, cj, ⟨x0, x1, x2, x3⟩, hkj⟩ := hcell wr HB.out j hlt
        have HKJ := Lib.hid hkj
        clear hcell hkj
        have x0' : wr.cell? ⟨b, off + j * 4, none⟩ = some (.int .i64 (kid j).k) := x0
        have x1' : wr.cell? ⟨b, off + j * 4 + 1, none⟩ = some (.int .i64 (kid j).n) := x1
        have x2' : wr.cell? ⟨b, off + j * 4 + 2, none⟩ = some (.string (kid j).s) := x2
        have x3' : wr.cell? ⟨b, off + j * 4 + 3, none⟩ = some (.slice aj (kid j).m cj) := x3
        clear x0 x1 x2 x3
        have z0 := cell_regrown x0'
        have z1 := cell_regrown x1'
        have z2 := cell_regrown x2'
        have z3 := cell_regrown x3'
        have z4 := cell_regrown v3
        have z5 := cell_regrown t0
        have z6 := cell_regrown t1
        have z7 := cell_regrown t2
        cases bk
        ·have HF1 : Hid ((false && allN (fun j => (kid j).all P) (j + 1)) = false) := by
          have h := HF.out
          unfold Hid
          simp only [allN]
          rw [← Bool.and_assoc, h]
          rfl
         clear z0 z1 z2 z3 z4 z5 z6 z7
         go_wp2_with fail
         go_quiet (fail)
         go_wp2_with fail
         go_roundw
         case rel => exact ⟨j + 1, false, by omega, by go_num, rfl, HF1.out, HX.out.below (kbelow_dN (Below.refl _ _) _), HKK.out.below (kbelow_dN (Below.refl _ _) _), kbelow_dN HB.out _⟩
         case measure => simp [intOf]; omega
        ·have HF1 : Hid ((false && allN (fun j => (kid j).all P) (j + 1)) = (kid j).all P) := by
          have h := HF.out
          unfold Hid
          simp only [allN]
          rw [← Bool.and_assoc, h]
          rfl
         go_wp2_with fail
         refine wp_region_quiet_below (by kernel_rfl) (by kernel_rfl) ?_
         repeat (quiet_step (exact Calls.regrown_of (HIH.out j aj cj _ (HKJ.out.below (below_regrown wr _ _)) ((HL.out.below HB.out).below (below_regrown wr _ _)) ((HC.out.below HB.out).below (below_regrown wr _ _)))))
         refine wpQuiet_nil ?_
         intro _ hw'
         obtain ⟨⟨dq, osq⟩, hw''⟩ := hw'
         subst hw''
         generalize (kid j).all P = y at *
         go_wp2_with fail
         go_roundw
         case rel => exact ⟨j + 1, y, by omega, by go_num, rfl, HF1.out, HX.out.below (below_regrown wr dq osq), HKK.out.below (below_regrown wr dq osq), HB.out.trans ((below_regrown wr dq osq).mono HB.out.size)⟩
         case measure => simp [intOf]; omega
       ·have hjm : j = m := by omega
        subst hjm
        have HR : Hid (z = bk) := by unfold Hid; rw [HM.out, HP.out, HF.out]
        go_wp2_with fail
        go_ret
        exact ⟨kret_bool HR.out.symm, HB.out⟩
     ·rw [ho] at hge
      have HP : Hid (P 3 s = true) := by unfold Hid; rw [HV.out, ho]
      clear HV ho
      generalize optI (lastN (fun j => (lnth l j).name) n0 s) = r at *
      obtain ⟨kk, hkk⟩ : ∃ kk : Int, kk = 3 := ⟨_, rfl⟩
      rw [← hkk] at HX2 HM HP
      go_wp2_with fail
      go_loopw [9, 10] (fun ov i wr => ∃ (j : Nat) (bk : Bool), j ≤ m ∧ i = .int .i64 j ∧ ov = .bool bk ∧ (true && allN (fun j => (kid j).all P) j) = bk ∧ XBox wr w.heap.size kk n s ax m cx ∧ KAt wr (w.heap.size + 1) (.slice a1 n1 c1) (.slice a2 n2 c2) (.slice a3 n3 c3) ∧ Below w.heap.size w wr) (fun _ i _ => m - (intOf i).toNat)
      case atStart => exact ⟨0, true, Nat.zero_le _, rfl, rfl, rfl, HX2.out, HK2.out, HB2.out⟩
      case round =>
       obtain ⟨j, bk, hj, rfl, rfl, hf, hx, hkk, hb⟩ := hrel
       have HF := Lib.hid hf
       have HX := Lib.hid hx
       have HKK := Lib.hid hkk
       have HB := Lib.hid hb
       clear hf hx hkk hb
       obtain ⟨_, v0, v1, v2, v3⟩ := HX.out
       obtain ⟨_, t0, t1, t2⟩ := HKK.out
       by_cases hlt : j < m
       ·have hlt' : (j : Int) < (m : Int) := by omega
        obtain ⟨b, off, rfl, hcell⟩ := HK.out.open (show 0 < m by omega)
        obtain ⟨aj, cj, ⟨x0, x1, x2, x3⟩, hkj⟩ := hcell wr HB.out j hlt
        have HKJ := Lib.hid hkj
        clear hcell hkj
        have x0' : wr.cell? ⟨b, off + j * 4, none⟩ = some (.int .i64 (kid j).k) := x0
        have x1' : wr.cell? ⟨b, off + j * 4 + 1, none⟩ = some (.int .i64 (kid j).n) := x1
        have x2' : wr.cell? ⟨b, off + j * 4 + 2, none⟩ = some (.string (kid j).s) := x2
        have x3' : wr.cell? ⟨b, off + j * 4 + 3, none⟩ = some (.slice aj (kid j).m cj) := x3
        clear x0 x1 x2 x3
        have z0 := cell_regrown x0'
        have z1 := cell_regrown x1'
        have z2 := cell_regrown x2'
        have z3 := cell_regrown x3'
        have z4 := cell_regrown v3
        have z5 := cell_regrown t0
        have z6 := cell_regrown t1
        have z7 := cell_regrown t2
        cases bk
        ·have HF1 : Hid ((true && allN (fun j => (kid j).all P) (j + 1)) = false) := by
          have h := HF.out
          unfold Hid
          simp only [allN]
          rw [← Bool.and_assoc, h]
          rfl
         clear z0 z1 z2 z3 z4 z5 z6 z7
         go_wp2_with fail
         go_quiet (fail)
         go_wp2_with fail
         go_roundw
         case rel => exact ⟨j + 1, false, by omega, by go_num, rfl, HF1.out, HX.out.below (kbelow_dN (Below.refl _ _) _), HKK.out.below (kbelow_dN (Below.refl _ _) _), kbelow_dN HB.out _⟩
         case measure => simp [intOf]; omega
        ·have HF1 : Hid ((true && allN (fun j => (kid j).all P) (j + 1)) = (kid j).all P) := by
          have h := HF.out
          unfold Hid
          simp only [allN]
          rw [← Bool.and_assoc, h]
          rfl
         go_wp2_with fail
         refine wp_region_quiet_below (by kernel_rfl) (by kernel_rfl) ?_
         repeat (quiet_step (exact Calls.regrown_of (HIH.out j aj cj _ (HKJ.out.below (below_regrown wr _ _)) ((HL.out.below HB.out).below (below_regrown wr _ _)) ((HC.out.below HB.out).below (below_regrown wr _ _)))))
         refine wpQuiet_nil ?_
         intro _ hw'
         obtain ⟨⟨dq, osq⟩, hw''⟩ := hw'
         subst hw''
         generalize (kid j).all P = y at *
         go_wp2_with fail
         go_roundw
         case rel => exact ⟨j + 1, y, by omega, by go_num, rfl, HF1.out, HX.out.below (below_regrown wr dq osq), HKK.out.below (below_regrown wr dq osq), HB.out.trans ((below_regrown wr dq osq).mono HB.out.size)⟩
         case measure => simp [intOf]; omega
       ·have hjm : j = m := by omega
        subst hjm
        have HR : Hid (z = bk) := by unfold Hid; rw [HM.out, HP.out, HF.out]
        go_wp2_with fail
        go_ret
        exact ⟨kret_bool HR.out.symm, HB.out⟩
    ·have hk3B : decide (kk = 3) = false := decide_eq_false hk3
     have hk3E : (kk == 3) = false := by simpa using hk3
     by_cases hk5 : kk = 5
     ·have HPK : Hid (P kk s = (tabsG k s).isSome) := by unfold Hid; rw [HPE.out, hk5]; rfl
      clear hk2 hk2B hk2E hk3 hk3B hk3E
      subst hk5
      go_wp2_with fail
      refine (tableAt_ref a2 n2 c2 k.tbs s _ (HC.out.2.1.below HB2.out) H2.out (by have := HC.out.2.2.2.2.2.2.1; have := H2.out; omega)).mono ?_
      rintro e w1 ⟨rfl, hb1⟩
      have HB1 := HB2
      have HX1 := HX2
      have HK1 := HK2
      clear HB2 HX2 HK2
      have HB2 := Lib.hid (HB1.out.trans (hb1.mono HB1.out.size))
      have HX2 := Lib.hid (HX1.out.below hb1)
      have HK2 := Lib.hid (KAt.below HK1.out hb1)
      clear hb1 HB1 HX1 HK1
      obtain ⟨_, v0, v1, v2, v3⟩ := HX2.out
      obtain ⟨_, t0, t1, t2⟩ := HK2.out
      have hge := optI_ge (firstN (fun j => (tnth k.tbs j).name) n2 s)
      have HV : Hid (P 5 s = (firstN (fun j => (tnth k.tbs j).name) n2 s).isSome) := by unfold Hid; rw [HPK.out, firstN_some]; unfold tabsG; rw [H2.out]
      clear HPK
      cases ho : (firstN (fun j => (tnth k.tbs j).name) n2 s).isSome
      ·rw [ho] at hge
       have HP : Hid (P 5 s = false) := by unfold Hid; rw [HV.out, ho]
       clear HV ho
       generalize optI (firstN (fun j => (tnth k.tbs j).name) n2 s) = r at *
       obtain ⟨kk, hkk⟩ : ∃ kk : Int, kk = 5 := ⟨_, rfl⟩
       rw [← hkk] at HX2 HM HP
       go_wp2_with fail
       go_loopw [9, 10] (fun ov i wr => ∃ (j : Nat) (bk : Bool), j ≤ m ∧ i = .int .i64 j ∧ ov = .bool bk ∧ (false && allN (fun j => (kid j).all P) j) = bk ∧ XBox wr w.heap.size kk n s ax m cx ∧ KAt wr (w.heap.size + 1) (.slice a1 n1 c1) (.slice a2 n2 c2) (.slice a3 n3 c3) ∧ Below w.heap.size w wr) (fun _ i _ => m - (intOf i).toNat)
       case atStart => exact ⟨0, false, Nat.zero_le _, rfl, rfl, rfl, HX2.out, HK2.out, HB2.out⟩
       case round =>
        obtain ⟨j, bk, hj, rfl, rfl, hf, hx, hkk, hb⟩ := hrel
        have HF := Lib.hid hf
        have HX := Lib.hid hx
        have HKK := Lib.hid hkk
        have HB := Lib.hid hb
        clear hf hx hkk hb
        obtain ⟨_, v0, v1, v2, v3⟩ := HX.out
        obtain ⟨_, t0, t1, t2⟩ := HKK.out
        by_cases hlt : j < m
        ·have hlt' : (j : Int) < (m : Int) := by omega
         obtain ⟨b, off, rfl, hcell⟩ := HK.out.open (show 0 < m by omega)
         obtain ⟨aj, cj, ⟨x0, x1, x2, x3⟩, hkj⟩ := hcell wr HB.out j hlt
         have HKJ := Lib.hid hkj
         clear hcell hkj
         have x0' : wr.cell? ⟨b, off + j * 4, none⟩ = some (.int .i64 (kid j).k) := x0
         have x1' : wr.cell? ⟨b, off + j * 4 + 1, none⟩ = some (.int .i64 (kid j).n) := x1
         have x2' : wr.cell? ⟨b, off + j * 4 + 2, none⟩ = some (.string (kid j).s) := x2
         have x3' : wr.cell? ⟨b, off + j * 4 + 3, none⟩ = some (.slice aj (kid j).m cj) := x3
         clear x0 x1 x2 x3
         have z0 := cell_regrown x0'
         have z1 := cell_regrown x1'
         have z2 := cell_regrown x2'
         have z3 := cell_regrown x3'
         have z4 := cell_regrown v3
         have z5 := cell_regrown t0
         have z6 := cell_regrown t1
         have z7 := cell_regrown t2
         cases bk
         ·have HF1 : Hid ((false && allN (fun j => (kid j).all P) (j + 1)) = false) := by
           have h := HF.out
           unfold Hid
           simp only [allN]
           rw [← Bool.and_assoc, h]
           rfl
          clear z0 z1 z2 z3 z4 z5 z6 z7
          go_wp2_with fail
          go_quiet (fail)
          go_wp2_with fail
          go_roundw
          case rel => exact ⟨j + 1, false, by omega, by go_num, rfl, HF1.out, HX.out.below (kbelow_dN (Below.refl _ _) _), HKK.out.below (kbelow_dN (Below.refl _ _) _), kbelow_dN HB.out _⟩
          case measure => simp [intOf]; omega
         ·have HF1 : Hid ((false && allN (fun j => (kid j).all P) (j + 1)) = (kid j).all P) := by
           have h := HF.out
           unfold Hid
           simp only [allN]
           rw [← Bool.and_assoc, h]
           rfl
          go_wp2_with fail
          refine wp_region_quiet_below (by kernel_rfl) (by kernel_rfl) ?_
          repeat (quiet_step (exact Calls.regrown_of (HIH.out j aj cj _ (HKJ.out.below (below_regrown wr _ _)) ((HL.out.below HB.out).below (below_regrown wr _ _)) ((HC.out.below HB.out).below (below_regrown wr _ _)))))
          refine wpQuiet_nil ?_
          intro _ hw'
          obtain ⟨⟨dq, osq⟩, hw''⟩ := hw'
          subst hw''
          generalize (kid j).all P = y at *
          go_wp2_with fail
          go_roundw
          case rel => exact ⟨j + 1, y, by omega, by go_num, rfl, HF1.out, HX.out.below (below_regrown wr dq osq), HKK.out.below (below_regrown wr dq osq), HB.out.trans ((below_regrown wr dq osq).mono HB.out.size)⟩
          case measure => simp [intOf]; omega
        ·have hjm : j = m := by omega
         subst hjm
         have HR : Hid (z = bk) := by unfold Hid; rw [HM.out, HP.out, HF.out]
         go_wp2_with fail
         go_ret
         exact ⟨kret_bool HR.out.symm, HB.out⟩
      ·rw [ho] at hge
       have HP : Hid (P 5 s = true) := by unfold Hid; rw [HV.out, ho]
       clear HV ho
       generalize optI (firstN (fun j => (tnth k.tbs j).name) n2 s) = r at *
       obtain ⟨kk, hkk⟩ : ∃ kk : Int, kk = 5 := ⟨_, rfl⟩
       rw [← hkk] at HX2 HM HP
       go_wp2_with fail
       go_loopw [9, 10] (fun ov i wr => ∃ (j : Nat) (bk : Bool), j ≤ m ∧ i = .int .i64 j ∧ ov = .bool bk ∧ (true && allN (fun j => (kid j).all P) j) = bk ∧ XBox wr w.heap.size kk n s ax m cx ∧ KAt wr (w.heap.size + 1) (.slice a1 n1 c1) (.slice a2 n2 c2) (.slice a3 n3 c3) ∧ Below w.heap.size w wr) (fun _ i _ => m - (intOf i).toNat)
       case atStart => exact ⟨0, true, Nat.zero_le _, rfl, rfl, rfl, HX2.out, HK2.out, HB2.out⟩
       case round =>
        obtain ⟨j, bk, hj, rfl, rfl, hf, hx, hkk, hb⟩ := hrel
        have HF := Lib.hid hf
        have HX := Lib.hid hx
        have HKK := Lib.hid hkk
        have HB := Lib.hid hb
        clear hf hx hkk hb
        obtain ⟨_, v0, v1, v2, v3⟩ := HX.out
        obtain ⟨_, t0, t1, t2⟩ := HKK.out
        by_cases hlt : j < m
        ·have hlt' : (j : Int) < (m : Int) := by omega
         obtain ⟨b, off, rfl, hcell⟩ := HK.out.open (show 0 < m by omega)
         obtain ⟨aj, cj, ⟨x0, x1, x2, x3⟩, hkj⟩ := hcell wr HB.out j hlt
         have HKJ := Lib.hid hkj
         clear hcell hkj
         have x0' : wr.cell? ⟨b, off + j * 4, none⟩ = some (.int .i64 (kid j).k) := x0
         have x1' : wr.cell? ⟨b, off + j * 4 + 1, none⟩ = some (.int .i64 (kid j).n) := x1
         have x2' : wr.cell? ⟨b, off + j * 4 + 2, none⟩ = some (.string (kid j).s) := x2
         have x3' : wr.cell? ⟨b, off + j * 4 + 3, none⟩ = some (.slice aj (kid j).m cj) := x3
         clear x0 x1 x2 x3
         have z0 := cell_regrown x0'
         have z1 := cell_regrown x1'
         have z2 := cell_regrown x2'
         have z3 := cell_regrown x3'
         have z4 := cell_regrown v3
         have z5 := cell_regrown t0
         have z6 := cell_regrown t1
         have z7 := cell_regrown t2
         cases bk
         ·have HF1 : Hid ((true && allN (fun j => (kid j).all P) (j + 1)) = false) := by
           have h := HF.out
           unfold Hid
           simp only [allN]
           rw [← Bool.and_assoc, h]
           rfl
          clear z0 z1 z2 z3 z4 z5 z6 z7
          go_wp2_with fail
          go_quiet (fail)
          go_wp2_with fail
          go_roundw
          case rel => exact ⟨j + 1, false, by omega, by go_num, rfl, HF1.out, HX.out.below (kbelow_dN (Below.refl _ _) _), HKK.out.below (kbelow_dN (Below.refl _ _) _), kbelow_dN HB.out _⟩
          case measure => simp [intOf]; omega
         ·have HF1 : Hid ((true && allN (fun j => (kid j).all P) (j + 1)) = (kid j).all P) := by
           have h := HF.out
           unfold Hid
           simp only [allN]
           rw [← Bool.and_assoc, h]
           rfl
          go_wp2_with fail
          refine wp_region_quiet_below (by kernel_rfl) (by kernel_rfl) ?_
          repeat (quiet_step (exact Calls.regrown_of (HIH.out j aj cj _ (HKJ.out.below (below_regrown wr _ _)) ((HL.out.below HB.out).below (below_regrown wr _ _)) ((HC.out.below HB.out).below (below_regrown wr _ _)))))
          refine wpQuiet_nil ?_
          intro _ hw'
          obtain ⟨⟨dq, osq⟩, hw''⟩ := hw'
          subst hw''
          generalize (kid j).all P = y at *
          go_wp2_with fail
          go_roundw
          case rel => exact ⟨j + 1, y, by omega, by go_num, rfl, HF1.out, HX.out.below (below_regrown wr dq osq), HKK.out.below (below_regrown wr dq osq), HB.out.trans ((below_regrown wr dq osq).mono HB.out.size)⟩
          case measure => simp [intOf]; omega
        ·have hjm : j = m := by omega
         subst hjm
         have HR : Hid (z = bk) := by unfold Hid; rw [HM.out, HP.out, HF.out]
         go_wp2_with fail
         go_ret
         exact ⟨kret_bool HR.out.symm, HB.out⟩
     ·have hk5B : decide (kk = 5) = false := decide_eq_false hk5
      have hk5E : (kk == 5) = false := by simpa using hk5
      have HP : Hid (P kk s = true) := by unfold Hid; rw [HPE.out]; unfold knowB; rw [if_neg hk2, if_neg hk3, if_neg hk5]
      go_wp2_with fail
      go_loopw [9, 10] (fun ov i wr => ∃ (j : Nat) (bk : Bool), j ≤ m ∧ i = .int .i64 j ∧ ov = .bool bk ∧ (true && allN (fun j => (kid j).all P) j) = bk ∧ XBox wr w.heap.size kk n s ax m cx ∧ KAt wr (w.heap.size + 1) (.slice a1 n1 c1) (.slice a2 n2 c2) (.slice a3 n3 c3) ∧ Below w.heap.size w wr) (fun _ i _ => m - (intOf i).toNat)
      case atStart => exact ⟨0, true, Nat.zero_le _, rfl, rfl, rfl, HX2.out, HK2.out, HB2.out⟩
      case round =>
       obtain ⟨j, bk, hj, rfl, rfl, hf, hx, hkk, hb⟩ := hrel
       have HF := Lib.hid hf
       have HX := Lib.hid hx
       have HKK := Lib.hid hkk
       have HB := Lib.hid hb
       clear hf hx hkk hb
       obtain ⟨_, v0, v1, v2, v3⟩ := HX.out
       obtain ⟨_, t0, t1, t2⟩ := HKK.out
       by_cases hlt : j < m
       ·have hlt' : (j : Int) < (m : Int) := by omega
        obtain ⟨b, off, rfl, hcell⟩ := HK.out.open (show 0 < m by omega)
        obtain ⟨aj, cj, ⟨x0, x1, x2, x3⟩, hkj⟩ := hcell wr HB.out j hlt
        have HKJ := Lib.hid hkj
        clear hcell hkj
        have x0' : wr.cell? ⟨b, off + j * 4, none⟩ = some (.int .i64 (kid j).k) := x0
        have x1' : wr.cell? ⟨b, off + j * 4 + 1, none⟩ = some (.int .i64 (kid j).n) := x1
        have x2' : wr.cell? ⟨b, off + j * 4 + 2, none⟩ = some (.string (kid j).s) := x2
        have x3' : wr.cell? ⟨b, off + j * 4 + 3, none⟩ = some (.slice aj (kid j).m cj) := x3
        clear x0 x1 x2 x3
        have z0 := cell_regrown x0'
        have z1 := cell_regrown x1'
        have z2 := cell_regrown x2'
        have z3 := cell_regrown x3'
        have z4 := cell_regrown v3
        have z5 := cell_regrown t0
        have z6 := cell_regrown t1
        have z7 := cell_regrown t2
        cases bk
        ·have HF1 : Hid ((true && allN (fun j => (kid j).all P) (j + 1)) = false) := by
          have h := HF.out
          unfold Hid
          simp only [allN]
          rw [← Bool.and_assoc, h]
          rfl
         clear z0 z1 z2 z3 z4 z5 z6 z7
         go_wp2_with fail
         go_quiet (fail)
         go_wp2_with fail
         go_roundw
         case rel => exact ⟨j + 1, false, by omega, by go_num, rfl, HF1.out, HX.out.below (kbelow_dN (Below.refl _ _) _), HKK.out.below (kbelow_dN (Below.refl _ _) _), kbelow_dN HB.out _⟩
         case measure => simp [intOf]; omega
        ·have HF1 : Hid ((true && allN (fun j => (kid j).all P) (j + 1)) = (kid j).all P) := by
          have h := HF.out
          unfold Hid
          simp only [allN]
          rw [← Bool.and_assoc, h]
          rfl
         go_wp2_with fail
         refine wp_region_quiet_below (by kernel_rfl) (by kernel_rfl) ?_
         repeat (quiet_step (exact Calls.regrown_of (HIH.out j aj cj _ (HKJ.out.below (below_regrown wr _ _)) ((HL.out.below HB.out).below (below_regrown wr _ _)) ((HC.out.below HB.out).below (below_regrown wr _ _)))))
         refine wpQuiet_nil ?_
         intro _ hw'
         obtain ⟨⟨dq, osq⟩, hw''⟩ := hw'
         subst hw''
         generalize (kid j).all P = y at *
         go_wp2_with fail
         go_roundw
         case rel => exact ⟨j + 1, y, by omega, by go_num, rfl, HF1.out, HX.out.below (below_regrown wr dq osq), HKK.out.below (below_regrown wr dq osq), HB.out.trans ((below_regrown wr dq osq).mono HB.out.size)⟩
         case measure => simp [intOf]; omega
       ·have hjm : j = m := by omega
        subst hjm
        have HR : Hid (z = bk) := by unfold Hid; rw [HM.out, HP.out, HF.out]
        go_wp2_with fail
        go_ret
        exact ⟨kret_bool HR.out.symm, HB.out⟩
end Go.Proofs.YtkalfdjmklakdaaGreatDoor
namespace Go.Proofs.YtkalfdjmklakdaaGreatDoor
open Go.RowKit Go.Sort
theorem BindIs.unique {l : List Ln} {k : Kn} {i e i' e' : Int} (h : BindIs l k i e) (h' : BindIs l k i' e') : i = i' ∧ e = e' := by
 rcases h with ⟨a1, a2, a3⟩ | ⟨a1, a2, a3, a4⟩ | ⟨a1, a2, a3⟩ <;> rcases h' with ⟨b1, b2, b3⟩ | ⟨b1, b2, b3, b4⟩ | ⟨b1, b2, b3⟩
 ·exact ⟨by omega, by omega⟩
 ·exact absurd b1 a1
 ·exact absurd b1 a1
 ·exact absurd a1 b1
 ·exact ⟨by omega, by omega⟩
 ·exact absurd b2 a2
 ·exact absurd a1 b1
 ·exact absurd a2 b2
 ·rcases a3 with ⟨c1, c2, c3⟩ | ⟨j, c1, c2, c3, c4, c5⟩ <;> rcases b3 with ⟨d1, d2, d3⟩ | ⟨q, d1, d2, d3, d4, d5⟩
  ·exact ⟨by omega, by omega⟩
  ·exact absurd (d3.trans (c3 q d1)) d4
  ·exact absurd (c3.trans (d3 j c1)) c4
  ·have : j = q := by
    by_cases h1 : j < q
    ·exact absurd (c3.trans (d5 j h1)) c4
    ·by_cases h2 : q < j
     ·exact absurd (d3.trans (c5 q h2)) d4
     ·omega
   subst this
   exact ⟨by omega, by omega⟩
set_option maxRecDepth 100000 in
set_option maxHeartbeats 4000000 in
theorem lines_ref (a : Option Addr) (n cap : Nat) (l : List Ln) (a1 a2 a3 : Option Addr) (n1 n2 n3 c1 c2 c3 : Nat) (k : Kn) (w : World) (hl : CameL w a l) (hn : l.length = n) (hm : n ≤ maxLen) (hc : CameK w a1 a2 a3 k) (h1 : k.ins.length = n1) (h2 : k.tbs.length = n2) (h3 : k.yrs.length = n3) :
 Calls Tryz.prog 106 #[.slice a n cap, .agg #[.slice a1 n1 c1, .slice a2 n2 c2, .slice a3 n3 c3]] w fun e w' => BindRet w l k e w' := by
 have hm' : n ≤ 9223372036854775807 := by unfold maxLen at hm; omega
 have HMX := Lib.hid hm
 have HL := Lib.hid hl
 have HN := Lib.hid hn
 have HC := Lib.hid hc
 have H1 := Lib.hid h1
 have H2 := Lib.hid h2
 have H3 := Lib.hid h3
 clear hl hn hc h1 h2 h3 hm
 have HB0 := Lib.hid (kbelow_box w (.cells #[.slice a1 n1 c1, .slice a2 n2 c2, .slice a3 n3 c3] 124))
 have HK0 := Lib.hid (KAt.made w (.slice a1 n1 c1) (.slice a2 n2 c2) (.slice a3 n3 c3) 124)
 go_enter Tryz.func106, Tryz.ntmps106
 go_wp2_with fail
 refine (checkLines_ref a n cap l _ (HL.out.below HB0.out) HN.out HMX.out).mono ?_
 rintro e w1 ⟨rfl, hb1⟩
 have HB1 := Lib.hid (HB0.out.trans (hb1.mono HB0.out.size))
 have HK1 := Lib.hid (KAt.below HK0.out hb1)
 clear hb1 HK0 HB0
 obtain ⟨_, x0, x1, x2⟩ := HK1.out
 by_cases z1 : linesE l = 0
 ·have HZ1 := Lib.hid z1
  rw [z1]
  clear z1
  go_wp2_with fail
  refine (known_ref a1 a2 a3 n1 n2 n3 c1 c2 c3 k _ (HC.out.below HB1.out) H1.out H2.out H3.out).mono ?_
  rintro e w2 ⟨rfl, hb2⟩
  have HB2 := Lib.hid (HB1.out.trans (hb2.mono HB1.out.size))
  have HK2 := Lib.hid (KAt.below HK1.out hb2)
  clear hb2 HK1 HB1 x0 x1 x2
  by_cases z2 : knE k = 0
  ·have HZ2 := Lib.hid z2
   rw [z2]
   clear z2
   go_wp2_with fail
   go_loopw [7] (fun i wr => ∃ j : Nat, j ≤ n ∧ i = .int .i64 j ∧ (∀ q, q < j → lineOk l k q = 0) ∧ KAt wr w.heap.size (.slice a1 n1 c1) (.slice a2 n2 c2) (.slice a3 n3 c3) ∧ Below w.heap.size w wr) (fun i _ => n - (intOf i).toNat)
   case atStart => exact ⟨0, Nat.zero_le _, rfl, fun q hq => by omega, HK2.out, HB2.out⟩
   case round =>
    clear HK2 HB2
    obtain ⟨j, hj, rfl, hall, hkk, hb⟩ := hrel
    have HA := Lib.hid hall
    have HKK := Lib.hid hkk
    have HB := Lib.hid hb
    clear hall hkk hb
    obtain ⟨_, x0, x1, x2⟩ := HKK.out
    by_cases hlt : j < n
    ·have hlt' : (j : Int) < (n : Int) := by omega
     have HJ : Hid (j < l.length) := by have := HN.out; unfold Hid; omega
     obtain ⟨b, off, rfl, hcell⟩ := HL.out.open HN.out (by omega)
     obtain ⟨aj, cj, ⟨y0, y1, y2, y3, y4, y5⟩, _, hkj⟩ := hcell wr HB.out j hlt
     have HKJ := Lib.hid hkj
     clear hkj hcell
     have H6 : Hid ((valsK l k j (lnth l j).name).isSome = true → BindIs l k j 6) := fun hv => by
      have ho : lineOk l k j = 6 := by unfold lineOk; rw [hv]; rfl
      exact .inr (.inr ⟨HZ1.out, HZ2.out, .inr ⟨j, HJ.out, rfl, ho.symm, by omega, HA.out⟩⟩)
     have hge := optI_ge (lastN (fun j => (lnth l j).name) j (lnth l j).name)
     have hge2 := optI_ge (firstN (fun j => (anth k.ins j).name) n1 (lnth l j).name)
     cases ho : (lastN (fun j => (lnth l j).name) j (lnth l j).name).isSome
     ·rw [ho] at hge
      cases hq : (firstN (fun j => (anth k.ins j).name) n1 (lnth l j).name).isSome
      ·rw [hq] at hge2
       have HV : Hid ((valsK l k j (lnth l j).name).isSome = false) := by unfold Hid; rw [vals_none ho, H1.out, hq]
       clear ho hq
       go_wp2_with fail
       go_quiet (first
        | (go_at_call 156; exact Calls.quiet_of_same (lineAt_same _ n cap l (lnth l j).name j _ ((HL.out.below HB.out).below (kbelow_dN (Below.refl _ _) _)) HN.out HMX.out (by omega)))
        | (go_at_call 157; exact Calls.quiet_of_same (amountAt_same _ n1 c1 k.ins (lnth l j).name _ ((HC.out.1.below HB.out).below (kbelow_dN (Below.refl _ _) _)) H1.out (by have := HC.out.2.2.2.2.2.1; have := H1.out; omega))))
       go_wp2_with fail
       have HBW := Lib.hid (kbelow_dN HB.out nq)
       have HKW := Lib.hid (HKK.out.below (kbelow_dN (Below.refl wr.heap.size wr) nq))
       have HKJW := Lib.hid (HKJ.out.below (kbelow_dN (Below.refl wr.heap.size wr) nq))
       have e0 : (wr.drewN nq).cell? ⟨b, off + j * 6 + 2, none⟩ = some (.int .i64 (lnth l j).ex.k) := y2
       have e1 : (wr.drewN nq).cell? ⟨b, off + j * 6 + 3, none⟩ = some (.int .i64 (lnth l j).ex.n) := y3
       have e2 : (wr.drewN nq).cell? ⟨b, off + j * 6 + 4, none⟩ = some (.string (lnth l j).ex.s) := y4
       have e3 : (wr.drewN nq).cell? ⟨b, off + j * 6 + 5, none⟩ = some (.slice aj (lnth l j).ex.m cj) := y5
       clear y0 y1 y2 y3 y4 y5 x0 x1 x2 hge hge2 H6
       obtain ⟨_, x0, x1, x2⟩ := HKW.out
       generalize wr.drewN nq = W at *
       have z0 := cell_regrown e0
       have z1 := cell_regrown e1
       have z2 := cell_regrown e2
       have z3 := cell_regrown e3
       have z4 := cell_regrown x0
       have z5 := cell_regrown x1
       have z6 := cell_regrown x2
       refine wp_region_quiet_below (by kernel_rfl) (by kernel_rfl) ?_
       repeat (quiet_step (exact Calls.regrown_of (means_ref (some ⟨b, off, none⟩) n cap l j a1 a2 a3 n1 n2 n3 c1 c2 c3 k HN.out HMX.out (by omega) H1.out H2.out (lnth l j).ex aj cj _ (HKJW.out.below (below_regrown W _ _)) ((HL.out.below HBW.out).below (below_regrown W _ _)) ((HC.out.below HBW.out).below (below_regrown W _ _)))))
       refine wpQuiet_nil ?_
       intro _ hw'
       obtain ⟨⟨dq, osq⟩, hw''⟩ := hw'
       subst hw''
       have HB9 := Lib.hid (HBW.out.trans ((below_regrown W dq osq).mono HBW.out.size))
       have HK9 := Lib.hid (HKW.out.below (below_regrown W dq osq))
       clear z0 z1 z2 z3 z4 z5 z6 e0 e1 e2 e3 x0 x1 x2
       generalize grow (redrawn W dq) osq = W9 at *
       cases hkn : (lnth l j).ex.all (knowB (valsK l k j) (linesG l) (tabsG k))
       ·have HR : Hid (BindIs l k j 5) := by
         have ho : lineOk l k j = 5 := by unfold lineOk; rw [HV.out, hkn]; rfl
         exact .inr (.inr ⟨HZ1.out, HZ2.out, .inr ⟨j, HJ.out, rfl, ho.symm, by omega, HA.out⟩⟩)
        go_wp2_with fail
        go_ret2
        exact ⟨_, _, rfl, HR.out, HB9.out⟩
       ·have HA1 : Hid (∀ q, q < j + 1 → lineOk l k q = 0) := fun q hq => by
         by_cases e : q = j
         ·subst e; unfold lineOk; rw [HV.out, hkn]; rfl
         ·exact HA.out q (by omega)
        go_wp2_with fail
        go_roundw
        case rel => exact ⟨j + 1, by omega, by go_num, HA1.out, HK9.out, HB9.out⟩
        case measure => simp [intOf]; omega
      ·rw [hq] at hge2
       have HR := Lib.hid (H6.out (by rw [vals_none ho, H1.out, hq]))
       clear ho hq
       go_wp2_with fail
       go_quiet (first
        | (go_at_call 156; exact Calls.quiet_of_same (lineAt_same _ n cap l (lnth l j).name j _ ((HL.out.below HB.out).below (kbelow_dN (Below.refl _ _) _)) HN.out HMX.out (by omega)))
        | (go_at_call 157; exact Calls.quiet_of_same (amountAt_same _ n1 c1 k.ins (lnth l j).name _ ((HC.out.1.below HB.out).below (kbelow_dN (Below.refl _ _) _)) H1.out (by have := HC.out.2.2.2.2.2.1; have := H1.out; omega))))
       have HBW := Lib.hid (kbelow_dN HB.out nq)
       go_wp2_with fail
       go_ret2
       exact ⟨_, _, rfl, HR.out, HBW.out⟩
     ·rw [ho] at hge
      have HR := Lib.hid (H6.out (vals_some ho))
      clear ho
      go_wp2_with fail
      go_quiet (first
       | (go_at_call 156; exact Calls.quiet_of_same (lineAt_same _ n cap l (lnth l j).name j _ ((HL.out.below HB.out).below (kbelow_dN (Below.refl _ _) _)) HN.out HMX.out (by omega)))
       | (go_at_call 157; exact Calls.quiet_of_same (amountAt_same _ n1 c1 k.ins (lnth l j).name _ ((HC.out.1.below HB.out).below (kbelow_dN (Below.refl _ _) _)) H1.out (by have := HC.out.2.2.2.2.2.1; have := H1.out; omega))))
      have HBW := Lib.hid (kbelow_dN HB.out nq)
      go_wp2_with fail
      go_ret2
      exact ⟨_, _, rfl, HR.out, HBW.out⟩
    ·have hjn : j = n := by omega
     have HR : Hid (BindIs l k 0 0) := .inr (.inr ⟨HZ1.out, HZ2.out, .inl ⟨rfl, rfl, fun q hq => HA.out q (by have := HN.out; omega)⟩⟩)
     subst hjn
     go_wp2_with fail
     go_ret2
     exact ⟨_, _, rfl, HR.out, HB.out⟩
  ·have z2B : decide (knE k = 0) = false := decide_eq_false z2
   have z2N : (knE k != 0) = true := by simpa using z2
   have HR : Hid (BindIs l k 0 (knE k)) := .inr (.inl ⟨HZ1.out, z2, rfl, rfl⟩)
   generalize knE k = z at *
   go_wp2_with fail
   go_ret2
   exact ⟨_, _, rfl, HR.out, HB2.out⟩
 ·have z1B : decide (linesE l = 0) = false := decide_eq_false z1
  have z1N : (linesE l != 0) = true := by simpa using z1
  have z1E : (linesE l == 0) = false := by simpa using z1
  have HR : Hid (BindIs l k 0 (linesE l)) := .inl ⟨z1, rfl, rfl⟩
  generalize linesE l = z at *
  go_wp2_with fail
  go_ret2
  exact ⟨_, _, rfl, HR.out, HB1.out⟩
end Go.Proofs.YtkalfdjmklakdaaGreatDoor
