/-
  Promise H2: where things stand by their names: maps of names to places, and the walks of Places.
-/
import Derived.Test.YtoingnhiipfnlaaDoorNTbE
import Derived.Test.YtoingnhiipfnlaaDoorXOpen
import Derived.Maps.OwnSet
import Derived.StringKeys
namespace Go.Proofs.YtoingnhiipfnlaaDoor
open Go.RowKit Go.Maps Go.WideMaps

theorem strLaw : Keyed Tryd.prog 9 := string_keyed Tryd.underlying9
theorem zeroInt (w : World) : (zeroValue 3).run Tryd.prog w = .ok (.int .i64 0) w := by kernel_rfl
theorem make_map (k : Int) (w : World) : (Instr.makeMap 60 (some (.int .i64 k))).run Tryd.prog w = .ok (.map (some w.heap.size)) (w.alloc (.map #[] 0)) := by
  simp [Instr.makeMap, run_underlying Tryd.underlying60, asInt, asIntOf, Result.andThen]
/-- The map in block b has the places that g tells. -/
def MapIs (w : World) (b n : Nat) (g : ByteArray → Option Nat) : Prop := ∃ D : DataW Unit, w.ownsMap Tryd.prog 9 (plainElem (H := Unit) Tryd.prog 3) b n D ∧ ∀ s : ByteArray, Maps.has D (.string s.data.toList) = (g s).isSome ∧ D.atKey (.string s.data.toList) (.lit (.int .i64 0)) = .lit (.int .i64 (((g s).getD 0 : Nat) : Int))
theorem MapIs.lt {w : World} {b n : Nat} {g : ByteArray → Option Nat} (h : MapIs w b n g) : b < w.heap.size := by
  obtain ⟨D, ⟨es, clock, hb, _⟩, _⟩ := h
  by_cases hlt : b < w.heap.size
  · exact hlt
  · rw [Array.getElem?_eq_none (by omega)] at hb
    cases hb
theorem MapIs.below {w w' : World} {b n : Nat} {g : ByteArray → Option Nat} (h : MapIs w b n g) (hb : Below w.heap.size w w') : MapIs w' b n g := by
  have hlt := h.lt
  obtain ⟨D, ⟨es, clock, hbk, h3⟩, h2⟩ := h
  exact ⟨D, ⟨es, clock, by rw [hb.block b hlt]; exact hbk, h3⟩, h2⟩
/-- Of several alike the last one. -/
def lastN (f : Nat → ByteArray) : Nat → ByteArray → Option Nat
  | 0, _ => none
  | k + 1, s => if (f k).data = s.data then some k else lastN f k s
theorem key_of {s : ByteArray} (h : s.size ≤ maxLen) : keyOf Tryd.prog 9 (.string s) = some (.string s.data.toList) := keyOf_string_mk Tryd.underlying9 h
theorem map_put {D : DataW Unit} {g : ByteArray → Option Nat} {nm : ByteArray} {v : Nat} (hm : IsMap D) (h : ∀ s : ByteArray, Maps.has D (.string s.data.toList) = (g s).isSome ∧ D.atKey (.string s.data.toList) (.lit (.int .i64 0)) = .lit (.int .i64 (((g s).getD 0 : Nat) : Int))) (s : ByteArray) :
    Maps.has (D.put (.string nm.data.toList) (.lit (.int .i64 v))) (.string s.data.toList) = (if nm.data = s.data then some v else g s).isSome ∧ (D.put (.string nm.data.toList) (.lit (.int .i64 v))).atKey (.string s.data.toList) (.lit (.int .i64 0)) = .lit (.int .i64 (((if nm.data = s.data then some v else g s).getD 0 : Nat) : Int)) := by
  by_cases e : nm.data = s.data
  · rw [if_pos e, ← e]
    exact ⟨has_put_same hm (show WideAt.IsKeyLit (.string nm.data.toList) from trivial) _, atKey_put_same hm (show WideAt.IsKeyLit (.string nm.data.toList) from trivial) _ _⟩
  · rw [if_neg e, has_put_other (by intro q; injection q with q; exact e (Array.toList_inj.1 q.symm)), atKey_put_other (by intro q; injection q with q; exact e (Array.toList_inj.1 q.symm))]
    exact h s
set_option maxHeartbeats 1000000 in
theorem meantA_any (s : ByteArray) (m : Int) (w : World) : Calls Tryd.prog 67 #[.agg #[.string s, .int .i64 m]] w fun e w' => e = .returned (.string s) ∧ Below w.heap.size w w' := by
  go_enter Tryd.func67, Tryd.ntmps67
  go_wp2_with fail
  go_ret
  exact ⟨rfl, kbelow_box _ _⟩
set_option maxHeartbeats 1000000 in
theorem meantL_any (k : Int) (s : ByteArray) (k2 n2 : Int) (s2 : ByteArray) (a : Option Addr) (m c : Nat) (w : World) : Calls Tryd.prog 69 #[.agg #[.int .i64 k, .string s, .int .i64 k2, .int .i64 n2, .string s2, .slice a m c]] w fun e w' => e = .returned (.string s) ∧ Below w.heap.size w w' := by
  go_enter Tryd.func69, Tryd.ntmps69
  go_wp2_with fail
  go_ret
  exact ⟨rfl, kbelow_box _ _⟩
set_option maxHeartbeats 1000000 in
theorem meantT_any (s : ByteArray) (a : Option Addr) (n c : Nat) (w : World) : Calls Tryd.prog 72 #[.agg #[.string s, .slice a n c]] w fun e w' => e = .returned (.string s) ∧ Below w.heap.size w w' := by
  go_enter Tryd.func72, Tryd.ntmps72
  go_wp2_with fail
  go_ret
  exact ⟨rfl, kbelow_box _ _⟩
set_option maxHeartbeats 1000000 in
theorem lineName_any (k : Int) (s : ByteArray) (k2 n2 : Int) (s2 : ByteArray) (a : Option Addr) (m c : Nat) (w : World) : Calls Tryd.prog 97 #[.agg #[.int .i64 k, .string s, .int .i64 k2, .int .i64 n2, .string s2, .slice a m c]] w fun e w' => e = .returned (.string s) ∧ Below w.heap.size w w' := by
  go_enter Tryd.func97, Tryd.ntmps97
  go_wp2_with fail
  go_ret
  exact ⟨rfl, kbelow_box _ _⟩
set_option maxRecDepth 100000 in
set_option maxHeartbeats 2000000 in
theorem placesA (a : Option Addr) (n cap : Nat) (l : List Am) (w : World) (hc : CameA w a l) (hfit : ∀ j, j < n → (anth l j).name.size ≤ maxLen) (hn : l.length = n) (hm : n ≤ 40) :
    Calls Tryd.prog 70 #[.slice a n cap, .func (.func 67) #[] #[]] w fun e w' => e = .returned (.map (some w.heap.size)) ∧ MapIs w' w.heap.size n (lastN (fun j => (anth l j).name) n) ∧ Below w.heap.size w w' := by
  have HO := Lib.hid (fun h0 => hc.open hn h0)
  have HFIT := Lib.hid hfit
  have hmm := make_map
  clear hc hfit
  go_enter Tryd.func70, Tryd.ntmps70
  go_wp2_with fail
  go_loopw [13] (fun i wr => ∃ k : Nat, k ≤ n ∧ i = .int .i64 k ∧ MapIs wr w.heap.size k (lastN (fun j => (anth l j).name) k) ∧ Below w.heap.size w wr) (fun i _ => n - (intOf i).toNat)
  case atStart => exact ⟨0, Nat.zero_le _, rfl, ⟨.map [], World.ownsMap_made _ _ _ _, fun s => ⟨by simp [Maps.has, lastN], by simp [lastN, DataW.atKey]⟩⟩, (Below.refl _ _).alloc (Nat.le_refl _) _⟩
  case round =>
    obtain ⟨k, hk, rfl, hmap, hnx⟩ := hrel
    have HMAP := Lib.hid hmap
    have HN := Lib.hid hnx
    clear hmap hnx
    by_cases hlt : k < n
    · have hlt' : (k : Int) < (n : Int) := by omega
      obtain ⟨b, off, rfl, hcell⟩ := HO.out (by omega)
      obtain ⟨x0, x1⟩ := hcell wr HN.out k hlt
      clear hcell
      have HBJ := Lib.hid (kbelow_box wr (.cells #[.string (anth l k).name, .int .i64 (anth l k).mon] 104))
      go_wp2_with fail
      refine (meantA_any _ _ _).mono ?_
      rintro e w1 ⟨rfl, hb1⟩
      have HB1 := Lib.hid (HN.out.trans ((HBJ.out.trans (hb1.mono HBJ.out.size)).mono HN.out.size))
      obtain ⟨D, hown, hD⟩ := (HMAP.out.below HBJ.out).below hb1
      have HD := Lib.hid hD
      have hkey := key_of (HFIT.out k hlt)
      clear hb1 hD HMAP
      go_wp2_with (first
        | (at_mapUpdate; refine wpList_mapUpdate_own _ rfl _ _ _ 60 rfl 9 3 strLaw Tryd.underlying60 (plainElem (H := Unit) Tryd.prog 3) w.heap.size k _ rfl hown (by unfold maxLen; omega) _ _ _ rfl rfl hkey (.lit (.int .i64 (k : Int))) [] (plainElem_int Tryd.underlying3 (WalkArith.wf_i64 (by omega))) ?_; intro w2 hown2 hgrow2))
      go_roundw
      case rel => exact ⟨k + 1, by omega, by go_num, ⟨_, hown2, map_put hown.isMap HD.out⟩, HB1.out.grown hgrow2 HB1.out.size (fun j hj => by cases hj; exact Nat.le_refl _)⟩
      case measure => simp [intOf]; omega
    · have hkn : k = n := by omega
      subst hkn
      go_wp2_with fail
      go_ret
      exact ⟨rfl, HMAP.out, HN.out⟩
set_option maxRecDepth 100000 in
set_option maxHeartbeats 2000000 in
theorem placesT (a : Option Addr) (n cap : Nat) (l : List Tb) (w : World) (hc : CameT w a l) (hfit : ∀ j, j < n → (tnth l j).name.size ≤ maxLen) (hn : l.length = n) (hm : n ≤ 40) :
    Calls Tryd.prog 71 #[.slice a n cap, .func (.func 72) #[] #[]] w fun e w' => e = .returned (.map (some w.heap.size)) ∧ MapIs w' w.heap.size n (lastN (fun j => (tnth l j).name) n) ∧ Below w.heap.size w w' := by
  have HO := Lib.hid (fun h0 => hc.open hn h0)
  have HFIT := Lib.hid hfit
  have hmm := make_map
  clear hc hfit
  go_enter Tryd.func71, Tryd.ntmps71
  go_wp2_with fail
  go_loopw [13] (fun i wr => ∃ k : Nat, k ≤ n ∧ i = .int .i64 k ∧ MapIs wr w.heap.size k (lastN (fun j => (tnth l j).name) k) ∧ Below w.heap.size w wr) (fun i _ => n - (intOf i).toNat)
  case atStart => exact ⟨0, Nat.zero_le _, rfl, ⟨.map [], World.ownsMap_made _ _ _ _, fun s => ⟨by simp [Maps.has, lastN], by simp [lastN, DataW.atKey]⟩⟩, (Below.refl _ _).alloc (Nat.le_refl _) _⟩
  case round =>
    obtain ⟨k, hk, rfl, hmap, hnx⟩ := hrel
    have HMAP := Lib.hid hmap
    have HN := Lib.hid hnx
    clear hmap hnx
    by_cases hlt : k < n
    · have hlt' : (k : Int) < (n : Int) := by omega
      obtain ⟨b, off, rfl, hcell⟩ := HO.out (by omega)
      obtain ⟨ax, cx, x0, x1, _⟩ := hcell wr HN.out k hlt
      clear hcell
      have HBJ := Lib.hid (kbelow_box wr (.cells #[.string (tnth l k).name, .slice ax (tnth l k).bks.length cx] 59))
      go_wp2_with fail
      refine (meantT_any _ _ _ _ _).mono ?_
      rintro e w1 ⟨rfl, hb1⟩
      have HB1 := Lib.hid (HN.out.trans ((HBJ.out.trans (hb1.mono HBJ.out.size)).mono HN.out.size))
      obtain ⟨D, hown, hD⟩ := (HMAP.out.below HBJ.out).below hb1
      have HD := Lib.hid hD
      have hkey := key_of (HFIT.out k hlt)
      clear hb1 hD HMAP
      go_wp2_with (first
        | (at_mapUpdate; refine wpList_mapUpdate_own _ rfl _ _ _ 60 rfl 9 3 strLaw Tryd.underlying60 (plainElem (H := Unit) Tryd.prog 3) w.heap.size k _ rfl hown (by unfold maxLen; omega) _ _ _ rfl rfl hkey (.lit (.int .i64 (k : Int))) [] (plainElem_int Tryd.underlying3 (WalkArith.wf_i64 (by omega))) ?_; intro w2 hown2 hgrow2))
      go_roundw
      case rel => exact ⟨k + 1, by omega, by go_num, ⟨_, hown2, map_put hown.isMap HD.out⟩, HB1.out.grown hgrow2 HB1.out.size (fun j hj => by cases hj; exact Nat.le_refl _)⟩
      case measure => simp [intOf]; omega
    · have hkn : k = n := by omega
      subst hkn
      go_wp2_with fail
      go_ret
      exact ⟨rfl, HMAP.out, HN.out⟩
set_option maxRecDepth 100000 in
set_option maxHeartbeats 2000000 in
theorem placesL (a : Option Addr) (n cap : Nat) (l : List Ln) (w : World) (hc : CameL w a l) (hfit : ∀ j, j < n → (lnth l j).name.size ≤ maxLen) (hn : l.length = n) (hm : n ≤ 40) :
    Calls Tryd.prog 68 #[.slice a n cap, .func (.func 69) #[] #[]] w fun e w' => e = .returned (.map (some w.heap.size)) ∧ MapIs w' w.heap.size n (lastN (fun j => (lnth l j).name) n) ∧ Below w.heap.size w w' := by
  have HO := Lib.hid (fun h0 => hc.open hn h0)
  have HFIT := Lib.hid hfit
  have hmm := make_map
  clear hc hfit
  go_enter Tryd.func68, Tryd.ntmps68
  go_wp2_with fail
  go_loopw [13] (fun i wr => ∃ k : Nat, k ≤ n ∧ i = .int .i64 k ∧ MapIs wr w.heap.size k (lastN (fun j => (lnth l j).name) k) ∧ Below w.heap.size w wr) (fun i _ => n - (intOf i).toNat)
  case atStart => exact ⟨0, Nat.zero_le _, rfl, ⟨.map [], World.ownsMap_made _ _ _ _, fun s => ⟨by simp [Maps.has, lastN], by simp [lastN, DataW.atKey]⟩⟩, (Below.refl _ _).alloc (Nat.le_refl _) _⟩
  case round =>
    obtain ⟨k, hk, rfl, hmap, hnx⟩ := hrel
    have HMAP := Lib.hid hmap
    have HN := Lib.hid hnx
    clear hmap hnx
    by_cases hlt : k < n
    · have hlt' : (k : Int) < (n : Int) := by omega
      obtain ⟨b, off, rfl, hcell⟩ := HO.out (by omega)
      obtain ⟨ax, cx, ⟨x0, x1, x2, x3, x4, x5⟩, _⟩ := hcell wr HN.out k hlt
      clear hcell
      have HBJ := Lib.hid (kbelow_box wr (.cells #[.int .i64 (lnth l k).kind, .string (lnth l k).name, .int .i64 (lnth l k).ex.k, .int .i64 (lnth l k).ex.n, .string (lnth l k).ex.s, .slice ax (lnth l k).ex.m cx] 52))
      go_wp2_with fail
      refine (meantL_any _ _ _ _ _ _ _ _ _).mono ?_
      rintro e w1 ⟨rfl, hb1⟩
      have HB1 := Lib.hid (HN.out.trans ((HBJ.out.trans (hb1.mono HBJ.out.size)).mono HN.out.size))
      obtain ⟨D, hown, hD⟩ := (HMAP.out.below HBJ.out).below hb1
      have HD := Lib.hid hD
      have hkey := key_of (HFIT.out k hlt)
      clear hb1 hD HMAP
      go_wp2_with (first
        | (at_mapUpdate; refine wpList_mapUpdate_own _ rfl _ _ _ 60 rfl 9 3 strLaw Tryd.underlying60 (plainElem (H := Unit) Tryd.prog 3) w.heap.size k _ rfl hown (by unfold maxLen; omega) _ _ _ rfl rfl hkey (.lit (.int .i64 (k : Int))) [] (plainElem_int Tryd.underlying3 (WalkArith.wf_i64 (by omega))) ?_; intro w2 hown2 hgrow2))
      go_roundw
      case rel => exact ⟨k + 1, by omega, by go_num, ⟨_, hown2, map_put hown.isMap HD.out⟩, HB1.out.grown hgrow2 HB1.out.size (fun j hj => by cases hj; exact Nat.le_refl _)⟩
      case measure => simp [intOf]; omega
    · have hkn : k = n := by omega
      subst hkn
      go_wp2_with fail
      go_ret
      exact ⟨rfl, HMAP.out, HN.out⟩
set_option maxRecDepth 100000 in
set_option maxHeartbeats 2000000 in
theorem placesN (a : Option Addr) (n cap : Nat) (l : List Ln) (w : World) (hc : CameL w a l) (hfit : ∀ j, j < n → (lnth l j).name.size ≤ maxLen) (hn : l.length = n) (hm : n ≤ 40) :
    Calls Tryd.prog 68 #[.slice a n cap, .func (.func 97) #[] #[]] w fun e w' => e = .returned (.map (some w.heap.size)) ∧ MapIs w' w.heap.size n (lastN (fun j => (lnth l j).name) n) ∧ Below w.heap.size w w' := by
  have HO := Lib.hid (fun h0 => hc.open hn h0)
  have HFIT := Lib.hid hfit
  have hmm := make_map
  clear hc hfit
  go_enter Tryd.func68, Tryd.ntmps68
  go_wp2_with fail
  go_loopw [13] (fun i wr => ∃ k : Nat, k ≤ n ∧ i = .int .i64 k ∧ MapIs wr w.heap.size k (lastN (fun j => (lnth l j).name) k) ∧ Below w.heap.size w wr) (fun i _ => n - (intOf i).toNat)
  case atStart => exact ⟨0, Nat.zero_le _, rfl, ⟨.map [], World.ownsMap_made _ _ _ _, fun s => ⟨by simp [Maps.has, lastN], by simp [lastN, DataW.atKey]⟩⟩, (Below.refl _ _).alloc (Nat.le_refl _) _⟩
  case round =>
    obtain ⟨k, hk, rfl, hmap, hnx⟩ := hrel
    have HMAP := Lib.hid hmap
    have HN := Lib.hid hnx
    clear hmap hnx
    by_cases hlt : k < n
    · have hlt' : (k : Int) < (n : Int) := by omega
      obtain ⟨b, off, rfl, hcell⟩ := HO.out (by omega)
      obtain ⟨ax, cx, ⟨x0, x1, x2, x3, x4, x5⟩, _⟩ := hcell wr HN.out k hlt
      clear hcell
      have HBJ := Lib.hid (kbelow_box wr (.cells #[.int .i64 (lnth l k).kind, .string (lnth l k).name, .int .i64 (lnth l k).ex.k, .int .i64 (lnth l k).ex.n, .string (lnth l k).ex.s, .slice ax (lnth l k).ex.m cx] 52))
      go_wp2_with fail
      refine (lineName_any _ _ _ _ _ _ _ _ _).mono ?_
      rintro e w1 ⟨rfl, hb1⟩
      have HB1 := Lib.hid (HN.out.trans ((HBJ.out.trans (hb1.mono HBJ.out.size)).mono HN.out.size))
      obtain ⟨D, hown, hD⟩ := (HMAP.out.below HBJ.out).below hb1
      have HD := Lib.hid hD
      have hkey := key_of (HFIT.out k hlt)
      clear hb1 hD HMAP
      go_wp2_with (first
        | (at_mapUpdate; refine wpList_mapUpdate_own _ rfl _ _ _ 60 rfl 9 3 strLaw Tryd.underlying60 (plainElem (H := Unit) Tryd.prog 3) w.heap.size k _ rfl hown (by unfold maxLen; omega) _ _ _ rfl rfl hkey (.lit (.int .i64 (k : Int))) [] (plainElem_int Tryd.underlying3 (WalkArith.wf_i64 (by omega))) ?_; intro w2 hown2 hgrow2))
      go_roundw
      case rel => exact ⟨k + 1, by omega, by go_num, ⟨_, hown2, map_put hown.isMap HD.out⟩, HB1.out.grown hgrow2 HB1.out.size (fun j hj => by cases hj; exact Nat.le_refl _)⟩
      case measure => simp [intOf]; omega
    · have hkn : k = n := by omega
      subst hkn
      go_wp2_with fail
      go_ret
      exact ⟨rfl, HMAP.out, HN.out⟩
end Go.Proofs.YtoingnhiipfnlaaDoor
