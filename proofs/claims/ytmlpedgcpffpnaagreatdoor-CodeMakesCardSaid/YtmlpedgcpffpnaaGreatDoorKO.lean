/-
  Promise H1: the walk of the reference's CheckKnown.
  A row of ints of the call's own that is appended to, one int at a time: what becomes of it, and that two such rows stay apart. No condition beyond those of each theorem.
  Promise G2: walks of the reference's TaxOf and RateOf.
-/
import Derived.Test.YtmlpedgcpffpnaaGreatDoorKB
import Derived.Test.YtmlpedgcpffpnaaGreatDoorKA
import Derived.ArgAppend
import Derived.Test.YtmlpedgcpffpnaaGreatDoorKJ
namespace Go.Proofs.YtmlpedgcpffpnaaGreatDoor
open Go.RowKit Go.Sort
theorem tblE_bd' (s : ByteArray) (l : List Bk) : 0 ≤ tblE s l ∧ tblE s l ≤ 6 := by have := tblE_bd s l; omega
theorem tbsE_err {l : List Tb} {n k : Nat} (hn : l.length = n) (hk : k < n) (h0 : firstE (tbE l) k = 0) (he : tbE l k ≠ 0) : tbsE l = tbE l k := by
 have h := firstE_err hk h0 he
 unfold tbsE
 rw [hn, h]
 exact if_neg he
set_option maxRecDepth 100000 in
set_option maxHeartbeats 4000000 in
theorem known_ref (a1 a2 a3 : Option Addr) (n1 n2 n3 c1 c2 c3 : Nat) (k : Kn) (w : World) (hc : CameK w a1 a2 a3 k) (h1 : k.ins.length = n1) (h2 : k.tbs.length = n2) (h3 : k.yrs.length = n3) :
 Calls Tryz.prog 28 #[.agg #[.slice a1 n1 c1, .slice a2 n2 c2, .slice a3 n3 c3]] w fun e w' => e = .returned (.int .i64 (knE k)) ∧ Below w.heap.size w w' := by
 have hm1 : n1 ≤ 9223372036854775807 := by have := hc.2.2.2.2.2.1; unfold maxLen at this; omega
 have hm2 : n2 ≤ 9223372036854775807 := by have := hc.2.2.2.2.2.2.1; unfold maxLen at this; omega
 have hm3 : n3 ≤ 9223372036854775807 := by have := hc.2.2.2.2.2.2.2; unfold maxLen at this; omega
 have HC := Lib.hid hc
 have H1 := Lib.hid h1
 have H2 := Lib.hid h2
 have H3 := Lib.hid h3
 have HE : Hid (knE k = if 30 < n1 ∨ 30 < n2 ∨ 30 < n3 then 2 else if amsE k.ins = 0 then (if amsE k.yrs = 0 then tbsE k.tbs else amsE k.yrs) else amsE k.ins) := by unfold Hid knE; rw [h1, h2, h3]
 clear hc h1 h2 h3
 have HB0 := Lib.hid (kbelow_box w (.cells #[.slice a1 n1 c1, .slice a2 n2 c2, .slice a3 n3 c3] 26))
 have HK0 := Lib.hid (KAt.made w (.slice a1 n1 c1) (.slice a2 n2 c2) (.slice a3 n3 c3) 26)
 by_cases g1 : 30 < n1
 ·have g1' : (30 : Int) < (n1 : Int) := by omega
  have HR : Hid (knE k = 2) := by unfold Hid; rw [HE.out, if_pos (.inl g1)]
  go_enter Tryz.func28, Tryz.ntmps28
  go_wp2_with fail
  go_ret
  exact ⟨kret_int HR.out.symm, HB0.out⟩
 ·have g1' : decide ((30 : Int) < (n1 : Int)) = false := decide_eq_false (by omega)
  by_cases g2 : 30 < n2
  ·have g2' : (30 : Int) < (n2 : Int) := by omega
   have HR : Hid (knE k = 2) := by unfold Hid; rw [HE.out, if_pos (.inr (.inl g2))]
   go_enter Tryz.func28, Tryz.ntmps28
   go_wp2_with fail
   go_ret
   exact ⟨kret_int HR.out.symm, HB0.out⟩
  ·have g2' : decide ((30 : Int) < (n2 : Int)) = false := decide_eq_false (by omega)
   by_cases g3 : 30 < n3
   ·have g3' : (30 : Int) < (n3 : Int) := by omega
    have HR : Hid (knE k = 2) := by unfold Hid; rw [HE.out, if_pos (.inr (.inr g3))]
    go_enter Tryz.func28, Tryz.ntmps28
    go_wp2_with fail
    go_ret
    exact ⟨kret_int HR.out.symm, HB0.out⟩
   ·have g3' : decide ((30 : Int) < (n3 : Int)) = false := decide_eq_false (by omega)
    have HEN : Hid (knE k = if amsE k.ins = 0 then (if amsE k.yrs = 0 then tbsE k.tbs else amsE k.yrs) else amsE k.ins) := by unfold Hid; rw [HE.out, if_neg (by omega)]
    go_enter Tryz.func28, Tryz.ntmps28
    go_wp2_with fail
    refine (checkAmounts_ref a1 n1 c1 k.ins _ (HC.out.1.below HB0.out) HC.out.2.2.2.1 H1.out (by have := HC.out.2.2.2.2.2.1; have := H1.out; omega)).mono ?_
    rintro e w1 ⟨rfl, hb1⟩
    have HB1 := Lib.hid (HB0.out.trans (hb1.mono HB0.out.size))
    have HX1 := Lib.hid (KAt.below HK0.out hb1)
    clear hb1
    obtain ⟨_, x0, x1, x2⟩ := HX1.out
    have hb1 := amsE_bd k.ins
    have hb3 := amsE_bd k.yrs
    by_cases z1 : amsE k.ins = 0
    ·rw [if_pos z1] at HEN
     rw [z1]
     clear hb1
     go_wp2_with fail
     refine (checkAmounts_ref a3 n3 c3 k.yrs _ (HC.out.2.2.1.below HB1.out) HC.out.2.2.2.2.1 H3.out (by have := HC.out.2.2.2.2.2.2.2; have := H3.out; omega)).mono ?_
     rintro e w2 ⟨rfl, hb2⟩
     have HB2 := Lib.hid (HB1.out.trans (hb2.mono HB1.out.size))
     have HX2 := Lib.hid (KAt.below HX1.out hb2)
     clear hb2 x0 x1 x2
     obtain ⟨_, x0, x1, x2⟩ := HX2.out
     have HZ : Hid (amsE k.yrs ≠ 0 → knE k = amsE k.yrs) := fun h => by rw [HEN.out]; exact if_neg h
     have HZE : Hid (amsE k.yrs = 0 → knE k = tbsE k.tbs) := fun h => by rw [HEN.out]; exact if_pos h
     clear HEN
     generalize amsE k.yrs = z at *
     go_wp2_with fail
     go_loopw [3, 4] (fun ev i wr => ∃ (j : Nat) (x : Int), j ≤ n2 ∧ i = .int .i64 j ∧ ev = .int .i64 x ∧ 0 ≤ x ∧ x ≤ 6 ∧ (x = 0 → firstE (tbE k.tbs) j = 0 ∧ z = 0) ∧ (x ≠ 0 → knE k = x) ∧ Below w2.heap.size w2 wr) (fun _ i _ => n2 - (intOf i).toNat)
     case atStart => exact ⟨0, z, Nat.zero_le _, rfl, rfl, by omega, by omega, fun h => ⟨rfl, h⟩, HZ.out, Below.refl _ _⟩
     case round =>
      obtain ⟨j, x, hj, rfl, rfl, hx0, hx6, hfx, hkx, hbr⟩ := hrel
      have HFX := Lib.hid hfx
      have HKX := Lib.hid hkx
      have HBR := Lib.hid hbr
      have HX3 := Lib.hid (KAt.below HX2.out hbr)
      have HBW := Lib.hid (HB2.out.trans (hbr.mono HB2.out.size))
      clear hfx hkx hbr x0 x1 x2
      obtain ⟨_, x0, x1, x2⟩ := HX3.out
      by_cases hlt : j < n2
      ·have hlt' : (j : Int) < (n2 : Int) := by omega
       by_cases hx : x = 0
       ·have HF0 := Lib.hid (HFX.out hx)
        clear HFX HKX
        subst hx
        obtain ⟨b, off, rfl, hcell⟩ := HC.out.2.1.open H2.out (by omega)
        obtain ⟨ax, cx, y0, y1, hcb, hs, hlb⟩ := hcell wr HBW.out j hlt
        have HCB := Lib.hid hcb
        have HLB := Lib.hid hlb
        clear hcell hcb hlb
        go_wp2_with fail
        refine (check_ref (tnth k.tbs j).name ax _ cx (tnth k.tbs j).bks _ (by unfold maxLen at hs; omega) HCB.out rfl HLB.out).mono ?_
        rintro e w3 ⟨rfl, hb3⟩
        have HB3 := Lib.hid (HBR.out.trans (hb3.mono HBR.out.size))
        have hbd := tblE_bd' (tnth k.tbs j).name (tnth k.tbs j).bks
        clear hb3 x0 x1 x2 y0 y1
        have HF1 : Hid (tblE (tnth k.tbs j).name (tnth k.tbs j).bks = 0 → firstE (tbE k.tbs) (j + 1) = 0 ∧ z = 0) := fun h => ⟨by rw [firstE_ok HF0.out.1]; exact h, HF0.out.2⟩
        have HF2 : Hid (tblE (tnth k.tbs j).name (tnth k.tbs j).bks ≠ 0 → knE k = tblE (tnth k.tbs j).name (tnth k.tbs j).bks) := fun h => by
         rw [HZE.out HF0.out.2]
         exact tbsE_err H2.out hlt HF0.out.1 h
        generalize tblE (tnth k.tbs j).name (tnth k.tbs j).bks = y at *
        go_wp2_with fail
        go_roundw
        case rel => exact ⟨j + 1, y, by omega, by go_num, rfl, by omega, by omega, HF1.out, HF2.out, HB3.out⟩
        case measure => simp [intOf]; omega
       ·have hxB : decide (x = 0) = false := decide_eq_false hx
        have hxE : (x == 0) = false := by simpa using hx
        have HR := Lib.hid (HKX.out hx)
        clear HFX HKX
        go_wp2_with fail
        go_loopw [3, 5] (fun ev i wq => ev = .int .i64 x ∧ i = .int .i64 1 ∧ Below wr.heap.size wr wq) (fun _ _ _ => 0)
        case atStart => exact ⟨rfl, rfl, Below.refl _ _⟩
        case round =>
         obtain ⟨rfl, rfl, hbq⟩ := hrel
         have HBQ := Lib.hid (HBW.out.trans (hbq.mono HBW.out.size))
         have HX4 := Lib.hid (KAt.below HX3.out hbq)
         clear hbq x0 x1 x2
         obtain ⟨_, x0, x1, x2⟩ := HX4.out
         by_cases h1 : (1 : Int) < (n2 : Int)
         ·go_wp2_with fail
          go_ret
          exact ⟨kret_int HR.out.symm, HBQ.out⟩
         ·have h1B : decide ((1 : Int) < (n2 : Int)) = false := decide_eq_false h1
          go_wp2_with fail
          go_ret
          exact ⟨kret_int HR.out.symm, HBQ.out⟩
      ·have hlB : decide ((j : Int) < (n2 : Int)) = false := decide_eq_false (by omega)
       have hjn : j = n2 := by omega
       subst hjn
       have HT : Hid (x = 0 → knE k = if upN (fun j => (tnth k.tbs j).name) j = false then 6 else 0) := fun h => by
        rw [HZE.out (HFX.out h).2]
        unfold tbsE
        rw [H2.out]
        exact if_pos (HFX.out h).1
       clear HFX
       go_wp2_with fail
       go_loopw [3, 5] (fun ev i wq => ∃ (r : Nat) (y : Int), (r + 1 ≤ j ∨ r = 0) ∧ i = .int .i64 ((r : Int) + 1) ∧ ev = .int .i64 y ∧ 0 ≤ y ∧ y ≤ 6 ∧ (y = 0 → x = 0 ∧ ∀ i, i < r → leS (tnth k.tbs (i + 1)).name (tnth k.tbs i).name = false) ∧ (y ≠ 0 → knE k = y) ∧ Below wr.heap.size wr wq) (fun _ i _ => j - (intOf i).toNat)
       case atStart => exact ⟨0, x, .inr rfl, rfl, rfl, by omega, by omega, fun h => ⟨h, fun i hi => by omega⟩, HKX.out, Below.refl _ _⟩
       case round =>
        obtain ⟨r, y, hrk, rfl, rfl, hy0, hy6, hall, hky, hbq⟩ := hrel
        have HA := Lib.hid hall
        have HKY := Lib.hid hky
        have HBQ := Lib.hid hbq
        have HBV := Lib.hid (HBW.out.trans (hbq.mono HBW.out.size))
        have HX4 := Lib.hid (KAt.below HX3.out hbq)
        clear hall hky hbq x0 x1 x2
        obtain ⟨_, x0, x1, x2⟩ := HX4.out
        by_cases hlt : r + 1 < j
        ·have hlt' : (r : Int) + 1 < (j : Int) := by omega
         by_cases hy : y = 0
         ·have HA0 := Lib.hid (HA.out hy)
          clear HA HKY
          subst hy
          have hlt0 : (r : Int) < (j : Int) := by omega
          obtain ⟨b, off, rfl, hcell⟩ := HC.out.2.1.open H2.out (by omega)
          obtain ⟨ax, cx, p0, p1, _⟩ := hcell _ HBV.out r (by omega)
          obtain ⟨ay, cy, q0, q1, _⟩ := hcell _ HBV.out (r + 1) (by omega)
          clear hcell
          have htn : ((r : Int) + 1).toNat = r + 1 := by omega
          have hsub : (r : Int) + 1 - 1 = (r : Int) := by omega
          cases hle : leS (tnth k.tbs (r + 1)).name (tnth k.tbs r).name
          ·have HA1 : Hid (∀ i, i < r + 1 → leS (tnth k.tbs (i + 1)).name (tnth k.tbs i).name = false) := fun i hi => by
            by_cases e : i = r
            ·subst e; exact hle
            ·exact HA0.out.2 i (by omega)
           have HX0 := Lib.hid HA0.out.1
           unfold leS at hle
           go_wp2_with fail
           go_quiet (fail)
           go_wp2_with fail
           go_roundw
           case rel => exact ⟨r + 1, 0, .inl (by omega), by go_num, rfl, by omega, by omega, fun _ => ⟨HX0.out, HA1.out⟩, fun h => absurd rfl h, kbelow_dN HBQ.out _⟩
           case measure => simp [intOf]; omega
          ·have HR : Hid (knE k = 6) := by
            unfold Hid
            rw [HT.out HA0.out.1, if_pos (upN_not (f := fun j => (tnth k.tbs j).name) hlt hle)]
           unfold leS at hle
           go_wp2_with fail
           go_quiet (fail)
           go_wp2_with fail
           go_roundw
           case rel => exact ⟨r + 1, 6, .inl (by omega), by go_num, rfl, by omega, by omega, fun h => by omega, fun _ => HR.out, kbelow_dN HBQ.out _⟩
           case measure => simp [intOf]; omega
         ·have hyB : decide (y = 0) = false := decide_eq_false hy
          have hyE : (y == 0) = false := by simpa using hy
          have HR := Lib.hid (HKY.out hy)
          go_wp2_with fail
          go_ret
          exact ⟨kret_int HR.out.symm, HBV.out⟩
        ·have hlB2 : decide ((r : Int) + 1 < (j : Int)) = false := decide_eq_false (by omega)
         have HR : Hid (knE k = y) := by
          unfold Hid
          by_cases hy : y = 0
          ·rw [HT.out (HA.out hy).1, upN_iff.2 (fun i hi => (HA.out hy).2 i (by omega))]
           simp [hy]
          ·exact HKY.out hy
         clear HA HKY
         go_wp2_with fail
         go_ret
         exact ⟨kret_int HR.out.symm, HBV.out⟩
    ·rw [if_neg z1] at HEN
     have z1B : decide (amsE k.ins = 0) = false := decide_eq_false z1
     have z1N : (amsE k.ins == 0) = false := by simpa using z1
     have HZ : Hid (amsE k.ins ≠ 0 → knE k = amsE k.ins) := fun _ => HEN.out
     have HZE : Hid (amsE k.ins = 0 → knE k = tbsE k.tbs) := fun h => absurd h z1
     clear HEN hb3
     generalize amsE k.ins = z at *
     have HB2 := HB1
     have HX2 := HX1
     generalize w1 = w2 at *
     go_wp2_with fail
     go_loopw [3, 4] (fun ev i wr => ∃ (j : Nat) (x : Int), j ≤ n2 ∧ i = .int .i64 j ∧ ev = .int .i64 x ∧ 0 ≤ x ∧ x ≤ 6 ∧ (x = 0 → firstE (tbE k.tbs) j = 0 ∧ z = 0) ∧ (x ≠ 0 → knE k = x) ∧ Below w2.heap.size w2 wr) (fun _ i _ => n2 - (intOf i).toNat)
     case atStart => exact ⟨0, z, Nat.zero_le _, rfl, rfl, by omega, by omega, fun h => ⟨rfl, h⟩, HZ.out, Below.refl _ _⟩
     case round =>
      obtain ⟨j, x, hj, rfl, rfl, hx0, hx6, hfx, hkx, hbr⟩ := hrel
      have HFX := Lib.hid hfx
      have HKX := Lib.hid hkx
      have HBR := Lib.hid hbr
      have HX3 := Lib.hid (KAt.below HX2.out hbr)
      have HBW := Lib.hid (HB2.out.trans (hbr.mono HB2.out.size))
      clear hfx hkx hbr x0 x1 x2
      obtain ⟨_, x0, x1, x2⟩ := HX3.out
      by_cases hlt : j < n2
      ·have hlt' : (j : Int) < (n2 : Int) := by omega
       by_cases hx : x = 0
       ·have HF0 := Lib.hid (HFX.out hx)
        clear HFX HKX
        subst hx
        obtain ⟨b, off, rfl, hcell⟩ := HC.out.2.1.open H2.out (by omega)
        obtain ⟨ax, cx, y0, y1, hcb, hs, hlb⟩ := hcell wr HBW.out j hlt
        have HCB := Lib.hid hcb
        have HLB := Lib.hid hlb
        clear hcell hcb hlb
        go_wp2_with fail
        refine (check_ref (tnth k.tbs j).name ax _ cx (tnth k.tbs j).bks _ (by unfold maxLen at hs; omega) HCB.out rfl HLB.out).mono ?_
        rintro e w3 ⟨rfl, hb3⟩
        have HB3 := Lib.hid (HBR.out.trans (hb3.mono HBR.out.size))
        have hbd := tblE_bd' (tnth k.tbs j).name (tnth k.tbs j).bks
        clear hb3 x0 x1 x2 y0 y1
        have HF1 : Hid (tblE (tnth k.tbs j).name (tnth k.tbs j).bks = 0 → firstE (tbE k.tbs) (j + 1) = 0 ∧ z = 0) := fun h => ⟨by rw [firstE_ok HF0.out.1]; exact h, HF0.out.2⟩
        have HF2 : Hid (tblE (tnth k.tbs j).name (tnth k.tbs j).bks ≠ 0 → knE k = tblE (tnth k.tbs j).name (tnth k.tbs j).bks) := fun h => by
         rw [HZE.out HF0.out.2]
         exact tbsE_err H2.out hlt HF0.out.1 h
        generalize tblE (tnth k.tbs j).name (tnth k.tbs j).bks = y at *
        go_wp2_with fail
        go_roundw
        case rel => exact ⟨j + 1, y, by omega, by go_num, rfl, by omega, by omega, HF1.out, HF2.out, HB3.out⟩
        case measure => simp [intOf]; omega
       ·have hxB : decide (x = 0) = false := decide_eq_false hx
        have hxE : (x == 0) = false := by simpa using hx
        have HR := Lib.hid (HKX.out hx)
        clear HFX HKX
        go_wp2_with fail
        go_loopw [3, 5] (fun ev i wq => ev = .int .i64 x ∧ i = .int .i64 1 ∧ Below wr.heap.size wr wq) (fun _ _ _ => 0)
        case atStart => exact ⟨rfl, rfl, Below.refl _ _⟩
        case round =>
         obtain ⟨rfl, rfl, hbq⟩ := hrel
         have HBQ := Lib.hid (HBW.out.trans (hbq.mono HBW.out.size))
         have HX4 := Lib.hid (KAt.below HX3.out hbq)
         clear hbq x0 x1 x2
         obtain ⟨_, x0, x1, x2⟩ := HX4.out
         by_cases h1 : (1 : Int) < (n2 : Int)
         ·go_wp2_with fail
          go_ret
          exact ⟨kret_int HR.out.symm, HBQ.out⟩
         ·have h1B : decide ((1 : Int) < (n2 : Int)) = false := decide_eq_false h1
          go_wp2_with fail
          go_ret
          exact ⟨kret_int HR.out.symm, HBQ.out⟩
      ·have hlB : decide ((j : Int) < (n2 : Int)) = false := decide_eq_false (by omega)
       have hjn : j = n2 := by omega
       subst hjn
       have HT : Hid (x = 0 → knE k = if upN (fun j => (tnth k.tbs j).name) j = false then 6 else 0) := fun h => by
        rw [HZE.out (HFX.out h).2]
        unfold tbsE
        rw [H2.out]
        exact if_pos (HFX.out h).1
       clear HFX
       go_wp2_with fail
       go_loopw [3, 5] (fun ev i wq => ∃ (r : Nat) (y : Int), (r + 1 ≤ j ∨ r = 0) ∧ i = .int .i64 ((r : Int) + 1) ∧ ev = .int .i64 y ∧ 0 ≤ y ∧ y ≤ 6 ∧ (y = 0 → x = 0 ∧ ∀ i, i < r → leS (tnth k.tbs (i + 1)).name (tnth k.tbs i).name = false) ∧ (y ≠ 0 → knE k = y) ∧ Below wr.heap.size wr wq) (fun _ i _ => j - (intOf i).toNat)
       case atStart => exact ⟨0, x, .inr rfl, rfl, rfl, by omega, by omega, fun h => ⟨h, fun i hi => by omega⟩, HKX.out, Below.refl _ _⟩
       case round =>
        obtain ⟨r, y, hrk, rfl, rfl, hy0, hy6, hall, hky, hbq⟩ := hrel
        have HA := Lib.hid hall
        have HKY := Lib.hid hky
        have HBQ := Lib.hid hbq
        have HBV := Lib.hid (HBW.out.trans (hbq.mono HBW.out.size))
        have HX4 := Lib.hid (KAt.below HX3.out hbq)
        clear hall hky hbq x0 x1 x2
        obtain ⟨_, x0, x1, x2⟩ := HX4.out
        by_cases hlt : r + 1 < j
        ·have hlt' : (r : Int) + 1 < (j : Int) := by omega
         by_cases hy : y = 0
         ·have HA0 := Lib.hid (HA.out hy)
          clear HA HKY
          subst hy
          have hlt0 : (r : Int) < (j : Int) := by omega
          obtain ⟨b, off, rfl, hcell⟩ := HC.out.2.1.open H2.out (by omega)
          obtain ⟨ax, cx, p0, p1, _⟩ := hcell _ HBV.out r (by omega)
          obtain ⟨ay, cy, q0, q1, _⟩ := hcell _ HBV.out (r + 1) (by omega)
          clear hcell
          have htn : ((r : Int) + 1).toNat = r + 1 := by omega
          have hsub : (r : Int) + 1 - 1 = (r : Int) := by omega
          cases hle : leS (tnth k.tbs (r + 1)).name (tnth k.tbs r).name
          ·have HA1 : Hid (∀ i, i < r + 1 → leS (tnth k.tbs (i + 1)).name (tnth k.tbs i).name = false) := fun i hi => by
            by_cases e : i = r
            ·subst e; exact hle
            ·exact HA0.out.2 i (by omega)
           have HX0 := Lib.hid HA0.out.1
           unfold leS at hle
           go_wp2_with fail
           go_quiet (fail)
           go_wp2_with fail
           go_roundw
           case rel => exact ⟨r + 1, 0, .inl (by omega), by go_num, rfl, by omega, by omega, fun _ => ⟨HX0.out, HA1.out⟩, fun h => absurd rfl h, kbelow_dN HBQ.out _⟩
           case measure => simp [intOf]; omega
          ·have HR : Hid (knE k = 6) := by
            unfold Hid
            rw [HT.out HA0.out.1, if_pos (upN_not (f := fun j => (tnth k.tbs j).name) hlt hle)]
           unfold leS at hle
           go_wp2_with fail
           go_quiet (fail)
           go_wp2_with fail
           go_roundw
           case rel => exact ⟨r + 1, 6, .inl (by omega), by go_num, rfl, by omega, by omega, fun h => by omega, fun _ => HR.out, kbelow_dN HBQ.out _⟩
           case measure => simp [intOf]; omega
         ·have hyB : decide (y = 0) = false := decide_eq_false hy
          have hyE : (y == 0) = false := by simpa using hy
          have HR := Lib.hid (HKY.out hy)
          go_wp2_with fail
          go_ret
          exact ⟨kret_int HR.out.symm, HBV.out⟩
        ·have hlB2 : decide ((r : Int) + 1 < (j : Int)) = false := decide_eq_false (by omega)
         have HR : Hid (knE k = y) := by
          unfold Hid
          by_cases hy : y = 0
          ·rw [HT.out (HA.out hy).1, upN_iff.2 (fun i hi => (HA.out hy).2 i (by omega))]
           simp [hy]
          ·exact HKY.out hy
         clear HA HKY
         go_wp2_with fail
         go_ret
         exact ⟨kret_int HR.out.symm, HBV.out⟩
end Go.Proofs.YtmlpedgcpffpnaaGreatDoor
namespace Go.Proofs.YtmlpedgcpffpnaaGreatDoor
open Go.RowKit
theorem info_i : (Tryz.prog.info? 3).map (fun i => (i.zero, i.size, i.bytes)) = some (some (.int .i64 0), 1, 8) := by kernel_rfl
def Grow (w : World) (B : Nat) (v : Value) (l : List Int) : Prop := w.ownsRow B 3 1 v l.length (l.map (Value.int .i64))
def Apart (v u : Value) : Prop := v.ownBlock = none ∨ u.ownBlock = none ∨ v.ownBlock ≠ u.ownBlock
theorem Grow.nil (w : World) (B : Nat) : Grow w B (.slice none 0 0) [] := World.ownsRow_nil _ _ _ _
theorem Grow.alloc {w : World} {B : Nat} {v : Value} {l : List Int} (h : Grow w B v l) (o : Obj) : Grow (w.alloc o) B v l := World.ownsRow.alloc h o
theorem Grow.drewN {w : World} {B : Nat} {v : Value} {l : List Int} (h : Grow w B v l) (k : Nat) : Grow (w.drewN k) B v l := h
theorem Grow.lt {w : World} {B : Nat} {v : Value} {l : List Int} (h : Grow w B v l) : ∀ k, v.ownBlock = some k → B ≤ k ∧ k < w.heap.size := World.ownsRow.lt h
theorem Grow.kept {w w' : World} {B : Nat} {v u : Value} {l : List Int} (h : Grow w B v l) (hg : w.grownBy w' u.ownBlock) (ha : Apart v u) : Grow w' B v l := by
 rcases ha with ha | ha | ha
 ·exact World.ownsRow.kept h hg (.inl ha)
 ·cases hv : v.ownBlock with
  | none => exact World.ownsRow.kept h hg (.inl hv)
  | some k => exact World.ownsRow.kept h hg (.inr (by rw [hv, ha]; exact Option.some_ne_none k))
 ·exact World.ownsRow.kept h hg (.inr ha)
theorem Grow.own {w : World} {B : Nat} {v : Value} {l : List Int} (h : Grow w B v l) (h0 : 0 < l.length) :
 ∃ g c, v = .slice (some ⟨g, 0, none⟩) l.length c ∧ B ≤ g ∧ Own w g l := by
 have hh := h
 obtain ⟨_, h2⟩ := h
 rcases h2 with ⟨_, h2⟩ | ⟨g, c, cur, rfl, hg, hb, hc, hm, hs, ht⟩
 ·omega
 ·refine ⟨g, c, rfl, hg, (Grow.lt hh g rfl).2, fun j hj => ⟨?_, World.ownsRow.frozenAt hh j⟩⟩
  have := World.ownsRow.cellAt hh j (by omega)
  rw [this]
  simp [nth, List.getD_eq_getElem?_getD, hj]
theorem wpList_app {ops : Array Oper} {rest : List Oper} {o : Oper} {a : Act} {Q : Exit → Act → World → Prop} (w : World) (hgd : o.guard = none) (s x : Operand)
 (ho : o.op = .call { callee := .builtin .append, args := #[s, x], argTypes := #[35, 35] })
 (B : Nat) (v : Value) (l : List Int) (hs : a.eval s = v) (hown : Grow w B v l) (ad : Addr) (c : Nat) (z : Int) (hx : a.eval x = .slice (some ad) 1 c) (hz : w.cell? ad = some (.int .i64 z))
 (hl : l.length ≤ 1000000000) (hB : B ≤ w.heap.size)
 (h : ∀ v' w', Grow w' B v' (l ++ [z]) → w.grownBy w' v.ownBlock → (v'.ownBlock = v.ownBlock ∨ ∃ g, v'.ownBlock = some g ∧ w.heap.size ≤ g) → (∃ g c', v' = .slice (some ⟨g, 0, none⟩) (l.length + 1) c') → wpList Tryz.prog ops Q rest (a.put o.dst v') w') :
 wpList Tryz.prog ops Q (o :: rest) a w := by
 obtain ⟨i0, hi, hz0, hz1, hz2⟩ := info_parts info_i
 have hc : ∀ j u, [Value.int .i64 z][j]? = some u → w.cell? (ad.add j) = some u := by
  intro j u hj
  match j, hj with
  | 0, hj => simp at hj; subst hj; simpa [Addr.add] using hz
 have h1c : ∀ u ∈ [Value.int .i64 z], u.oneCell' = true := by intro u hu; simp at hu; subst hu; rfl
 have hh := hown
 obtain ⟨_, h2⟩ := hown
 have fin : ∀ v' w', w'.ownsRow w.heap.size 3 1 v' (l.length + 1) (l.map (Value.int .i64) ++ [.int .i64 z]) → w.grownBy w' none → wpList Tryz.prog ops Q rest (a.put o.dst v') w' := by
  intro v' w' ho' hg
  have hg' : Grow w' w.heap.size v' (l ++ [z]) := by unfold Grow; simpa using ho'
  have hgB : Grow w' B v' (l ++ [z]) := by
   obtain ⟨q1, q2⟩ := hg'
   refine ⟨q1, q2.imp id ?_⟩
   rintro ⟨g, cap, cur, e1, e2, r⟩
   exact ⟨g, cap, cur, e1, by omega, r⟩
  obtain ⟨g, c', e, hge, _⟩ := Grow.own hg' (by simp)
  refine h v' w' hgB ⟨hg.os, hg.tape, hg.output, hg.size, fun k hk _ => hg.block k hk (by simp)⟩ (.inr ⟨g, by rw [e]; rfl, hge⟩) ⟨g, c', by rw [e]; simp⟩
 rcases h2 with ⟨rfl, h2⟩ | ⟨g, cap, cur, rfl, hg, hb, hcap, hm, hsz, ht⟩
 ·have hln : l = [] := List.eq_nil_of_length_eq_zero (by omega)
  subst hln
  exact wpList_append_grows w hgd s x 35 ho 3 i0 (.int .i64 0) 1 8 Tryz.underlying35 hi hz0 hz1 hz2 rfl (by decide) none 0 0 [] hs (fun _ => ⟨rfl, rfl⟩) rfl (fun b hb => by cases hb) ad 1 c [.int .i64 z] hx rfl hc h1c (by omega) (by unfold maxLen; omega) (by omega) (by simpa using fin)
 ·by_cases hr : l.length + 1 ≤ cap
  ·refine wpList_append_fits w hgd s x 35 ho B 3 i0 1 Tryz.underlying35 hi hz1 g l.length cap (l.map (Value.int .i64)) hs hh ad 1 c [.int .i64 z] hx rfl hc h1c hr ?_
   intro w' ho' hg'
   exact h _ w' (by unfold Grow; simpa using ho') hg' (.inl rfl) ⟨g, cap, rfl⟩
  ·have hcell : ∀ b, (some (⟨g, 0, none⟩ : Addr)) = some b → ∀ j u, (l.map (Value.int .i64))[j]? = some u → w.cell? (b.add j) = some u := by
    intro b hb j u hj
    cases hb
    exact World.ownsRow.cells hh rfl j u hj
   exact wpList_append_grows w hgd s x 35 ho 3 i0 (.int .i64 0) 1 8 Tryz.underlying35 hi hz0 hz1 hz2 rfl (by decide) (some ⟨g, 0, none⟩) l.length cap (l.map (Value.int .i64)) hs (fun e => by cases e) (by simp) hcell ad 1 c [.int .i64 z] hx rfl hc h1c (by omega) (by unfold maxLen; omega) (by omega) fin
theorem Apart.app {w : World} {B : Nat} {v v' u : Value} {l : List Int} (ha : Apart u v) (hu : Grow w B u l) (h : v'.ownBlock = v.ownBlock ∨ ∃ g, v'.ownBlock = some g ∧ w.heap.size ≤ g) : Apart u v' := by
 unfold Apart at *
 rcases h with h | ⟨g, h, hg⟩
 ·rw [h]; exact ha
 ·rw [h]
  cases hv : u.ownBlock with
  | none => exact .inl rfl
  | some k =>
    right; right
    have := Grow.lt hu k hv
    intro e
    cases e
    omega
theorem Apart.symm {v u : Value} (h : Apart v u) : Apart u v := by
 unfold Apart at *
 rcases h with h | h | h
 ·exact .inr (.inl h)
 ·exact .inl h
 ·exact .inr (.inr fun e => h e.symm)
theorem Apart.ne {g k : Nat} {n c m d : Nat} (h : Apart (.slice (some ⟨g, 0, none⟩) n c) (.slice (some ⟨k, 0, none⟩) m d)) : g ≠ k := by
 rintro rfl
 rcases h with h | h | h
 ·cases h
 ·cases h
 ·exact h rfl
end Go.Proofs.YtmlpedgcpffpnaaGreatDoor
namespace Go.Proofs.YtmlpedgcpffpnaaGreatDoor
open Go.RowKit
set_option maxRecDepth 100000 in
set_option maxHeartbeats 1000000 in
theorem taxOf_ref (s : ByteArray) (a : Option Addr) (n cap : Nat) (l : List Bk) (base : Int) (w : World) (hc : CameB w a l) (hn : l.length = n) (hl : Right l) (h1 : -1000000000000 ≤ base) (h2 : base ≤ 1000000000000) :
 Calls Tryz.prog 38 #[.agg #[.string s, .slice a n cap], .int .i64 base] w fun e w' => e = .returned (.int .i64 (taxN l base)) ∧ Below w.heap.size w w' := by
 have hn12 : n ≤ 12 := by rw [← hn]; exact hl.2.1
 have hn1 : 1 ≤ n := by rw [← hn]; exact hl.1
 have HL := Lib.hid hl
 obtain ⟨b, off, rfl, hcell⟩ := hc.open hn (by rw [← hn]; exact hl.1)
 have HO := Lib.hid hcell
 clear hcell hc hl
 have HB0 := Lib.hid (kbelow_box w (.cells #[.string s, .slice (some ⟨b, off, none⟩) n cap] 83))
 obtain ⟨_, x0, x1⟩ := TIs.made w s (some ⟨b, off, none⟩) n cap 83
 go_enter Tryz.func38, Tryz.ntmps38
 go_wp2_with fail
 go_loop [5, 6] (fun p i => ∃ k : Nat, k ≤ n ∧ i = .int .i64 k ∧ p = .int .i64 (rP l base k)) (fun _ i => n - (intOf i).toNat)
 case atStart => exact ⟨0, Nat.zero_le _, rfl, rfl⟩
 case round =>
  obtain ⟨k, hk, rfl, rfl⟩ := hrel
  have hpb := rP_bound HL.out h2 k (by omega)
  by_cases hlt : k < n
  ·have hlt' : (k : Int) < (n : Int) := by omega
   obtain ⟨y0, y1⟩ := HO.out _ HB0.out k hlt
   have hq := right_nth HL.out (j := k) (by omega)
   have hpb2 := rP_bound HL.out h2 (k + 1) (by omega)
   have HS : Hid (rP l base k + hb l base k * more l k = rP l base (k + 1)) := rfl
   have HH : Hid (hb l base k = max 0 (base - (bnth l k).frm)) := by unfold Hid hb; rw [if_pos (by omega)]
   by_cases hk0 : k = 0
   ·subst hk0
    have HMo : Hid (more l 0 = (bnth l 0).rate) := rfl
    simp only [Nat.zero_mul, Nat.add_zero] at y0 y1
    by_cases hb0 : (bnth l 0).frm < base
    ·have HV : Hid ((base - (bnth l 0).frm) * (bnth l 0).rate = hb l base 0 * more l 0) := by unfold Hid; rw [HH.out, HMo.out, show max 0 (base - (bnth l 0).frm) = base - (bnth l 0).frm by omega]
     go_wp2_with fail
     go_round
     case rel =>
      have hS := HS.out
      refine ⟨0 + 1, by omega, by go_num, ?_⟩
      rw [HV.out, IntWalk.wrap64_in (hb l base 0 * more l 0) (by omega), IntWalk.wrap64_in _ (by omega), HS.out]
     case measure => simp [intOf]; omega
    ·have hbB : decide ((bnth l 0).frm < base) = false := decide_eq_false hb0
     have HV : Hid (rP l base 0 = rP l base (0 + 1)) := by unfold Hid; rw [← HS.out, HH.out, show max 0 (base - (bnth l 0).frm) = 0 by omega]; omega
     go_wp2_with fail
     go_round
     case rel => exact ⟨0 + 1, by omega, by go_num, by rw [← HV.out]⟩
     case measure => simp [intOf]; omega
   ·obtain ⟨q, rfl⟩ : ∃ q, k = q + 1 := ⟨k - 1, by omega⟩
    obtain ⟨_, z1⟩ := HO.out _ HB0.out q (by omega)
    have hq' := right_nth HL.out (j := q) (by omega)
    rw [show ((q + 1 : Nat) : Int) = (q : Int) + 1 by omega]
    rw [show ((q + 1 : Nat) : Int) = (q : Int) + 1 by omega] at hlt'
    have hsub : (q : Int) + 1 - 1 = (q : Int) := by omega
    have htn : ((q : Int) + 1).toNat = q + 1 := by omega
    have hlq : (q : Int) < (n : Int) := by omega
    have hp' : (0 : Int) < (q : Int) + 1 := by omega
    have HMo : Hid (more l (q + 1) = (bnth l (q + 1)).rate - (bnth l q).rate) := by unfold Hid more; rw [if_neg (by omega)]; rfl
    by_cases hb0 : (bnth l (q + 1)).frm < base
    ·have HV : Hid ((base - (bnth l (q + 1)).frm) * ((bnth l (q + 1)).rate - (bnth l q).rate) = hb l base (q + 1) * more l (q + 1)) := by unfold Hid; rw [HH.out, HMo.out, show max 0 (base - (bnth l (q + 1)).frm) = base - (bnth l (q + 1)).frm by omega]
     have hS := HS.out
     go_wp2_with fail
     go_round
     case rel =>
      refine ⟨q + 1 + 1, by omega, by go_num, ?_⟩
      rw [HV.out, IntWalk.wrap64_in (hb l base (q + 1) * more l (q + 1)) (by omega), IntWalk.wrap64_in _ (by omega), HS.out]
     case measure => simp [intOf]; omega
    ·have hbB : decide ((bnth l (q + 1)).frm < base) = false := decide_eq_false hb0
     have HV : Hid (rP l base (q + 1) = rP l base (q + 1 + 1)) := by unfold Hid; rw [← HS.out, HH.out, show max 0 (base - (bnth l (q + 1)).frm) = 0 by omega]; omega
     go_wp2_with fail
     go_round
     case rel => exact ⟨q + 1 + 1, by omega, by go_num, by rw [← HV.out]⟩
     case measure => simp [intOf]; omega
  ·have hkn : k = n := by omega
   subst hkn
   have HE : Hid (rd (rP l base k) 10000 5 = taxN l base) := by unfold Hid taxN; rw [pr_same HL.out.1, hn]
   go_wp2_with fail
   refine (rounded_ref _ 10000 5 _ (by omega) (by omega) (by omega) (by omega) (by omega)).mono ?_
   rintro e w2 ⟨rfl, h'⟩
   subst w2
   go_wp2_with fail
   go_ret
   exact ⟨kret_int HE.out, HB0.out⟩
end Go.Proofs.YtmlpedgcpffpnaaGreatDoor
