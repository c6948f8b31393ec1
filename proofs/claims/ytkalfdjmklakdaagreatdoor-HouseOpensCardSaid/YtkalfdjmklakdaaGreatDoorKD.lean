/-
  Promise F2: the walk of the reference's WrongExpr, over whatever expression (written by xerrgen.py, kind by kind).
  Promise F2: the walk of the reference's WrongExpr, over whatever expression (written by xerrgen.py, kind by kind).
  Promise F2: the walk of the reference's WrongExpr, over whatever expression (written by xerrgen.py, kind by kind).
  Promise F2: what is wrong with lines: the walks of tooMany, checkLine and Check.
  Promise F2: the walk of the reference's CheckLines.
-/
import Derived.Test.YtkalfdjmklakdaaGreatDoorKC
namespace Go.Proofs.YtkalfdjmklakdaaGreatDoor
open Go.RowKit
set_option maxRecDepth 100000 in
set_option maxHeartbeats 4000000 in
theorem wrong_7 (n : Int) (s : ByteArray) (m : Nat) (kid : Nat → Ex) (ih : ∀ j, WrongIs (kid j)) : WrongIs (.mk 7 n s m kid) := by
 intro a c w hk
 show Calls Tryz.prog 102 #[.agg #[.int .i64 7, .int .i64 n, .string s, .slice a m c]] w _
 have hm : m ≤ 9223372036854775807 := by have := hk.many; unfold maxLen at this; exact this
 have HSZ : Hid (s.size ≤ maxLen) := Lib.hid hk.name
 have HK := Lib.hid hk
 have HM := Lib.hid (err_mk 7 n s m kid)
 have HIH := Lib.hid ih
 clear hk ih
 generalize (Ex.mk 7 n s m kid).err = z at *
 have HB0 := Lib.hid (kbelow_box w (.cells #[.int .i64 7, .int .i64 n, .string s, .slice a m c] 71))
 have HX0 := Lib.hid (XBox.made w 7 n s a m c 71)
 have HB2 := Lib.hid (HB0.out.alloc HB0.out.size kidsRow)
 have HX2 := Lib.hid (HX0.out.below (kbelow_box _ kidsRow))
 unfold kidsRow at HB2 HX2
 by_cases hmk : (m : Int) = 2
 ·have hmkB : decide ((m : Int) = 2) = true := decide_eq_true hmk
  have hmkE : ((m : Int) == 2) = true := by simpa using hmk
  have hmkN : ((m : Int) != 2) = false := by simpa using hmk
  have hmkD : decide (m = 2) = true := decide_eq_true (by omega)
  have HMK := Lib.hid hmk
  clear hmk
  by_cases hs0 : s.size = 0
  ·have HNUM : Hid (ownE 7 n s m = if n < 0 ∨ 0 < n then 3 else 0) := Lib.hid (ownE_num (k := 7) (n := n) (by omega) (by rw [HMK.out]; decide) (.inr ⟨by decide, hs0⟩))
   have hs : s = ByteArray.empty := ByteArray.size_eq_zero_iff.1 hs0
   subst hs
   go_enter Tryz.func102, Tryz.ntmps102
   by_cases c1 : n < 0
   ·have HR : Hid (z = 3) := by unfold Hid; have h := HNUM.out; rw [if_pos (.inl c1)] at h; rw [HM.out, h]; rfl
    go_wp2_with fail
    go_ret
    exact ⟨kret_int HR.out.symm, HB2.out⟩
   ·have c1B : decide (n < 0) = false := decide_eq_false c1
    by_cases c2 : 0 < n
    ·have HR : Hid (z = 3) := by unfold Hid; have h := HNUM.out; rw [if_pos (.inr c2)] at h; rw [HM.out, h]; rfl
     go_wp2_with fail
     go_ret
     exact ⟨kret_int HR.out.symm, HB2.out⟩
    ·have c2B : decide (0 < n) = false := decide_eq_false c2
     have HEK : Hid (z = firstE (fun j => (kid j).err) m) := by unfold Hid; have h := HNUM.out; rw [if_neg (by omega)] at h; rw [HM.out, h]; rfl
     clear HM HNUM
     go_wp2_with fail
     go_loopw [7] (fun i wr => ∃ j : Nat, j ≤ m ∧ i = .int .i64 j ∧ firstE (fun j => (kid j).err) j = 0 ∧ XBox wr w.heap.size 7 n ByteArray.empty a m c ∧ Below w.heap.size w wr) (fun i _ => m - (intOf i).toNat)
     case atStart => exact ⟨0, Nat.zero_le _, rfl, rfl, HX2.out, HB2.out⟩
     case round =>
      obtain ⟨j, hj, rfl, hf, hx, hb⟩ := hrel
      have HF := Lib.hid hf
      have HB := Lib.hid hb
      have HX := Lib.hid hx
      clear hf hb hx
      obtain ⟨_, y0, y1, y2, y3⟩ := HX.out
      by_cases hlt : j < m
      ·have hlt' : (j : Int) < (m : Int) := by omega
       obtain ⟨b, off, rfl, hcell⟩ := HK.out.open (show 0 < m by omega)
       obtain ⟨aj, cj, ⟨x0, x1, x2, x3⟩, hkj⟩ := hcell wr HB.out j hlt
       have HKJ := Lib.hid hkj
       clear hcell hkj
       have x0' : wr.cell? ⟨b, off + j * 4, none⟩ = some (.int .i64 (kid j).k) := x0
       have x1' : wr.cell? ⟨b, off + j * 4 + 1, none⟩ = some (.int .i64 (kid j).n) := x1
       have x2' : wr.cell? ⟨b, off + j * 4 + 2, none⟩ = some (.string (kid j).s) := x2
       have x3' : wr.cell? ⟨b, off + j * 4 + 3, none⟩ = some (.slice aj (kid j).m cj) := x3
       clear x0 x1 x2 x3
       go_wp2_with fail
       refine (HIH.out j aj cj _ HKJ.out).mono ?_
       rintro e w9 ⟨rfl, hb9⟩
       have HB9 := Lib.hid (HB.out.trans (hb9.mono HB.out.size))
       have HX9 := Lib.hid (HX.out.below hb9)
       clear hb9 x0' x1' x2' x3' y0 y1 y2 y3
       by_cases hz : (kid j).err = 0
       ·have HF1 : Hid (firstE (fun j => (kid j).err) (j + 1) = 0) := by unfold Hid; rw [firstE_ok HF.out]; exact hz
        rw [hz]
        go_wp2_with fail
        go_roundw
        case rel => exact ⟨j + 1, by omega, by go_num, HF1.out, HX9.out, HB9.out⟩
        case measure => simp [intOf]; omega
       ·have hzB : decide ((kid j).err = 0) = false := decide_eq_false hz
        have hzN : ((kid j).err != 0) = true := by simpa using hz
        have HR : Hid (z = (kid j).err) := by unfold Hid; rw [HEK.out, firstE_err (f := fun j => (kid j).err) hlt HF.out hz]
        generalize (kid j).err = y at *
        go_wp2_with fail
        go_ret
        exact ⟨kret_int HR.out.symm, HB9.out⟩
      ·have hjm : j = m := by omega
       subst hjm
       have HR : Hid (z = 0) := by unfold Hid; rw [HEK.out, HF.out]
       go_wp2_with fail
       go_ret
       exact ⟨kret_int HR.out.symm, HB.out⟩
  ·have hie := empty_not hs0
   have HR : Hid (z = 1) := by unfold Hid; rw [HM.out, ownE_text (by omega) (by rw [HMK.out]; decide) (by decide) hs0]; rfl
   go_enter Tryz.func102, Tryz.ntmps102
   go_wp2_with fail
   go_ret
   exact ⟨kret_int HR.out.symm, HB2.out⟩
 ·have hmkB : decide ((m : Int) = 2) = false := decide_eq_false hmk
  have hmkE : ((m : Int) == 2) = false := by simpa using hmk
  have hmkN : ((m : Int) != 2) = true := by simpa using hmk
  have hmkD : decide (m = 2) = false := decide_eq_false (by omega)
  have HR : Hid (z = 1) := by unfold Hid; rw [HM.out, ownE_kids (by omega) (by rw [show kidsOf 7 = 2 by decide]; exact hmk)]; rfl
  go_enter Tryz.func102, Tryz.ntmps102
  go_wp2_with fail
  go_ret
  exact ⟨kret_int HR.out.symm, HB2.out⟩
set_option maxRecDepth 100000 in
set_option maxHeartbeats 4000000 in
theorem wrong_8 (n : Int) (s : ByteArray) (m : Nat) (kid : Nat → Ex) (ih : ∀ j, WrongIs (kid j)) : WrongIs (.mk 8 n s m kid) := by
 intro a c w hk
 show Calls Tryz.prog 102 #[.agg #[.int .i64 8, .int .i64 n, .string s, .slice a m c]] w _
 have hm : m ≤ 9223372036854775807 := by have := hk.many; unfold maxLen at this; exact this
 have HSZ : Hid (s.size ≤ maxLen) := Lib.hid hk.name
 have HK := Lib.hid hk
 have HM := Lib.hid (err_mk 8 n s m kid)
 have HIH := Lib.hid ih
 clear hk ih
 generalize (Ex.mk 8 n s m kid).err = z at *
 have HB0 := Lib.hid (kbelow_box w (.cells #[.int .i64 8, .int .i64 n, .string s, .slice a m c] 71))
 have HX0 := Lib.hid (XBox.made w 8 n s a m c 71)
 have HB2 := Lib.hid (HB0.out.alloc HB0.out.size kidsRow)
 have HX2 := Lib.hid (HX0.out.below (kbelow_box _ kidsRow))
 unfold kidsRow at HB2 HX2
 by_cases hmk : (m : Int) = 2
 ·have hmkB : decide ((m : Int) = 2) = true := decide_eq_true hmk
  have hmkE : ((m : Int) == 2) = true := by simpa using hmk
  have hmkN : ((m : Int) != 2) = false := by simpa using hmk
  have hmkD : decide (m = 2) = true := decide_eq_true (by omega)
  have HMK := Lib.hid hmk
  clear hmk
  by_cases hs0 : s.size = 0
  ·have HNUM : Hid (ownE 8 n s m = if n < 0 ∨ 0 < n then 3 else 0) := Lib.hid (ownE_num (k := 8) (n := n) (by omega) (by rw [HMK.out]; decide) (.inr ⟨by decide, hs0⟩))
   have hs : s = ByteArray.empty := ByteArray.size_eq_zero_iff.1 hs0
   subst hs
   go_enter Tryz.func102, Tryz.ntmps102
   by_cases c1 : n < 0
   ·have HR : Hid (z = 3) := by unfold Hid; have h := HNUM.out; rw [if_pos (.inl c1)] at h; rw [HM.out, h]; rfl
    go_wp2_with fail
    go_ret
    exact ⟨kret_int HR.out.symm, HB2.out⟩
   ·have c1B : decide (n < 0) = false := decide_eq_false c1
    by_cases c2 : 0 < n
    ·have HR : Hid (z = 3) := by unfold Hid; have h := HNUM.out; rw [if_pos (.inr c2)] at h; rw [HM.out, h]; rfl
     go_wp2_with fail
     go_ret
     exact ⟨kret_int HR.out.symm, HB2.out⟩
    ·have c2B : decide (0 < n) = false := decide_eq_false c2
     have HEK : Hid (z = firstE (fun j => (kid j).err) m) := by unfold Hid; have h := HNUM.out; rw [if_neg (by omega)] at h; rw [HM.out, h]; rfl
     clear HM HNUM
     go_wp2_with fail
     go_loopw [7] (fun i wr => ∃ j : Nat, j ≤ m ∧ i = .int .i64 j ∧ firstE (fun j => (kid j).err) j = 0 ∧ XBox wr w.heap.size 8 n ByteArray.empty a m c ∧ Below w.heap.size w wr) (fun i _ => m - (intOf i).toNat)
     case atStart => exact ⟨0, Nat.zero_le _, rfl, rfl, HX2.out, HB2.out⟩
     case round =>
      obtain ⟨j, hj, rfl, hf, hx, hb⟩ := hrel
      have HF := Lib.hid hf
      have HB := Lib.hid hb
      have HX := Lib.hid hx
      clear hf hb hx
      obtain ⟨_, y0, y1, y2, y3⟩ := HX.out
      by_cases hlt : j < m
      ·have hlt' : (j : Int) < (m : Int) := by omega
       obtain ⟨b, off, rfl, hcell⟩ := HK.out.open (show 0 < m by omega)
       obtain ⟨aj, cj, ⟨x0, x1, x2, x3⟩, hkj⟩ := hcell wr HB.out j hlt
       have HKJ := Lib.hid hkj
       clear hcell hkj
       have x0' : wr.cell? ⟨b, off + j * 4, none⟩ = some (.int .i64 (kid j).k) := x0
       have x1' : wr.cell? ⟨b, off + j * 4 + 1, none⟩ = some (.int .i64 (kid j).n) := x1
       have x2' : wr.cell? ⟨b, off + j * 4 + 2, none⟩ = some (.string (kid j).s) := x2
       have x3' : wr.cell? ⟨b, off + j * 4 + 3, none⟩ = some (.slice aj (kid j).m cj) := x3
       clear x0 x1 x2 x3
       go_wp2_with fail
       refine (HIH.out j aj cj _ HKJ.out).mono ?_
       rintro e w9 ⟨rfl, hb9⟩
       have HB9 := Lib.hid (HB.out.trans (hb9.mono HB.out.size))
       have HX9 := Lib.hid (HX.out.below hb9)
       clear hb9 x0' x1' x2' x3' y0 y1 y2 y3
       by_cases hz : (kid j).err = 0
       ·have HF1 : Hid (firstE (fun j => (kid j).err) (j + 1) = 0) := by unfold Hid; rw [firstE_ok HF.out]; exact hz
        rw [hz]
        go_wp2_with fail
        go_roundw
        case rel => exact ⟨j + 1, by omega, by go_num, HF1.out, HX9.out, HB9.out⟩
        case measure => simp [intOf]; omega
       ·have hzB : decide ((kid j).err = 0) = false := decide_eq_false hz
        have hzN : ((kid j).err != 0) = true := by simpa using hz
        have HR : Hid (z = (kid j).err) := by unfold Hid; rw [HEK.out, firstE_err (f := fun j => (kid j).err) hlt HF.out hz]
        generalize (kid j).err = y at *
        go_wp2_with fail
        go_ret
        exact ⟨kret_int HR.out.symm, HB9.out⟩
      ·have hjm : j = m := by omega
       subst hjm
       have HR : Hid (z = 0) := by unfold Hid; rw [HEK.out, HF.out]
       go_wp2_with fail
       go_ret
       exact ⟨kret_int HR.out.symm, HB.out⟩
  ·have hie := empty_not hs0
   have HR : Hid (z = 1) := by unfold Hid; rw [HM.out, ownE_text (by omega) (by rw [HMK.out]; decide) (by decide) hs0]; rfl
   go_enter Tryz.func102, Tryz.ntmps102
   go_wp2_with fail
   go_ret
   exact ⟨kret_int HR.out.symm, HB2.out⟩
 ·have hmkB : decide ((m : Int) = 2) = false := decide_eq_false hmk
  have hmkE : ((m : Int) == 2) = false := by simpa using hmk
  have hmkN : ((m : Int) != 2) = true := by simpa using hmk
  have hmkD : decide (m = 2) = false := decide_eq_false (by omega)
  have HR : Hid (z = 1) := by unfold Hid; rw [HM.out, ownE_kids (by omega) (by rw [show kidsOf 8 = 2 by decide]; exact hmk)]; rfl
  go_enter Tryz.func102, Tryz.ntmps102
  go_wp2_with fail
  go_ret
  exact ⟨kret_int HR.out.symm, HB2.out⟩
set_option maxRecDepth 100000 in
set_option maxHeartbeats 4000000 in
theorem wrong_9 (n : Int) (s : ByteArray) (m : Nat) (kid : Nat → Ex) (ih : ∀ j, WrongIs (kid j)) : WrongIs (.mk 9 n s m kid) := by
 intro a c w hk
 show Calls Tryz.prog 102 #[.agg #[.int .i64 9, .int .i64 n, .string s, .slice a m c]] w _
 have hm : m ≤ 9223372036854775807 := by have := hk.many; unfold maxLen at this; exact this
 have HSZ : Hid (s.size ≤ maxLen) := Lib.hid hk.name
 have HK := Lib.hid hk
 have HM := Lib.hid (err_mk 9 n s m kid)
 have HIH := Lib.hid ih
 clear hk ih
 generalize (Ex.mk 9 n s m kid).err = z at *
 have HB0 := Lib.hid (kbelow_box w (.cells #[.int .i64 9, .int .i64 n, .string s, .slice a m c] 71))
 have HX0 := Lib.hid (XBox.made w 9 n s a m c 71)
 have HB2 := Lib.hid (HB0.out.alloc HB0.out.size kidsRow)
 have HX2 := Lib.hid (HX0.out.below (kbelow_box _ kidsRow))
 unfold kidsRow at HB2 HX2
 by_cases hmk : (m : Int) = 1
 ·have hmkB : decide ((m : Int) = 1) = true := decide_eq_true hmk
  have hmkE : ((m : Int) == 1) = true := by simpa using hmk
  have hmkN : ((m : Int) != 1) = false := by simpa using hmk
  have hmkD : decide (m = 1) = true := decide_eq_true (by omega)
  have HMK := Lib.hid hmk
  clear hmk
  by_cases hs0 : s.size = 0
  ·have HNUM : Hid (ownE 9 n s m = if n < 1 ∨ 1000000 < n then 3 else 0) := Lib.hid (ownE_num (k := 9) (n := n) (by omega) (by rw [HMK.out]; decide) (.inr ⟨by decide, hs0⟩))
   have hs : s = ByteArray.empty := ByteArray.size_eq_zero_iff.1 hs0
   subst hs
   go_enter Tryz.func102, Tryz.ntmps102
   by_cases c1 : n < 1
   ·have HR : Hid (z = 3) := by unfold Hid; have h := HNUM.out; rw [if_pos (.inl c1)] at h; rw [HM.out, h]; rfl
    go_wp2_with fail
    go_ret
    exact ⟨kret_int HR.out.symm, HB2.out⟩
   ·have c1B : decide (n < 1) = false := decide_eq_false c1
    by_cases c2 : 1000000 < n
    ·have HR : Hid (z = 3) := by unfold Hid; have h := HNUM.out; rw [if_pos (.inr c2)] at h; rw [HM.out, h]; rfl
     go_wp2_with fail
     go_ret
     exact ⟨kret_int HR.out.symm, HB2.out⟩
    ·have c2B : decide (1000000 < n) = false := decide_eq_false c2
     have HEK : Hid (z = firstE (fun j => (kid j).err) m) := by unfold Hid; have h := HNUM.out; rw [if_neg (by omega)] at h; rw [HM.out, h]; rfl
     clear HM HNUM
     go_wp2_with fail
     go_loopw [7] (fun i wr => ∃ j : Nat, j ≤ m ∧ i = .int .i64 j ∧ firstE (fun j => (kid j).err) j = 0 ∧ XBox wr w.heap.size 9 n ByteArray.empty a m c ∧ Below w.heap.size w wr) (fun i _ => m - (intOf i).toNat)
     case atStart => exact ⟨0, Nat.zero_le _, rfl, rfl, HX2.out, HB2.out⟩
     case round =>
      obtain ⟨j, hj, rfl, hf, hx, hb⟩ := hrel
      have HF := Lib.hid hf
      have HB := Lib.hid hb
      have HX := Lib.hid hx
      clear hf hb hx
      obtain ⟨_, y0, y1, y2, y3⟩ := HX.out
      by_cases hlt : j < m
      ·have hlt' : (j : Int) < (m : Int) := by omega
       obtain ⟨b, off, rfl, hcell⟩ := HK.out.open (show 0 < m by omega)
       obtain ⟨aj, cj, ⟨x0, x1, x2, x3⟩, hkj⟩ := hcell wr HB.out j hlt
       have HKJ := Lib.hid hkj
       clear hcell hkj
       have x0' : wr.cell? ⟨b, off + j * 4, none⟩ = some (.int .i64 (kid j).k) := x0
       have x1' : wr.cell? ⟨b, off + j * 4 + 1, none⟩ = some (.int .i64 (kid j).n) := x1
       have x2' : wr.cell? ⟨b, off + j * 4 + 2, none⟩ = some (.string (kid j).s) := x2
       have x3' : wr.cell? ⟨b, off + j * 4 + 3, none⟩ = some (.slice aj (kid j).m cj) := x3
       clear x0 x1 x2 x3
       go_wp2_with fail
       refine (HIH.out j aj cj _ HKJ.out).mono ?_
       rintro e w9 ⟨rfl, hb9⟩
       have HB9 := Lib.hid (HB.out.trans (hb9.mono HB.out.size))
       have HX9 := Lib.hid (HX.out.below hb9)
       clear hb9 x0' x1' x2' x3' y0 y1 y2 y3
       by_cases hz : (kid j).err = 0
       ·have HF1 : Hid (firstE (fun j => (kid j).err) (j + 1) = 0) := by unfold Hid; rw [firstE_ok HF.out]; exact hz
        rw [hz]
        go_wp2_with fail
        go_roundw
        case rel => exact ⟨j + 1, by omega, by go_num, HF1.out, HX9.out, HB9.out⟩
        case measure => simp [intOf]; omega
       ·have hzB : decide ((kid j).err = 0) = false := decide_eq_false hz
        have hzN : ((kid j).err != 0) = true := by simpa using hz
        have HR : Hid (z = (kid j).err) := by unfold Hid; rw [HEK.out, firstE_err (f := fun j => (kid j).err) hlt HF.out hz]
        generalize (kid j).err = y at *
        go_wp2_with fail
        go_ret
        exact ⟨kret_int HR.out.symm, HB9.out⟩
      ·have hjm : j = m := by omega
       subst hjm
       have HR : Hid (z = 0) := by unfold Hid; rw [HEK.out, HF.out]
       go_wp2_with fail
       go_ret
       exact ⟨kret_int HR.out.symm, HB.out⟩
  ·have hie := empty_not hs0
   have HR : Hid (z = 1) := by unfold Hid; rw [HM.out, ownE_text (by omega) (by rw [HMK.out]; decide) (by decide) hs0]; rfl
   go_enter Tryz.func102, Tryz.ntmps102
   go_wp2_with fail
   go_ret
   exact ⟨kret_int HR.out.symm, HB2.out⟩
 ·have hmkB : decide ((m : Int) = 1) = false := decide_eq_false hmk
  have hmkE : ((m : Int) == 1) = false := by simpa using hmk
  have hmkN : ((m : Int) != 1) = true := by simpa using hmk
  have hmkD : decide (m = 1) = false := decide_eq_false (by omega)
  have HR : Hid (z = 1) := by unfold Hid; rw [HM.out, ownE_kids (by omega) (by rw [show kidsOf 9 = 1 by decide]; exact hmk)]; rfl
  go_enter Tryz.func102, Tryz.ntmps102
  go_wp2_with fail
  go_ret
  exact ⟨kret_int HR.out.symm, HB2.out⟩
set_option maxRecDepth 100000 in
set_option maxHeartbeats 4000000 in
theorem wrong_10 (n : Int) (s : ByteArray) (m : Nat) (kid : Nat → Ex) (ih : ∀ j, WrongIs (kid j)) : WrongIs (.mk 10 n s m kid) := by
 intro a c w hk
 show Calls Tryz.prog 102 #[.agg #[.int .i64 10, .int .i64 n, .string s, .slice a m c]] w _
 have hm : m ≤ 9223372036854775807 := by have := hk.many; unfold maxLen at this; exact this
 have HSZ : Hid (s.size ≤ maxLen) := Lib.hid hk.name
 have HK := Lib.hid hk
 have HM := Lib.hid (err_mk 10 n s m kid)
 have HIH := Lib.hid ih
 clear hk ih
 generalize (Ex.mk 10 n s m kid).err = z at *
 have HB0 := Lib.hid (kbelow_box w (.cells #[.int .i64 10, .int .i64 n, .string s, .slice a m c] 71))
 have HX0 := Lib.hid (XBox.made w 10 n s a m c 71)
 have HB2 := Lib.hid (HB0.out.alloc HB0.out.size kidsRow)
 have HX2 := Lib.hid (HX0.out.below (kbelow_box _ kidsRow))
 unfold kidsRow at HB2 HX2
 by_cases hmk : (m : Int) = 1
 ·have hmkB : decide ((m : Int) = 1) = true := decide_eq_true hmk
  have hmkE : ((m : Int) == 1) = true := by simpa using hmk
  have hmkN : ((m : Int) != 1) = false := by simpa using hmk
  have hmkD : decide (m = 1) = true := decide_eq_true (by omega)
  have HMK := Lib.hid hmk
  clear hmk
  by_cases hs0 : s.size = 0
  ·have HNUM : Hid (ownE 10 n s m = if n < 1 ∨ 1000000 < n then 3 else 0) := Lib.hid (ownE_num (k := 10) (n := n) (by omega) (by rw [HMK.out]; decide) (.inr ⟨by decide, hs0⟩))
   have hs : s = ByteArray.empty := ByteArray.size_eq_zero_iff.1 hs0
   subst hs
   go_enter Tryz.func102, Tryz.ntmps102
   by_cases c1 : n < 1
   ·have HR : Hid (z = 3) := by unfold Hid; have h := HNUM.out; rw [if_pos (.inl c1)] at h; rw [HM.out, h]; rfl
    go_wp2_with fail
    go_ret
    exact ⟨kret_int HR.out.symm, HB2.out⟩
   ·have c1B : decide (n < 1) = false := decide_eq_false c1
    by_cases c2 : 1000000 < n
    ·have HR : Hid (z = 3) := by unfold Hid; have h := HNUM.out; rw [if_pos (.inr c2)] at h; rw [HM.out, h]; rfl
     go_wp2_with fail
     go_ret
     exact ⟨kret_int HR.out.symm, HB2.out⟩
    ·have c2B : decide (1000000 < n) = false := decide_eq_false c2
     have HEK : Hid (z = firstE (fun j => (kid j).err) m) := by unfold Hid; have h := HNUM.out; rw [if_neg (by omega)] at h; rw [HM.out, h]; rfl
     clear HM HNUM
     go_wp2_with fail
     go_loopw [7] (fun i wr => ∃ j : Nat, j ≤ m ∧ i = .int .i64 j ∧ firstE (fun j => (kid j).err) j = 0 ∧ XBox wr w.heap.size 10 n ByteArray.empty a m c ∧ Below w.heap.size w wr) (fun i _ => m - (intOf i).toNat)
     case atStart => exact ⟨0, Nat.zero_le _, rfl, rfl, HX2.out, HB2.out⟩
     case round =>
      obtain ⟨j, hj, rfl, hf, hx, hb⟩ := hrel
      have HF := Lib.hid hf
      have HB := Lib.hid hb
      have HX := Lib.hid hx
      clear hf hb hx
      obtain ⟨_, y0, y1, y2, y3⟩ := HX.out
      by_cases hlt : j < m
      ·have hlt' : (j : Int) < (m : Int) := by omega
       obtain ⟨b, off, rfl, hcell⟩ := HK.out.open (show 0 < m by omega)
       obtain ⟨aj, cj, ⟨x0, x1, x2, x3⟩, hkj⟩ := hcell wr HB.out j hlt
       have HKJ := Lib.hid hkj
       clear hcell hkj
       have x0' : wr.cell? ⟨b, off + j * 4, none⟩ = some (.int .i64 (kid j).k) := x0
       have x1' : wr.cell? ⟨b, off + j * 4 + 1, none⟩ = some (.int .i64 (kid j).n) := x1
       have x2' : wr.cell? ⟨b, off + j * 4 + 2, none⟩ = some (.string (kid j).s) := x2
       have x3' : wr.cell? ⟨b, off + j * 4 + 3, none⟩ = some (.slice aj (kid j).m cj) := x3
       clear x0 x1 x2 x3
       go_wp2_with fail
       refine (HIH.out j aj cj _ HKJ.out).mono ?_
       rintro e w9 ⟨rfl, hb9⟩
       have HB9 := Lib.hid (HB.out.trans (hb9.mono HB.out.size))
       have HX9 := Lib.hid (HX.out.below hb9)
       clear hb9 x0' x1' x2' x3' y0 y1 y2 y3
       by_cases hz : (kid j).err = 0
       ·have HF1 : Hid (firstE (fun j => (kid j).err) (j + 1) = 0) := by unfold Hid; rw [firstE_ok HF.out]; exact hz
        rw [hz]
        go_wp2_with fail
        go_roundw
        case rel => exact ⟨j + 1, by omega, by go_num, HF1.out, HX9.out, HB9.out⟩
        case measure => simp [intOf]; omega
       ·have hzB : decide ((kid j).err = 0) = false := decide_eq_false hz
        have hzN : ((kid j).err != 0) = true := by simpa using hz
        have HR : Hid (z = (kid j).err) := by unfold Hid; rw [HEK.out, firstE_err (f := fun j => (kid j).err) hlt HF.out hz]
        generalize (kid j).err = y at *
        go_wp2_with fail
        go_ret
        exact ⟨kret_int HR.out.symm, HB9.out⟩
      ·have hjm : j = m := by omega
       subst hjm
       have HR : Hid (z = 0) := by unfold Hid; rw [HEK.out, HF.out]
       go_wp2_with fail
       go_ret
       exact ⟨kret_int HR.out.symm, HB.out⟩
  ·have hie := empty_not hs0
   have HR : Hid (z = 1) := by unfold Hid; rw [HM.out, ownE_text (by omega) (by rw [HMK.out]; decide) (by decide) hs0]; rfl
   go_enter Tryz.func102, Tryz.ntmps102
   go_wp2_with fail
   go_ret
   exact ⟨kret_int HR.out.symm, HB2.out⟩
 ·have hmkB : decide ((m : Int) = 1) = false := decide_eq_false hmk
  have hmkE : ((m : Int) == 1) = false := by simpa using hmk
  have hmkN : ((m : Int) != 1) = true := by simpa using hmk
  have hmkD : decide (m = 1) = false := decide_eq_false (by omega)
  have HR : Hid (z = 1) := by unfold Hid; rw [HM.out, ownE_kids (by omega) (by rw [show kidsOf 10 = 1 by decide]; exact hmk)]; rfl
  go_enter Tryz.func102, Tryz.ntmps102
  go_wp2_with fail
  go_ret
  exact ⟨kret_int HR.out.symm, HB2.out⟩
end Go.Proofs.YtkalfdjmklakdaaGreatDoor
namespace Go.Proofs.YtkalfdjmklakdaaGreatDoor
open Go.RowKit
set_option maxRecDepth 100000 in
set_option maxHeartbeats 4000000 in
theorem wrong_11 (n : Int) (s : ByteArray) (m : Nat) (kid : Nat → Ex) (ih : ∀ j, WrongIs (kid j)) : WrongIs (.mk 11 n s m kid) := by
 intro a c w hk
 show Calls Tryz.prog 102 #[.agg #[.int .i64 11, .int .i64 n, .string s, .slice a m c]] w _
 have hm : m ≤ 9223372036854775807 := by have := hk.many; unfold maxLen at this; exact this
 have HSZ : Hid (s.size ≤ maxLen) := Lib.hid hk.name
 have HK := Lib.hid hk
 have HM := Lib.hid (err_mk 11 n s m kid)
 have HIH := Lib.hid ih
 clear hk ih
 generalize (Ex.mk 11 n s m kid).err = z at *
 have HB0 := Lib.hid (kbelow_box w (.cells #[.int .i64 11, .int .i64 n, .string s, .slice a m c] 71))
 have HX0 := Lib.hid (XBox.made w 11 n s a m c 71)
 have HB2 := Lib.hid (HB0.out.alloc HB0.out.size kidsRow)
 have HX2 := Lib.hid (HX0.out.below (kbelow_box _ kidsRow))
 unfold kidsRow at HB2 HX2
 by_cases hmk : (m : Int) = 2
 ·have hmkB : decide ((m : Int) = 2) = true := decide_eq_true hmk
  have hmkE : ((m : Int) == 2) = true := by simpa using hmk
  have hmkN : ((m : Int) != 2) = false := by simpa using hmk
  have hmkD : decide (m = 2) = true := decide_eq_true (by omega)
  have HMK := Lib.hid hmk
  clear hmk
  by_cases hs0 : s.size = 0
  ·have HNUM : Hid (ownE 11 n s m = if n < 0 ∨ 0 < n then 3 else 0) := Lib.hid (ownE_num (k := 11) (n := n) (by omega) (by rw [HMK.out]; decide) (.inr ⟨by decide, hs0⟩))
   have hs : s = ByteArray.empty := ByteArray.size_eq_zero_iff.1 hs0
   subst hs
   go_enter Tryz.func102, Tryz.ntmps102
   by_cases c1 : n < 0
   ·have HR : Hid (z = 3) := by unfold Hid; have h := HNUM.out; rw [if_pos (.inl c1)] at h; rw [HM.out, h]; rfl
    go_wp2_with fail
    go_ret
    exact ⟨kret_int HR.out.symm, HB2.out⟩
   ·have c1B : decide (n < 0) = false := decide_eq_false c1
    by_cases c2 : 0 < n
    ·have HR : Hid (z = 3) := by unfold Hid; have h := HNUM.out; rw [if_pos (.inr c2)] at h; rw [HM.out, h]; rfl
     go_wp2_with fail
     go_ret
     exact ⟨kret_int HR.out.symm, HB2.out⟩
    ·have c2B : decide (0 < n) = false := decide_eq_false c2
     have HEK : Hid (z = firstE (fun j => (kid j).err) m) := by unfold Hid; have h := HNUM.out; rw [if_neg (by omega)] at h; rw [HM.out, h]; rfl
     clear HM HNUM
     go_wp2_with fail
     go_loopw [7] (fun i wr => ∃ j : Nat, j ≤ m ∧ i = .int .i64 j ∧ firstE (fun j => (kid j).err) j = 0 ∧ XBox wr w.heap.size 11 n ByteArray.empty a m c ∧ Below w.heap.size w wr) (fun i _ => m - (intOf i).toNat)
     case atStart => exact ⟨0, Nat.zero_le _, rfl, rfl, HX2.out, HB2.out⟩
     case round =>
      obtain ⟨j, hj, rfl, hf, hx, hb⟩ := hrel
      have HF := Lib.hid hf
      have HB := Lib.hid hb
      have HX := Lib.hid hx
      clear hf hb hx
      obtain ⟨_, y0, y1, y2, y3⟩ := HX.out
      by_cases hlt : j < m
      ·have hlt' : (j : Int) < (m : Int) := by omega
       obtain ⟨b, off, rfl, hcell⟩ := HK.out.open (show 0 < m by omega)
       obtain ⟨aj, cj, ⟨x0, x1, x2, x3⟩, hkj⟩ := hcell wr HB.out j hlt
       have HKJ := Lib.hid hkj
       clear hcell hkj
       have x0' : wr.cell? ⟨b, off + j * 4, none⟩ = some (.int .i64 (kid j).k) := x0
       have x1' : wr.cell? ⟨b, off + j * 4 + 1, none⟩ = some (.int .i64 (kid j).n) := x1
       have x2' : wr.cell? ⟨b, off + j * 4 + 2, none⟩ = some (.string (kid j).s) := x2
       have x3' : wr.cell? ⟨b, off + j * 4 + 3, none⟩ = some (.slice aj (kid j).m cj) := x3
       clear x0 x1 x2 x3
       go_wp2_with fail
       refine (HIH.out j aj cj _ HKJ.out).mono ?_
       rintro e w9 ⟨rfl, hb9⟩
       have HB9 := Lib.hid (HB.out.trans (hb9.mono HB.out.size))
       have HX9 := Lib.hid (HX.out.below hb9)
       clear hb9 x0' x1' x2' x3' y0 y1 y2 y3
       by_cases hz : (kid j).err = 0
       ·have HF1 : Hid (firstE (fun j => (kid j).err) (j + 1) = 0) := by unfold Hid; rw [firstE_ok HF.out]; exact hz
        rw [hz]
        go_wp2_with fail
        go_roundw
        case rel => exact ⟨j + 1, by omega, by go_num, HF1.out, HX9.out, HB9.out⟩
        case measure => simp [intOf]; omega
       ·have hzB : decide ((kid j).err = 0) = false := decide_eq_false hz
        have hzN : ((kid j).err != 0) = true := by simpa using hz
        have HR : Hid (z = (kid j).err) := by unfold Hid; rw [HEK.out, firstE_err (f := fun j => (kid j).err) hlt HF.out hz]
        generalize (kid j).err = y at *
        go_wp2_with fail
        go_ret
        exact ⟨kret_int HR.out.symm, HB9.out⟩
      ·have hjm : j = m := by omega
       subst hjm
       have HR : Hid (z = 0) := by unfold Hid; rw [HEK.out, HF.out]
       go_wp2_with fail
       go_ret
       exact ⟨kret_int HR.out.symm, HB.out⟩
  ·have hie := empty_not hs0
   have HR : Hid (z = 1) := by unfold Hid; rw [HM.out, ownE_text (by omega) (by rw [HMK.out]; decide) (by decide) hs0]; rfl
   go_enter Tryz.func102, Tryz.ntmps102
   go_wp2_with fail
   go_ret
   exact ⟨kret_int HR.out.symm, HB2.out⟩
 ·have hmkB : decide ((m : Int) = 2) = false := decide_eq_false hmk
  have hmkE : ((m : Int) == 2) = false := by simpa using hmk
  have hmkN : ((m : Int) != 2) = true := by simpa using hmk
  have hmkD : decide (m = 2) = false := decide_eq_false (by omega)
  have HR : Hid (z = 1) := by unfold Hid; rw [HM.out, ownE_kids (by omega) (by rw [show kidsOf 11 = 2 by decide]; exact hmk)]; rfl
  go_enter Tryz.func102, Tryz.ntmps102
  go_wp2_with fail
  go_ret
  exact ⟨kret_int HR.out.symm, HB2.out⟩
set_option maxRecDepth 100000 in
set_option maxHeartbeats 4000000 in
theorem wrong_12 (n : Int) (s : ByteArray) (m : Nat) (kid : Nat → Ex) (ih : ∀ j, WrongIs (kid j)) : WrongIs (.mk 12 n s m kid) := by
 intro a c w hk
 show Calls Tryz.prog 102 #[.agg #[.int .i64 12, .int .i64 n, .string s, .slice a m c]] w _
 have hm : m ≤ 9223372036854775807 := by have := hk.many; unfold maxLen at this; exact this
 have HSZ : Hid (s.size ≤ maxLen) := Lib.hid hk.name
 have HK := Lib.hid hk
 have HM := Lib.hid (err_mk 12 n s m kid)
 have HIH := Lib.hid ih
 clear hk ih
 generalize (Ex.mk 12 n s m kid).err = z at *
 have HB0 := Lib.hid (kbelow_box w (.cells #[.int .i64 12, .int .i64 n, .string s, .slice a m c] 71))
 have HX0 := Lib.hid (XBox.made w 12 n s a m c 71)
 have HB2 := Lib.hid (HB0.out.alloc HB0.out.size kidsRow)
 have HX2 := Lib.hid (HX0.out.below (kbelow_box _ kidsRow))
 unfold kidsRow at HB2 HX2
 by_cases hmk : (m : Int) = 2
 ·have hmkB : decide ((m : Int) = 2) = true := decide_eq_true hmk
  have hmkE : ((m : Int) == 2) = true := by simpa using hmk
  have hmkN : ((m : Int) != 2) = false := by simpa using hmk
  have hmkD : decide (m = 2) = true := decide_eq_true (by omega)
  have HMK := Lib.hid hmk
  clear hmk
  by_cases hs0 : s.size = 0
  ·have HNUM : Hid (ownE 12 n s m = if n < 0 ∨ 0 < n then 3 else 0) := Lib.hid (ownE_num (k := 12) (n := n) (by omega) (by rw [HMK.out]; decide) (.inr ⟨by decide, hs0⟩))
   have hs : s = ByteArray.empty := ByteArray.size_eq_zero_iff.1 hs0
   subst hs
   go_enter Tryz.func102, Tryz.ntmps102
   by_cases c1 : n < 0
   ·have HR : Hid (z = 3) := by unfold Hid; have h := HNUM.out; rw [if_pos (.inl c1)] at h; rw [HM.out, h]; rfl
    go_wp2_with fail
    go_ret
    exact ⟨kret_int HR.out.symm, HB2.out⟩
   ·have c1B : decide (n < 0) = false := decide_eq_false c1
    by_cases c2 : 0 < n
    ·have HR : Hid (z = 3) := by unfold Hid; have h := HNUM.out; rw [if_pos (.inr c2)] at h; rw [HM.out, h]; rfl
     go_wp2_with fail
     go_ret
     exact ⟨kret_int HR.out.symm, HB2.out⟩
    ·have c2B : decide (0 < n) = false := decide_eq_false c2
     have HEK : Hid (z = firstE (fun j => (kid j).err) m) := by unfold Hid; have h := HNUM.out; rw [if_neg (by omega)] at h; rw [HM.out, h]; rfl
     clear HM HNUM
     go_wp2_with fail
     go_loopw [7] (fun i wr => ∃ j : Nat, j ≤ m ∧ i = .int .i64 j ∧ firstE (fun j => (kid j).err) j = 0 ∧ XBox wr w.heap.size 12 n ByteArray.empty a m c ∧ Below w.heap.size w wr) (fun i _ => m - (intOf i).toNat)
     case atStart => exact ⟨0, Nat.zero_le _, rfl, rfl, HX2.out, HB2.out⟩
     case round =>
      obtain ⟨j, hj, rfl, hf, hx, hb⟩ := hrel
      have HF := Lib.hid hf
      have HB := Lib.hid hb
      have HX := Lib.hid hx
      clear hf hb hx
      obtain ⟨_, y0, y1, y2, y3⟩ := HX.out
      by_cases hlt : j < m
      ·have hlt' : (j : Int) < (m : Int) := by omega
       obtain ⟨b, off, rfl, hcell⟩ := HK.out.open (show 0 < m by omega)
       obtain ⟨aj, cj, ⟨x0, x1, x2, x3⟩, hkj⟩ := hcell wr HB.out j hlt
       have HKJ := Lib.hid hkj
       clear hcell hkj
       have x0' : wr.cell? ⟨b, off + j * 4, none⟩ = some (.int .i64 (kid j).k) := x0
       have x1' : wr.cell? ⟨b, off + j * 4 + 1, none⟩ = some (.int .i64 (kid j).n) := x1
       have x2' : wr.cell? ⟨b, off + j * 4 + 2, none⟩ = some (.string (kid j).s) := x2
       have x3' : wr.cell? ⟨b, off + j * 4 + 3, none⟩ = some (.slice aj (kid j).m cj) := x3
       clear x0 x1 x2 x3
       go_wp2_with fail
       refine (HIH.out j aj cj _ HKJ.out).mono ?_
       rintro e w9 ⟨rfl, hb9⟩
       have HB9 := Lib.hid (HB.out.trans (hb9.mono HB.out.size))
       have HX9 := Lib.hid (HX.out.below hb9)
       clear hb9 x0' x1' x2' x3' y0 y1 y2 y3
       by_cases hz : (kid j).err = 0
       ·have HF1 : Hid (firstE (fun j => (kid j).err) (j + 1) = 0) := by unfold Hid; rw [firstE_ok HF.out]; exact hz
        rw [hz]
        go_wp2_with fail
        go_roundw
        case rel => exact ⟨j + 1, by omega, by go_num, HF1.out, HX9.out, HB9.out⟩
        case measure => simp [intOf]; omega
       ·have hzB : decide ((kid j).err = 0) = false := decide_eq_false hz
        have hzN : ((kid j).err != 0) = true := by simpa using hz
        have HR : Hid (z = (kid j).err) := by unfold Hid; rw [HEK.out, firstE_err (f := fun j => (kid j).err) hlt HF.out hz]
        generalize (kid j).err = y at *
        go_wp2_with fail
        go_ret
        exact ⟨kret_int HR.out.symm, HB9.out⟩
      ·have hjm : j = m := by omega
       subst hjm
       have HR : Hid (z = 0) := by unfold Hid; rw [HEK.out, HF.out]
       go_wp2_with fail
       go_ret
       exact ⟨kret_int HR.out.symm, HB.out⟩
  ·have hie := empty_not hs0
   have HR : Hid (z = 1) := by unfold Hid; rw [HM.out, ownE_text (by omega) (by rw [HMK.out]; decide) (by decide) hs0]; rfl
   go_enter Tryz.func102, Tryz.ntmps102
   go_wp2_with fail
   go_ret
   exact ⟨kret_int HR.out.symm, HB2.out⟩
 ·have hmkB : decide ((m : Int) = 2) = false := decide_eq_false hmk
  have hmkE : ((m : Int) == 2) = false := by simpa using hmk
  have hmkN : ((m : Int) != 2) = true := by simpa using hmk
  have hmkD : decide (m = 2) = false := decide_eq_false (by omega)
  have HR : Hid (z = 1) := by unfold Hid; rw [HM.out, ownE_kids (by omega) (by rw [show kidsOf 12 = 2 by decide]; exact hmk)]; rfl
  go_enter Tryz.func102, Tryz.ntmps102
  go_wp2_with fail
  go_ret
  exact ⟨kret_int HR.out.symm, HB2.out⟩
set_option maxRecDepth 100000 in
set_option maxHeartbeats 4000000 in
theorem wrong_13 (n : Int) (s : ByteArray) (m : Nat) (kid : Nat → Ex) (ih : ∀ j, WrongIs (kid j)) : WrongIs (.mk 13 n s m kid) := by
 intro a c w hk
 show Calls Tryz.prog 102 #[.agg #[.int .i64 13, .int .i64 n, .string s, .slice a m c]] w _
 have hm : m ≤ 9223372036854775807 := by have := hk.many; unfold maxLen at this; exact this
 have HSZ : Hid (s.size ≤ maxLen) := Lib.hid hk.name
 have HK := Lib.hid hk
 have HM := Lib.hid (err_mk 13 n s m kid)
 have HIH := Lib.hid ih
 clear hk ih
 generalize (Ex.mk 13 n s m kid).err = z at *
 have HB0 := Lib.hid (kbelow_box w (.cells #[.int .i64 13, .int .i64 n, .string s, .slice a m c] 71))
 have HX0 := Lib.hid (XBox.made w 13 n s a m c 71)
 have HB2 := Lib.hid (HB0.out.alloc HB0.out.size kidsRow)
 have HX2 := Lib.hid (HX0.out.below (kbelow_box _ kidsRow))
 unfold kidsRow at HB2 HX2
 by_cases hmk : (m : Int) = 4
 ·have hmkB : decide ((m : Int) = 4) = true := decide_eq_true hmk
  have hmkE : ((m : Int) == 4) = true := by simpa using hmk
  have hmkN : ((m : Int) != 4) = false := by simpa using hmk
  have hmkD : decide (m = 4) = true := decide_eq_true (by omega)
  have HMK := Lib.hid hmk
  clear hmk
  by_cases hs0 : s.size = 0
  ·have HNUM : Hid (ownE 13 n s m = if n < 1 ∨ 3 < n then 3 else 0) := Lib.hid (ownE_num (k := 13) (n := n) (by omega) (by rw [HMK.out]; decide) (.inr ⟨by decide, hs0⟩))
   have hs : s = ByteArray.empty := ByteArray.size_eq_zero_iff.1 hs0
   subst hs
   go_enter Tryz.func102, Tryz.ntmps102
   by_cases c1 : n < 1
   ·have HR : Hid (z = 3) := by unfold Hid; have h := HNUM.out; rw [if_pos (.inl c1)] at h; rw [HM.out, h]; rfl
    go_wp2_with fail
    go_ret
    exact ⟨kret_int HR.out.symm, HB2.out⟩
   ·have c1B : decide (n < 1) = false := decide_eq_false c1
    by_cases c2 : 3 < n
    ·have HR : Hid (z = 3) := by unfold Hid; have h := HNUM.out; rw [if_pos (.inr c2)] at h; rw [HM.out, h]; rfl
     go_wp2_with fail
     go_ret
     exact ⟨kret_int HR.out.symm, HB2.out⟩
    ·have c2B : decide (3 < n) = false := decide_eq_false c2
     have HEK : Hid (z = firstE (fun j => (kid j).err) m) := by unfold Hid; have h := HNUM.out; rw [if_neg (by omega)] at h; rw [HM.out, h]; rfl
     clear HM HNUM
     go_wp2_with fail
     go_loopw [7] (fun i wr => ∃ j : Nat, j ≤ m ∧ i = .int .i64 j ∧ firstE (fun j => (kid j).err) j = 0 ∧ XBox wr w.heap.size 13 n ByteArray.empty a m c ∧ Below w.heap.size w wr) (fun i _ => m - (intOf i).toNat)
     case atStart => exact ⟨0, Nat.zero_le _, rfl, rfl, HX2.out, HB2.out⟩
     case round =>
      obtain ⟨j, hj, rfl, hf, hx, hb⟩ := hrel
      have HF := Lib.hid hf
      have HB := Lib.hid hb
      have HX := Lib.hid hx
      clear hf hb hx
      obtain ⟨_, y0, y1, y2, y3⟩ := HX.out
      by_cases hlt : j < m
      ·have hlt' : (j : Int) < (m : Int) := by omega
       obtain ⟨b, off, rfl, hcell⟩ := HK.out.open (show 0 < m by omega)
       obtain ⟨aj, cj, ⟨x0, x1, x2, x3⟩, hkj⟩ := hcell wr HB.out j hlt
       have HKJ := Lib.hid hkj
       clear hcell hkj
       have x0' : wr.cell? ⟨b, off + j * 4, none⟩ = some (.int .i64 (kid j).k) := x0
       have x1' : wr.cell? ⟨b, off + j * 4 + 1, none⟩ = some (.int .i64 (kid j).n) := x1
       have x2' : wr.cell? ⟨b, off + j * 4 + 2, none⟩ = some (.string (kid j).s) := x2
       have x3' : wr.cell? ⟨b, off + j * 4 + 3, none⟩ = some (.slice aj (kid j).m cj) := x3
       clear x0 x1 x2 x3
       go_wp2_with fail
       refine (HIH.out j aj cj _ HKJ.out).mono ?_
       rintro e w9 ⟨rfl, hb9⟩
       have HB9 := Lib.hid (HB.out.trans (hb9.mono HB.out.size))
       have HX9 := Lib.hid (HX.out.below hb9)
       clear hb9 x0' x1' x2' x3' y0 y1 y2 y3
       by_cases hz : (kid j).err = 0
       ·have HF1 : Hid (firstE (fun j => (kid j).err) (j + 1) = 0) := by unfold Hid; rw [firstE_ok HF.out]; exact hz
        rw [hz]
        go_wp2_with fail
        go_roundw
        case rel => exact ⟨j + 1, by omega, by go_num, HF1.out, HX9.out, HB9.out⟩
        case measure => simp [intOf]; omega
       ·have hzB : decide ((kid j).err = 0) = false := decide_eq_false hz
        have hzN : ((kid j).err != 0) = true := by simpa using hz
        have HR : Hid (z = (kid j).err) := by unfold Hid; rw [HEK.out, firstE_err (f := fun j => (kid j).err) hlt HF.out hz]
        generalize (kid j).err = y at *
        go_wp2_with fail
        go_ret
        exact ⟨kret_int HR.out.symm, HB9.out⟩
      ·have hjm : j = m := by omega
       subst hjm
       have HR : Hid (z = 0) := by unfold Hid; rw [HEK.out, HF.out]
       go_wp2_with fail
       go_ret
       exact ⟨kret_int HR.out.symm, HB.out⟩
  ·have hie := empty_not hs0
   have HR : Hid (z = 1) := by unfold Hid; rw [HM.out, ownE_text (by omega) (by rw [HMK.out]; decide) (by decide) hs0]; rfl
   go_enter Tryz.func102, Tryz.ntmps102
   go_wp2_with fail
   go_ret
   exact ⟨kret_int HR.out.symm, HB2.out⟩
 ·have hmkB : decide ((m : Int) = 4) = false := decide_eq_false hmk
  have hmkE : ((m : Int) == 4) = false := by simpa using hmk
  have hmkN : ((m : Int) != 4) = true := by simpa using hmk
  have hmkD : decide (m = 4) = false := decide_eq_false (by omega)
  have HR : Hid (z = 1) := by unfold Hid; rw [HM.out, ownE_kids (by omega) (by rw [show kidsOf 13 = 4 by decide]; exact hmk)]; rfl
  go_enter Tryz.func102, Tryz.ntmps102
  go_wp2_with fail
  go_ret
  exact ⟨kret_int HR.out.symm, HB2.out⟩
end Go.Proofs.YtkalfdjmklakdaaGreatDoor
namespace Go.Proofs.YtkalfdjmklakdaaGreatDoor
open Go.RowKit
set_option maxRecDepth 100000 in
set_option maxHeartbeats 4000000 in
theorem wrongExpr_ref (x : Ex) : WrongIs x := by
 induction x with
 | no => intro a c w h; exact h.elim
 | mk k n s m kid ih =>
   by_cases hk : 1 ≤ k ∧ k ≤ 13
   ·have h : k = 1 ∨ k = 2 ∨ k = 3 ∨ k = 4 ∨ k = 5 ∨ k = 6 ∨ k = 7 ∨ k = 8 ∨ k = 9 ∨ k = 10 ∨ k = 11 ∨ k = 12 ∨ k = 13 := by omega
    rcases h with rfl | rfl | rfl | rfl | rfl | rfl | rfl | rfl | rfl | rfl | rfl | rfl | rfl
    ·exact wrong_1 n s m kid ih
    ·exact wrong_2 n s m kid ih
    ·exact wrong_3 n s m kid ih
    ·exact wrong_4 n s m kid ih
    ·exact wrong_5 n s m kid ih
    ·exact wrong_6 n s m kid ih
    ·exact wrong_7 n s m kid ih
    ·exact wrong_8 n s m kid ih
    ·exact wrong_9 n s m kid ih
    ·exact wrong_10 n s m kid ih
    ·exact wrong_11 n s m kid ih
    ·exact wrong_12 n s m kid ih
    ·exact wrong_13 n s m kid ih
   ·intro a c w hk'
    show Calls Tryz.prog 102 #[.agg #[.int .i64 k, .int .i64 n, .string s, .slice a m c]] w _
    have HM := Lib.hid (err_mk k n s m kid)
    have HB0 := Lib.hid (kbelow_box w (.cells #[.int .i64 k, .int .i64 n, .string s, .slice a m c] 71))
    have HR : Hid ((Ex.mk k n s m kid).err = 7) := by unfold Hid; rw [HM.out, ownE_kind (by omega)]; rfl
    clear HM hk' ih
    generalize (Ex.mk k n s m kid).err = z at *
    by_cases hk1 : k < 1
    ·go_enter Tryz.func102, Tryz.ntmps102
     go_wp2_with fail
     go_ret
     exact ⟨kret_int HR.out.symm, HB0.out⟩
    ·have hk1B : decide (k < 1) = false := decide_eq_false hk1
     have hk2 : 13 < k := by omega
     go_enter Tryz.func102, Tryz.ntmps102
     go_wp2_with fail
     go_ret
     exact ⟨kret_int HR.out.symm, HB0.out⟩
end Go.Proofs.YtkalfdjmklakdaaGreatDoor
namespace Go.Proofs.YtkalfdjmklakdaaGreatDoor
open Go.RowKit
def sumP (l : List Ln) (k : Nat) : Nat := sumN (fun j => (lnth l j).ex.parts) k
def maxD (l : List Ln) (k : Nat) : Nat := maxN (fun j => (lnth l j).ex.depth) k
def lineE (r : Ln) : Int := if r.kind < 1 ∨ 4 < r.kind then 7 else if NameP r.name then r.ex.err else 1
def linesE (l : List Ln) : Int := if 40 < l.length ∨ ¬ (sumP l l.length ≤ 4000 ∧ maxD l l.length ≤ 20) then 2 else firstE (fun j => lineE (lnth l j)) l.length
theorem lineE_bd (r : Ln) : 0 ≤ lineE r ∧ lineE r ≤ 7 := by
 unfold lineE
 have := err_bd r.ex
 (repeat' split) <;> omega
theorem left20 (x : Ex) (r : Nat) : x.left 20 (r : Int) = if x.depth ≤ 20 ∧ x.parts ≤ r then (r : Int) - x.parts else -1 := left_eq x 20 r
theorem sumP_succ (l : List Ln) (k : Nat) : sumP l (k + 1) = sumP l k + (lnth l k).ex.parts := rfl
theorem maxD_succ (l : List Ln) (k : Nat) : maxD l (k + 1) = max (maxD l k) (lnth l k).ex.depth := rfl
theorem sumP_le {l : List Ln} {j m : Nat} (h : j ≤ m) : sumP l j ≤ sumP l m := sumN_le h
theorem maxD_le {l : List Ln} {j m : Nat} (h : j ≤ m) : maxD l j ≤ maxD l m := maxN_le h
set_option maxRecDepth 100000 in
set_option maxHeartbeats 2000000 in
theorem tooMany_any (a : Option Addr) (n cap : Nat) (l : List Ln) (w : World) (hc : CameL w a l) (hn : l.length = n) (hm : n ≤ maxLen) :
 Calls Tryz.prog 69 #[.slice a n cap] w fun e w' => e = .returned (.bool (decide (40 < n ∨ ¬ (sumP l n ≤ 4000 ∧ maxD l n ≤ 20)))) ∧ Below w.heap.size w w' := by
 have hm' : n ≤ 9223372036854775807 := by unfold maxLen at hm; omega
 have HO := Lib.hid (fun h0 => hc.open hn h0)
 clear hm hc
 by_cases h40 : 40 < n
 ·have HR : Hid (decide (40 < n ∨ ¬ (sumP l n ≤ 4000 ∧ maxD l n ≤ 20)) = true) := decide_eq_true (.inl h40)
  have h40' : (40 : Int) < (n : Int) := by omega
  have HB := Lib.hid (Below.refl w.heap.size w)
  go_enter Tryz.func69, Tryz.ntmps69
  go_wp2_with fail
  go_ret
  exact ⟨kret_bool HR.out.symm, HB.out⟩
 ·have h40' : decide ((40 : Int) < (n : Int)) = false := decide_eq_false (by omega)
  go_enter Tryz.func69, Tryz.ntmps69
  go_wp2_with fail
  go_loopw [3, 11] (fun lv i wr => ∃ j r : Nat, j ≤ n ∧ i = .int .i64 j ∧ lv = .int .i64 r ∧ r + sumP l j = 4000 ∧ maxD l j ≤ 20 ∧ Below w.heap.size w wr) (fun _ i _ => n - (intOf i).toNat)
  case atStart => exact ⟨0, 4000, Nat.zero_le _, rfl, rfl, rfl, by simp [maxD, maxN], Below.refl _ _⟩
  case round =>
   obtain ⟨j, r, hj, rfl, rfl, hs, hd, hb⟩ := hrel
   have HSD := Lib.hid (And.intro hs hd)
   have hr4 : r ≤ 4000 := by omega
   have HB := Lib.hid hb
   clear hs hd hb
   by_cases hlt : j < n
   ·have hlt' : (j : Int) < (n : Int) := by omega
    obtain ⟨b, off, rfl, hcell⟩ := HO.out (by omega)
    obtain ⟨aj, cj, ⟨x0, x1, x2, x3, x4, x5⟩, hns, hkj⟩ := hcell wr HB.out j hlt
    have HKJ := Lib.hid hkj
    have HNS := Lib.hid hns
    clear hcell hkj hns
    have HBJ := Lib.hid (kbelow_box wr (.cells #[.int .i64 (lnth l j).kind, .string (lnth l j).name, .int .i64 (lnth l j).ex.k, .int .i64 (lnth l j).ex.n, .string (lnth l j).ex.s, .slice aj (lnth l j).ex.m cj] 73))
    go_wp2_with fail
    refine (partsLeft_any (lnth l j).ex aj cj 20 r _ (by omega) (by omega) (by omega) (by omega) (HKJ.out.below HBJ.out)).mono ?_
    rintro e w1 ⟨rfl, hb1⟩
    have HB1 := Lib.hid (HB.out.trans ((HBJ.out.trans (hb1.mono HBJ.out.size)).mono HB.out.size))
    clear hb1 x0 x1 x2 x3 x4 x5
    rw [left20]
    by_cases hfit : (lnth l j).ex.depth ≤ 20 ∧ (lnth l j).ex.parts ≤ r
    ·rw [if_pos hfit]
     have HN : Hid (r - (lnth l j).ex.parts + sumP l (j + 1) = 4000 ∧ maxD l (j + 1) ≤ 20) := by
      have := HSD.out
      unfold Hid
      rw [sumP_succ, maxD_succ]
      omega
     obtain ⟨u, hu⟩ : ∃ u : Nat, u = r - (lnth l j).ex.parts := ⟨_, rfl⟩
     rw [show (r : Int) - ((lnth l j).ex.parts : Int) = (u : Int) by omega]
     rw [← hu] at HN
     clear hu hfit HSD
     go_wp2_with fail
     go_roundw
     case rel => exact ⟨j + 1, u, by omega, by go_num, rfl, HN.out.1, HN.out.2, HB1.out⟩
     case measure => simp [intOf]; omega
    ·rw [if_neg hfit]
     have HR : Hid (decide (40 < n ∨ ¬ (sumP l n ≤ 4000 ∧ maxD l n ≤ 20)) = true) := decide_eq_true (.inr (fun h => hfit (by
      have h1 := HSD.out
      have h2 := sumP_le (l := l) (show j + 1 ≤ n by omega)
      have h3 := maxD_le (l := l) (show j + 1 ≤ n by omega)
      rw [sumP_succ] at h2
      rw [maxD_succ] at h3
      omega)))
     clear hfit
     go_wp2_with fail
     go_ret
     exact ⟨kret_bool HR.out.symm, HB1.out⟩
   ·have hjn : j = n := by omega
    subst hjn
    have HR : Hid (decide (40 < j ∨ ¬ (sumP l j ≤ 4000 ∧ maxD l j ≤ 20)) = false) := decide_eq_false (by have := HSD.out; omega)
    go_wp2_with fail
    go_ret
    exact ⟨kret_bool HR.out.symm, HB.out⟩
theorem LBox.made (w : World) (v0 v1 v2 v3 v4 v5 : Value) (T : TypeId) : w.heap.size < (w.alloc (.cells #[v0, v1, v2, v3, v4, v5] T)).heap.size ∧ (w.alloc (.cells #[v0, v1, v2, v3, v4, v5] T)).cell? ⟨w.heap.size, 2, none⟩ = some v2 ∧ (w.alloc (.cells #[v0, v1, v2, v3, v4, v5] T)).cell? ⟨w.heap.size, 3, none⟩ = some v3 ∧ (w.alloc (.cells #[v0, v1, v2, v3, v4, v5] T)).cell? ⟨w.heap.size, 4, none⟩ = some v4 ∧ (w.alloc (.cells #[v0, v1, v2, v3, v4, v5] T)).cell? ⟨w.heap.size, 5, none⟩ = some v5 := by
 refine ⟨?_, ?_, ?_, ?_, ?_⟩ <;> simp
set_option maxRecDepth 100000 in
set_option maxHeartbeats 2000000 in
theorem checkLine_any (r : Ln) (a : Option Addr) (c : Nat) (w : World) (hS : Shp w) (hk : KidsAt w r.ex a) :
 Calls Tryz.prog 70 #[.agg #[.int .i64 r.kind, .string r.name, .int .i64 r.ex.k, .int .i64 r.ex.n, .string r.ex.s, .slice a r.ex.m c]] w fun e w' => e = .returned (.int .i64 (lineE r)) ∧ Below w.heap.size w w' := by
 obtain ⟨k, s, x⟩ := r
 show Calls Tryz.prog 70 #[.agg #[.int .i64 k, .string s, .int .i64 x.k, .int .i64 x.n, .string x.s, .slice a x.m c]] w _
 have HE : Hid (lineE ⟨k, s, x⟩ = if k < 1 ∨ 4 < k then 7 else if NameP s then x.err else 1) := rfl
 have hk' : KidsAt w x a := hk
 have HK := Lib.hid hk'
 have HS := Lib.hid hS
 clear hk hk' hS
 generalize lineE ⟨k, s, x⟩ = z at *
 have HB0 := Lib.hid (kbelow_box w (.cells #[.int .i64 k, .string s, .int .i64 x.k, .int .i64 x.n, .string x.s, .slice a x.m c] 73))
 have HL := Lib.hid (LBox.made w (.int .i64 k) (.string s) (.int .i64 x.k) (.int .i64 x.n) (.string x.s) (.slice a x.m c) 73)
 by_cases h1 : k < 1
 ·have HR : Hid (z = 7) := by unfold Hid; rw [HE.out, if_pos (.inl h1)]
  go_enter Tryz.func70, Tryz.ntmps70
  go_wp2_with fail
  go_ret
  exact ⟨kret_int HR.out.symm, HB0.out⟩
 ·have h1B : decide (k < 1) = false := decide_eq_false h1
  by_cases h2 : 4 < k
  ·have HR : Hid (z = 7) := by unfold Hid; rw [HE.out, if_pos (.inr h2)]
   go_enter Tryz.func70, Tryz.ntmps70
   go_wp2_with fail
   go_ret
   exact ⟨kret_int HR.out.symm, HB0.out⟩
  ·have h2B : decide (4 < k) = false := decide_eq_false h2
   have HN : Hid (z = if NameP s then x.err else 1) := by unfold Hid; rw [HE.out, if_neg (by omega)]
   go_enter Tryz.func70, Tryz.ntmps70
   go_wp2_with fail
   refine (IsName_any s _).mono ?_
   rintro e w1 ⟨b, rfl, hb, hbel⟩
   have HB1 := Lib.hid (HB0.out.trans (hbel.mono HB0.out.size))
   obtain ⟨hg, l2, l3, l4, l5⟩ := HL.out
   have y2 := (hbel.cell (p := ⟨w.heap.size, 2, none⟩) hg).trans l2
   have y3 := (hbel.cell (p := ⟨w.heap.size, 3, none⟩) hg).trans l3
   have y4 := (hbel.cell (p := ⟨w.heap.size, 4, none⟩) hg).trans l4
   have y5 := (hbel.cell (p := ⟨w.heap.size, 5, none⟩) hg).trans l5
   clear hbel l2 l3 l4 l5 HL HB0
   cases b
   ·have HR : Hid (z = 1) := by unfold Hid; rw [HN.out, if_neg (fun h => by have := hb.2 h; cases this)]
    clear hb
    go_wp2_with fail
    go_ret
    exact ⟨kret_int HR.out.symm, HB1.out⟩
   ·have HR : Hid (z = x.err) := by unfold Hid; rw [HN.out, if_pos (hb.1 rfl)]
    clear hb HN
    go_wp2_with fail
    refine (checkExpr_any x a c _ (HS.out.below HB1.out) (HK.out.below HB1.out)).mono ?_
    rintro e w2 ⟨rfl, hb2⟩
    have HB2 := Lib.hid (HB1.out.trans (hb2.mono HB1.out.size))
    clear hb2
    go_wp2_with fail
    go_ret
    exact ⟨kret_int HR.out.symm, HB2.out⟩
set_option maxRecDepth 100000 in
set_option maxHeartbeats 2000000 in
theorem check_lines (a : Option Addr) (n cap : Nat) (l : List Ln) (w : World) (hS : Shp w) (hc : CameL w a l) (hn : l.length = n) (hm : n ≤ maxLen) :
 Calls Tryz.prog 25 #[.slice a n cap] w fun e w' => e = .returned (.int .i64 (linesE l)) ∧ Below w.heap.size w w' := by
 have hm' : n ≤ 9223372036854775807 := by unfold maxLen at hm; omega
 have HM := Lib.hid hm
 have HN := Lib.hid hn
 have HS := Lib.hid hS
 have HC := Lib.hid hc
 have HE : Hid (linesE l = if 40 < n ∨ ¬ (sumP l n ≤ 4000 ∧ maxD l n ≤ 20) then 2 else firstE (fun j => lineE (lnth l j)) n) := by unfold Hid linesE; rw [hn]
 clear hm hc hS hn
 go_enter Tryz.func25, Tryz.ntmps25
 go_wp2_with fail
 refine (tooMany_any a n cap l _ HC.out HN.out HM.out).mono ?_
 rintro e w1 ⟨rfl, hb1⟩
 have HB1 := Lib.hid hb1
 clear hb1
 by_cases hmany : 40 < n ∨ ¬ (sumP l n ≤ 4000 ∧ maxD l n ≤ 20)
 ·rw [decide_eq_true hmany]
  have HR : Hid (linesE l = 2) := by unfold Hid; rw [HE.out, if_pos hmany]
  clear hmany
  go_wp2_with fail
  go_ret
  exact ⟨kret_int HR.out.symm, HB1.out⟩
 ·rw [decide_eq_false hmany]
  have HF0 : Hid (linesE l = firstE (fun j => lineE (lnth l j)) n) := by unfold Hid; rw [HE.out, if_neg hmany]
  clear hmany HE
  have HO := Lib.hid (fun h0 => HC.out.open HN.out h0)
  go_wp2_with fail
  go_loopw [10] (fun i wr => ∃ j : Nat, j ≤ n ∧ i = .int .i64 j ∧ firstE (fun j => lineE (lnth l j)) j = 0 ∧ Below w.heap.size w wr) (fun i _ => n - (intOf i).toNat)
  case atStart => exact ⟨0, Nat.zero_le _, rfl, rfl, HB1.out⟩
  case round =>
   obtain ⟨j, hj, rfl, hf, hb⟩ := hrel
   have HF := Lib.hid hf
   have HB := Lib.hid hb
   clear hf hb
   by_cases hlt : j < n
   ·have hlt' : (j : Int) < (n : Int) := by omega
    obtain ⟨b, off, rfl, hcell⟩ := HO.out (by omega)
    obtain ⟨aj, cj, ⟨x0, x1, x2, x3, x4, x5⟩, hns, hkj⟩ := hcell wr HB.out j hlt
    have HKJ := Lib.hid hkj
    have HNS := Lib.hid hns
    clear hcell hkj hns
    have HBJ := Lib.hid (kbelow_box wr (.cells #[.int .i64 (lnth l j).kind, .string (lnth l j).name, .int .i64 (lnth l j).ex.k, .int .i64 (lnth l j).ex.n, .string (lnth l j).ex.s, .slice aj (lnth l j).ex.m cj] 73))
    go_wp2_with fail
    refine (checkLine_any (lnth l j) aj cj _ ((HS.out.below HB.out).below HBJ.out) (HKJ.out.below HBJ.out)).mono ?_
    rintro e w2 ⟨rfl, hb2⟩
    have HB2 := Lib.hid (HB.out.trans ((HBJ.out.trans (hb2.mono HBJ.out.size)).mono HB.out.size))
    clear hb2 x0 x1 x2 x3 x4 x5
    by_cases hz : lineE (lnth l j) = 0
    ·have HF1 : Hid (firstE (fun j => lineE (lnth l j)) (j + 1) = 0) := by unfold Hid; rw [firstE_ok HF.out]; exact hz
     rw [hz]
     go_wp2_with fail
     go_roundw
     case rel => exact ⟨j + 1, by omega, by go_num, HF1.out, HB2.out⟩
     case measure => simp [intOf]; omega
    ·have hzB : decide (lineE (lnth l j) = 0) = false := decide_eq_false hz
     have hzN : (lineE (lnth l j) != 0) = true := by simpa using hz
     have HR : Hid (linesE l = lineE (lnth l j)) := by unfold Hid; rw [HF0.out, firstE_err (f := fun j => lineE (lnth l j)) hlt HF.out hz]
     generalize lineE (lnth l j) = y at *
     go_wp2_with fail
     go_ret
     exact ⟨kret_int HR.out.symm, HB2.out⟩
   ·have hjn : j = n := by omega
    subst hjn
    have HR : Hid (linesE l = 0) := by unfold Hid; rw [HF0.out, HF.out]
    go_wp2_with fail
    go_ret
    exact ⟨kret_int HR.out.symm, HB.out⟩
end Go.Proofs.YtkalfdjmklakdaaGreatDoor
namespace Go.Proofs.YtkalfdjmklakdaaGreatDoor
open Go.RowKit
set_option maxRecDepth 100000 in
set_option maxHeartbeats 4000000 in
theorem checkLines_ref (a : Option Addr) (n cap : Nat) (l : List Ln) (w : World) (hc : CameL w a l) (hn : l.length = n) (hm : n ≤ maxLen) :
 Calls Tryz.prog 38 #[.slice a n cap] w fun e w' => e = .returned (.int .i64 (linesE l)) ∧ Below w.heap.size w w' := by
 have hm' : n ≤ 9223372036854775807 := by unfold maxLen at hm; omega
 have HE : Hid (linesE l = if 40 < n ∨ ¬ (sumP l n ≤ 4000 ∧ maxD l n ≤ 20) then 2 else firstE (fun j => lineE (lnth l j)) n) := by unfold Hid linesE; rw [hn]
 have HO := Lib.hid (fun h0 => hc.open hn h0)
 clear hm hc hn
 by_cases h40 : 40 < n
 ·have HR : Hid (linesE l = 2) := by unfold Hid; rw [HE.out, if_pos (.inl h40)]
  have h40' : (40 : Int) < (n : Int) := by omega
  have HB := Lib.hid (Below.refl w.heap.size w)
  go_enter Tryz.func38, Tryz.ntmps38
  go_wp2_with fail
  go_ret
  exact ⟨kret_int HR.out.symm, HB.out⟩
 ·have h40' : decide ((40 : Int) < (n : Int)) = false := decide_eq_false (by omega)
  go_enter Tryz.func38, Tryz.ntmps38
  go_wp2_with fail
  go_loopw [3, 4] (fun nv i wr => ∃ j r : Nat, j ≤ n ∧ i = .int .i64 j ∧ nv = .int .i64 r ∧ r = sumP l j ∧ r ≤ 4000 ∧ maxD l j ≤ 20 ∧ Below w.heap.size w wr) (fun _ i _ => n - (intOf i).toNat)
  case atStart => exact ⟨0, 0, Nat.zero_le _, rfl, rfl, rfl, by omega, by simp [maxD, maxN], Below.refl _ _⟩
  case round =>
   obtain ⟨j, r, hj, rfl, rfl, hs, hr4, hd, hb⟩ := hrel
   have HSD := Lib.hid (And.intro hs hd)
   have HB := Lib.hid hb
   clear hs hd hb
   by_cases hlt : j < n
   ·have hlt' : (j : Int) < (n : Int) := by omega
    obtain ⟨b, off, rfl, hcell⟩ := HO.out (by omega)
    obtain ⟨aj, cj, ⟨x0, x1, x2, x3, x4, x5⟩, hns, hkj⟩ := hcell wr HB.out j hlt
    have HKJ := Lib.hid hkj
    have HNS := Lib.hid hns
    have HCL := Lib.hid hcell
    clear hcell hkj hns
    go_wp2_with fail
    refine (parts_ref (lnth l j).ex aj cj 4000 _ (by omega) HKJ.out).mono ?_
    rintro e w1 ⟨rfl, hb1⟩
    have HB1 := Lib.hid (HB.out.trans (hb1.mono HB.out.size))
    clear x0 x1 x2 x3 x4 x5
    obtain ⟨aj', cj', ⟨x0, x1, x2, x3, x4, x5⟩, _, hkj⟩ := HCL.out w1 HB1.out j hlt
    have HKJ1 := Lib.hid hkj
    clear hb1 hkj
    have hcut : cutN (lnth l j).ex.parts 4000 ≤ 4001 := by unfold cutN; omega
    have HCUT : Hid (cutN (lnth l j).ex.parts 4000 = min (lnth l j).ex.parts 4001) := rfl
    generalize cutN (lnth l j).ex.parts 4000 = u at *
    by_cases hbig : 4000 < r + u
    ·have hbig' : (4000 : Int) < (r : Int) + (u : Int) := by omega
     have HR : Hid (linesE l = 2) := by
      unfold Hid
      rw [HE.out, if_pos (.inr (fun h => by
       have h1 := HSD.out
       have h2 := sumP_le (l := l) (show j + 1 ≤ n by omega)
       have h3 := HCUT.out
       rw [sumP_succ] at h2
       omega))]
     go_wp2_with fail
     go_ret
     exact ⟨kret_int HR.out.symm, HB1.out⟩
    ·have hbigB : decide ((4000 : Int) < (r : Int) + (u : Int)) = false := decide_eq_false (by omega)
     go_wp2_with fail
     refine (depth_ref (lnth l j).ex aj' cj' 20 _ (by omega) HKJ1.out).mono ?_
     rintro e w2 ⟨rfl, hb2⟩
     have HB2 := Lib.hid (HB1.out.trans (hb2.mono HB1.out.size))
     have HCD : Hid (cutN (lnth l j).ex.depth 20 = min (lnth l j).ex.depth 21) := rfl
     have hcd : cutN (lnth l j).ex.depth 20 ≤ 21 := by unfold cutN; omega
     clear hb2 x0 x1 x2 x3 x4 x5
     generalize cutN (lnth l j).ex.depth 20 = d at *
     by_cases hdeep : 20 < d
     ·have hdeep' : (20 : Int) < (d : Int) := by omega
      have HR : Hid (linesE l = 2) := by
       unfold Hid
       rw [HE.out, if_pos (.inr (fun h => by
        have h1 := HSD.out
        have h2 := maxD_le (l := l) (show j + 1 ≤ n by omega)
        have h3 := HCD.out
        rw [maxD_succ] at h2
        omega))]
      go_wp2_with fail
      go_ret
      exact ⟨kret_int HR.out.symm, HB2.out⟩
     ·have hdeepB : decide ((20 : Int) < (d : Int)) = false := decide_eq_false (by omega)
      have HN : Hid (r + u = sumP l (j + 1) ∧ maxD l (j + 1) ≤ 20) := by
       have h1 := HSD.out
       have h2 := HCUT.out
       have h3 := HCD.out
       unfold Hid
       rw [sumP_succ, maxD_succ]
       omega
      go_wp2_with fail
      go_roundw
      case rel => exact ⟨j + 1, r + u, by omega, by go_num, by go_num, HN.out.1, by omega, HN.out.2, HB2.out⟩
      case measure => simp [intOf]; omega
   ·have hltB : decide ((j : Int) < (n : Int)) = false := decide_eq_false (by omega)
    have HF0 : Hid (linesE l = firstE (fun j => lineE (lnth l j)) n) := by
     have h1 := HSD.out
     have hjn : j = n := by omega
     subst hjn
     unfold Hid
     rw [HE.out, if_neg (by omega)]
    clear HSD HE
    have HB0 := HB
    clear HB
    go_wp2_with fail
    go_loopw [5] (fun i wq => ∃ q : Nat, q ≤ n ∧ i = .int .i64 q ∧ firstE (fun j => lineE (lnth l j)) q = 0 ∧ Below w.heap.size w wq) (fun i _ => n - (intOf i).toNat)
    case atStart => exact ⟨0, Nat.zero_le _, rfl, rfl, HB0.out⟩
    case round =>
     clear HB0
     generalize wr = wr0 at *
     obtain ⟨q, hq, rfl, hf, hb⟩ := hrel
     have HF := Lib.hid hf
     have HB := Lib.hid hb
     clear hf hb
     by_cases hlt : q < n
     ·have hlt' : (q : Int) < (n : Int) := by omega
      obtain ⟨b, off, rfl, hcell⟩ := HO.out (by omega)
      obtain ⟨aj, cj, ⟨x0, x1, x2, x3, x4, x5⟩, hns, hkj⟩ := hcell _ HB.out q hlt
      have HKJ := Lib.hid hkj
      have HNS := Lib.hid hns
      have HCL := Lib.hid hcell
      clear hcell hkj hns
      have HLE : Hid (lineE (lnth l q) = if (lnth l q).kind < 1 ∨ 4 < (lnth l q).kind then 7 else if NameP (lnth l q).name then (lnth l q).ex.err else 1) := rfl
      have HER : Hid (lineE (lnth l q) ≠ 0 → linesE l = lineE (lnth l q)) := fun hz => by rw [HF0.out, firstE_err (f := fun j => lineE (lnth l j)) hlt HF.out hz]
      by_cases k1 : (lnth l q).kind < 1
      ·have HR : Hid (linesE l = 7) := by unfold Hid; have h := HLE.out; rw [if_pos (.inl k1)] at h; rw [HER.out (by omega), h]
       go_wp2_with fail
       go_ret
       exact ⟨kret_int HR.out.symm, HB.out⟩
      ·have k1B : decide ((lnth l q).kind < 1) = false := decide_eq_false k1
       by_cases k2 : 4 < (lnth l q).kind
       ·have HR : Hid (linesE l = 7) := by unfold Hid; have h := HLE.out; rw [if_pos (.inr k2)] at h; rw [HER.out (by omega), h]
        go_wp2_with fail
        go_ret
        exact ⟨kret_int HR.out.symm, HB.out⟩
       ·have k2B : decide (4 < (lnth l q).kind) = false := decide_eq_false k2
        have HL2 : Hid (lineE (lnth l q) = if NameP (lnth l q).name then (lnth l q).ex.err else 1) := by unfold Hid; rw [HLE.out, if_neg (by omega)]
        clear HLE
        go_wp2_with fail
        refine (isName_ref _ _ (by have := HNS.out; unfold maxLen at this; omega)).mono ?_
        rintro e w3 ⟨bb, rfl, hbn, hbel⟩
        have HB3 := Lib.hid (HB.out.trans (hbel.mono HB.out.size))
        clear x0 x1 x2 x3 x4 x5
        obtain ⟨aj', cj', ⟨x0, x1, x2, x3, x4, x5⟩, _, hkj⟩ := HCL.out w3 HB3.out q hlt
        have HKJ1 := Lib.hid hkj
        clear hbel hkj
        cases bb
        ·have HR : Hid (linesE l = 1) := by
          unfold Hid
          have h := HL2.out
          rw [if_neg (fun h => by have := hbn.2 h; cases this)] at h
          rw [HER.out (by omega), h]
         clear hbn
         go_wp2_with fail
         go_ret
         exact ⟨kret_int HR.out.symm, HB3.out⟩
        ·have HL3 : Hid (lineE (lnth l q) = (lnth l q).ex.err) := by unfold Hid; rw [HL2.out, if_pos (hbn.1 rfl)]
         clear hbn HL2
         go_wp2_with fail
         refine (wrongExpr_ref (lnth l q).ex aj' cj' _ HKJ1.out).mono ?_
         rintro e w4 ⟨rfl, hb4⟩
         have HB4 := Lib.hid (HB3.out.trans (hb4.mono HB3.out.size))
         clear hb4 x0 x1 x2 x3 x4 x5
         by_cases hz : (lnth l q).ex.err = 0
         ·have HF1 : Hid (firstE (fun j => lineE (lnth l j)) (q + 1) = 0) := by unfold Hid; rw [firstE_ok HF.out, HL3.out]; exact hz
          rw [hz]
          go_wp2_with fail
          go_roundw
          case rel => exact ⟨q + 1, by omega, by go_num, HF1.out, HB4.out⟩
          case measure => simp [intOf]; omega
         ·have hzB : decide ((lnth l q).ex.err = 0) = false := decide_eq_false hz
          have hzN : ((lnth l q).ex.err != 0) = true := by simpa using hz
          have HR : Hid (linesE l = (lnth l q).ex.err) := by unfold Hid; rw [HER.out (by rw [HL3.out]; exact hz), HL3.out]
          generalize (lnth l q).ex.err = y at *
          go_wp2_with fail
          go_ret
          exact ⟨kret_int HR.out.symm, HB4.out⟩
     ·have hltB2 : decide ((q : Int) < (n : Int)) = false := decide_eq_false (by omega)
      have HR : Hid (linesE l = 0) := by
       have hqn : q = n := by omega
       subst hqn
       unfold Hid
       rw [HF0.out, HF.out]
      go_wp2_with fail
      go_ret
      exact ⟨kret_int HR.out.symm, HB.out⟩
end Go.Proofs.YtkalfdjmklakdaaGreatDoor
