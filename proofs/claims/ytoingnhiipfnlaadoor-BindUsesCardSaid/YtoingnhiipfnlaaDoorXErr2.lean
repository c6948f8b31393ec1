/-
  Promise F2: the walk of the reference's WrongExpr, over whatever expression (written by xerrgen.py, kind by kind).
-/
import Derived.Test.YtoingnhiipfnlaaDoorXErrD
namespace Go.Proofs.YtoingnhiipfnlaaDoor
open Go.RowKit

set_option maxRecDepth 100000 in
set_option maxHeartbeats 4000000 in
theorem wrong_4 (n : Int) (s : ByteArray) (m : Nat) (kid : Nat → Ex) (ih : ∀ j, WrongIs (kid j)) : WrongIs (.mk 4 n s m kid) := by
  intro a c w hk
  show Calls Tryd.prog 40 #[.agg #[.int .i64 4, .int .i64 n, .string s, .slice a m c]] w _
  have hm : m ≤ 9223372036854775807 := by have := hk.many; unfold maxLen at this; exact this
  have HSZ : Hid (s.size ≤ maxLen) := Lib.hid hk.name
  have HK := Lib.hid hk
  have HM := Lib.hid (err_mk 4 n s m kid)
  have HIH := Lib.hid ih
  clear hk ih
  generalize (Ex.mk 4 n s m kid).err = z at *
  have HB0 := Lib.hid (kbelow_box w (.cells #[.int .i64 4, .int .i64 n, .string s, .slice a m c] 50))
  have HX0 := Lib.hid (XBox.made w 4 n s a m c 50)
  have HB2 := Lib.hid (HB0.out.alloc HB0.out.size kidsRow)
  have HX2 := Lib.hid (HX0.out.below (kbelow_box _ kidsRow))
  unfold kidsRow at HB2 HX2
  by_cases hmk : (m : Int) = 1
  · have hmkB : decide ((m : Int) = 1) = true := decide_eq_true hmk
    have hmkE : ((m : Int) == 1) = true := by simpa using hmk
    have hmkN : ((m : Int) != 1) = false := by simpa using hmk
    have hmkD : decide (m = 1) = true := decide_eq_true (by omega)
    have HMK := Lib.hid hmk
    clear hmk
    by_cases hs0 : s.size = 0
    · have HNUM : Hid (ownE 4 n s m = if n < 0 ∨ 1000000 < n then 3 else 0) := Lib.hid (ownE_num (k := 4) (n := n) (by omega) (by rw [HMK.out]; decide) (.inr ⟨by decide, hs0⟩))
      have hs : s = ByteArray.empty := ByteArray.size_eq_zero_iff.1 hs0
      subst hs
      go_enter Tryd.func40, Tryd.ntmps40
      by_cases c1 : n < 0
      · have HR : Hid (z = 3) := by unfold Hid; have h := HNUM.out; rw [if_pos (.inl c1)] at h; rw [HM.out, h]; rfl
        go_wp2_with fail
        go_ret
        exact ⟨kret_int HR.out.symm, HB2.out⟩
      · have c1B : decide (n < 0) = false := decide_eq_false c1
        by_cases c2 : 1000000 < n
        · have HR : Hid (z = 3) := by unfold Hid; have h := HNUM.out; rw [if_pos (.inr c2)] at h; rw [HM.out, h]; rfl
          go_wp2_with fail
          go_ret
          exact ⟨kret_int HR.out.symm, HB2.out⟩
        · have c2B : decide (1000000 < n) = false := decide_eq_false c2
          have HEK : Hid (z = firstE (fun j => (kid j).err) m) := by unfold Hid; have h := HNUM.out; rw [if_neg (by omega)] at h; rw [HM.out, h]; rfl
          clear HM HNUM
          go_wp2_with fail
          go_loopw [7] (fun i wr => ∃ j : Nat, j ≤ m ∧ i = .int .i64 j ∧ firstE (fun j => (kid j).err) j = 0 ∧ XBox wr w.heap.size 4 n ByteArray.empty a m c ∧ Below w.heap.size w wr) (fun i _ => m - (intOf i).toNat)
          case atStart => exact ⟨0, Nat.zero_le _, rfl, rfl, HX2.out, HB2.out⟩
          case round =>
            obtain ⟨j, hj, rfl, hf, hx, hb⟩ := hrel
            have HF := Lib.hid hf
            have HB := Lib.hid hb
            have HX := Lib.hid hx
            clear hf hb hx
            obtain ⟨_, y0, y1, y2, y3⟩ := HX.out
            by_cases hlt : j < m
            · have hlt' : (j : Int) < (m : Int) := by omega
              obtain ⟨b, off, rfl, hcell⟩ := HK.out.open (show 0 < m by omega)
              obtain ⟨aj, cj, ⟨x0, x1, x2, x3⟩, hkj⟩ := hcell wr HB.out j hlt
              have HKJ := Lib.hid hkj
              clear hcell hkj
              have x0' : wr.cell? ⟨b, off + j * 4, none⟩ = some (.int .i64 (kid j).k) := x0
              have x1' : wr.cell? ⟨b, off + j * 4 + 1, none⟩ = some (.int .i64 (kid j).n) := x1
              have x2' : wr.cell? ⟨b, off + j * 4 + 2, none⟩ = some (.string (kid j).s) := x2
              have x3' : wr.cell? ⟨b, off + j * 4 + 3, none⟩ = some (.slice aj (kid j).m cj) := x3
              clear x0 x1 x2 x3
              go_wp2_with fail
              refine (HIH.out j aj cj _ HKJ.out).mono ?_
              rintro e w9 ⟨rfl, hb9⟩
              have HB9 := Lib.hid (HB.out.trans (hb9.mono HB.out.size))
              have HX9 := Lib.hid (HX.out.below hb9)
              clear hb9 x0' x1' x2' x3' y0 y1 y2 y3
              by_cases hz : (kid j).err = 0
              · have HF1 : Hid (firstE (fun j => (kid j).err) (j + 1) = 0) := by unfold Hid; rw [firstE_ok HF.out]; exact hz
                rw [hz]
                go_wp2_with fail
                go_roundw
                case rel => exact ⟨j + 1, by omega, by go_num, HF1.out, HX9.out, HB9.out⟩
                case measure => simp [intOf]; omega
              · have hzB : decide ((kid j).err = 0) = false := decide_eq_false hz
                have hzN : ((kid j).err != 0) = true := by simpa using hz
                have HR : Hid (z = (kid j).err) := by unfold Hid; rw [HEK.out, firstE_err (f := fun j => (kid j).err) hlt HF.out hz]
                generalize (kid j).err = y at *
                go_wp2_with fail
                go_ret
                exact ⟨kret_int HR.out.symm, HB9.out⟩
            · have hjm : j = m := by omega
              subst hjm
              have HR : Hid (z = 0) := by unfold Hid; rw [HEK.out, HF.out]
              go_wp2_with fail
              go_ret
              exact ⟨kret_int HR.out.symm, HB.out⟩
    · have hie := empty_not hs0
      have HR : Hid (z = 1) := by unfold Hid; rw [HM.out, ownE_text (by omega) (by rw [HMK.out]; decide) (by decide) hs0]; rfl
      go_enter Tryd.func40, Tryd.ntmps40
      go_wp2_with fail
      go_ret
      exact ⟨kret_int HR.out.symm, HB2.out⟩
  · have hmkB : decide ((m : Int) = 1) = false := decide_eq_false hmk
    have hmkE : ((m : Int) == 1) = false := by simpa using hmk
    have hmkN : ((m : Int) != 1) = true := by simpa using hmk
    have hmkD : decide (m = 1) = false := decide_eq_false (by omega)
    have HR : Hid (z = 1) := by unfold Hid; rw [HM.out, ownE_kids (by omega) (by rw [show kidsOf 4 = 1 by decide]; exact hmk)]; rfl
    go_enter Tryd.func40, Tryd.ntmps40
    go_wp2_with fail
    go_ret
    exact ⟨kret_int HR.out.symm, HB2.out⟩
set_option maxRecDepth 100000 in
set_option maxHeartbeats 4000000 in
theorem wrong_5 (n : Int) (s : ByteArray) (m : Nat) (kid : Nat → Ex) (ih : ∀ j, WrongIs (kid j)) : WrongIs (.mk 5 n s m kid) := by
  intro a c w hk
  show Calls Tryd.prog 40 #[.agg #[.int .i64 5, .int .i64 n, .string s, .slice a m c]] w _
  have hm : m ≤ 9223372036854775807 := by have := hk.many; unfold maxLen at this; exact this
  have HSZ : Hid (s.size ≤ maxLen) := Lib.hid hk.name
  have HK := Lib.hid hk
  have HM := Lib.hid (err_mk 5 n s m kid)
  have HIH := Lib.hid ih
  clear hk ih
  generalize (Ex.mk 5 n s m kid).err = z at *
  have HB0 := Lib.hid (kbelow_box w (.cells #[.int .i64 5, .int .i64 n, .string s, .slice a m c] 50))
  have HX0 := Lib.hid (XBox.made w 5 n s a m c 50)
  have HB2 := Lib.hid (HB0.out.alloc HB0.out.size kidsRow)
  have HX2 := Lib.hid (HX0.out.below (kbelow_box _ kidsRow))
  unfold kidsRow at HB2 HX2
  by_cases hmk : (m : Int) = 1
  · have hmkB : decide ((m : Int) = 1) = true := decide_eq_true hmk
    have hmkE : ((m : Int) == 1) = true := by simpa using hmk
    have hmkN : ((m : Int) != 1) = false := by simpa using hmk
    have hmkD : decide (m = 1) = true := decide_eq_true (by omega)
    have HMK := Lib.hid hmk
    clear hmk
    go_enter Tryd.func40, Tryd.ntmps40
    go_wp2_with fail
    refine (isName_ref s _ (by have := HSZ.out; unfold maxLen at this; omega)).mono ?_
    rintro e w1 ⟨b, rfl, hb, hbel⟩
    have HB1 := HB2
    clear HB2
    have HB2 := Lib.hid (HB1.out.trans (hbel.mono HB1.out.size))
    have HX1 := HX2
    clear HX2
    have HX2 := Lib.hid (HX1.out.below hbel)
    clear hbel HB1 HX1 HX0 HB0
    obtain ⟨_, y0, y1, y2, y3⟩ := HX2.out
    cases b
    · have HR : Hid (z = 1) := by unfold Hid; rw [HM.out, ownE_noname (by omega) (by rw [HMK.out]; decide) (by decide) (fun h => by have := hb.2 h; cases this)]; rfl
      clear hb
      go_wp2_with fail
      go_ret
      exact ⟨kret_int HR.out.symm, HB2.out⟩
    · have HNUM : Hid (ownE 5 n s m = if n < 0 ∨ 0 < n then 3 else 0) := Lib.hid (ownE_num (k := 5) (n := n) (by omega) (by rw [HMK.out]; decide) (.inl ⟨by decide, hb.1 rfl⟩))
      clear hb
      by_cases c1 : n < 0
      · have HR : Hid (z = 3) := by unfold Hid; have h := HNUM.out; rw [if_pos (.inl c1)] at h; rw [HM.out, h]; rfl
        go_wp2_with fail
        go_ret
        exact ⟨kret_int HR.out.symm, HB2.out⟩
      · have c1B : decide (n < 0) = false := decide_eq_false c1
        by_cases c2 : 0 < n
        · have HR : Hid (z = 3) := by unfold Hid; have h := HNUM.out; rw [if_pos (.inr c2)] at h; rw [HM.out, h]; rfl
          go_wp2_with fail
          go_ret
          exact ⟨kret_int HR.out.symm, HB2.out⟩
        · have c2B : decide (0 < n) = false := decide_eq_false c2
          have HEK : Hid (z = firstE (fun j => (kid j).err) m) := by unfold Hid; have h := HNUM.out; rw [if_neg (by omega)] at h; rw [HM.out, h]; rfl
          clear HM HNUM
          go_wp2_with fail
          go_loopw [7] (fun i wr => ∃ j : Nat, j ≤ m ∧ i = .int .i64 j ∧ firstE (fun j => (kid j).err) j = 0 ∧ XBox wr w.heap.size 5 n s a m c ∧ Below w.heap.size w wr) (fun i _ => m - (intOf i).toNat)
          case atStart => exact ⟨0, Nat.zero_le _, rfl, rfl, HX2.out, HB2.out⟩
          case round =>
            obtain ⟨j, hj, rfl, hf, hx, hb⟩ := hrel
            have HF := Lib.hid hf
            have HB := Lib.hid hb
            have HX := Lib.hid hx
            clear hf hb hx
            obtain ⟨_, y0, y1, y2, y3⟩ := HX.out
            by_cases hlt : j < m
            · have hlt' : (j : Int) < (m : Int) := by omega
              obtain ⟨b, off, rfl, hcell⟩ := HK.out.open (show 0 < m by omega)
              obtain ⟨aj, cj, ⟨x0, x1, x2, x3⟩, hkj⟩ := hcell wr HB.out j hlt
              have HKJ := Lib.hid hkj
              clear hcell hkj
              have x0' : wr.cell? ⟨b, off + j * 4, none⟩ = some (.int .i64 (kid j).k) := x0
              have x1' : wr.cell? ⟨b, off + j * 4 + 1, none⟩ = some (.int .i64 (kid j).n) := x1
              have x2' : wr.cell? ⟨b, off + j * 4 + 2, none⟩ = some (.string (kid j).s) := x2
              have x3' : wr.cell? ⟨b, off + j * 4 + 3, none⟩ = some (.slice aj (kid j).m cj) := x3
              clear x0 x1 x2 x3
              go_wp2_with fail
              refine (HIH.out j aj cj _ HKJ.out).mono ?_
              rintro e w9 ⟨rfl, hb9⟩
              have HB9 := Lib.hid (HB.out.trans (hb9.mono HB.out.size))
              have HX9 := Lib.hid (HX.out.below hb9)
              clear hb9 x0' x1' x2' x3' y0 y1 y2 y3
              by_cases hz : (kid j).err = 0
              · have HF1 : Hid (firstE (fun j => (kid j).err) (j + 1) = 0) := by unfold Hid; rw [firstE_ok HF.out]; exact hz
                rw [hz]
                go_wp2_with fail
                go_roundw
                case rel => exact ⟨j + 1, by omega, by go_num, HF1.out, HX9.out, HB9.out⟩
                case measure => simp [intOf]; omega
              · have hzB : decide ((kid j).err = 0) = false := decide_eq_false hz
                have hzN : ((kid j).err != 0) = true := by simpa using hz
                have HR : Hid (z = (kid j).err) := by unfold Hid; rw [HEK.out, firstE_err (f := fun j => (kid j).err) hlt HF.out hz]
                generalize (kid j).err = y at *
                go_wp2_with fail
                go_ret
                exact ⟨kret_int HR.out.symm, HB9.out⟩
            · have hjm : j = m := by omega
              subst hjm
              have HR : Hid (z = 0) := by unfold Hid; rw [HEK.out, HF.out]
              go_wp2_with fail
              go_ret
              exact ⟨kret_int HR.out.symm, HB.out⟩
  · have hmkB : decide ((m : Int) = 1) = false := decide_eq_false hmk
    have hmkE : ((m : Int) == 1) = false := by simpa using hmk
    have hmkN : ((m : Int) != 1) = true := by simpa using hmk
    have hmkD : decide (m = 1) = false := decide_eq_false (by omega)
    have HR : Hid (z = 1) := by unfold Hid; rw [HM.out, ownE_kids (by omega) (by rw [show kidsOf 5 = 1 by decide]; exact hmk)]; rfl
    go_enter Tryd.func40, Tryd.ntmps40
    go_wp2_with fail
    go_ret
    exact ⟨kret_int HR.out.symm, HB2.out⟩
set_option maxRecDepth 100000 in
set_option maxHeartbeats 4000000 in
theorem wrong_6 (n : Int) (s : ByteArray) (m : Nat) (kid : Nat → Ex) (ih : ∀ j, WrongIs (kid j)) : WrongIs (.mk 6 n s m kid) := by
  intro a c w hk
  show Calls Tryd.prog 40 #[.agg #[.int .i64 6, .int .i64 n, .string s, .slice a m c]] w _
  have hm : m ≤ 9223372036854775807 := by have := hk.many; unfold maxLen at this; exact this
  have HSZ : Hid (s.size ≤ maxLen) := Lib.hid hk.name
  have HK := Lib.hid hk
  have HM := Lib.hid (err_mk 6 n s m kid)
  have HIH := Lib.hid ih
  clear hk ih
  generalize (Ex.mk 6 n s m kid).err = z at *
  have HB0 := Lib.hid (kbelow_box w (.cells #[.int .i64 6, .int .i64 n, .string s, .slice a m c] 50))
  have HX0 := Lib.hid (XBox.made w 6 n s a m c 50)
  have HB2 := Lib.hid (HB0.out.alloc HB0.out.size kidsRow)
  have HX2 := Lib.hid (HX0.out.below (kbelow_box _ kidsRow))
  unfold kidsRow at HB2 HX2
  by_cases hmk : (m : Int) = 1
  · have hmkB : decide ((m : Int) = 1) = true := decide_eq_true hmk
    have hmkE : ((m : Int) == 1) = true := by simpa using hmk
    have hmkN : ((m : Int) != 1) = false := by simpa using hmk
    have hmkD : decide (m = 1) = true := decide_eq_true (by omega)
    have HMK := Lib.hid hmk
    clear hmk
    by_cases hs0 : s.size = 0
    · have HNUM : Hid (ownE 6 n s m = if n < 0 ∨ 0 < n then 3 else 0) := Lib.hid (ownE_num (k := 6) (n := n) (by omega) (by rw [HMK.out]; decide) (.inr ⟨by decide, hs0⟩))
      have hs : s = ByteArray.empty := ByteArray.size_eq_zero_iff.1 hs0
      subst hs
      go_enter Tryd.func40, Tryd.ntmps40
      by_cases c1 : n < 0
      · have HR : Hid (z = 3) := by unfold Hid; have h := HNUM.out; rw [if_pos (.inl c1)] at h; rw [HM.out, h]; rfl
        go_wp2_with fail
        go_ret
        exact ⟨kret_int HR.out.symm, HB2.out⟩
      · have c1B : decide (n < 0) = false := decide_eq_false c1
        by_cases c2 : 0 < n
        · have HR : Hid (z = 3) := by unfold Hid; have h := HNUM.out; rw [if_pos (.inr c2)] at h; rw [HM.out, h]; rfl
          go_wp2_with fail
          go_ret
          exact ⟨kret_int HR.out.symm, HB2.out⟩
        · have c2B : decide (0 < n) = false := decide_eq_false c2
          have HEK : Hid (z = firstE (fun j => (kid j).err) m) := by unfold Hid; have h := HNUM.out; rw [if_neg (by omega)] at h; rw [HM.out, h]; rfl
          clear HM HNUM
          go_wp2_with fail
          go_loopw [7] (fun i wr => ∃ j : Nat, j ≤ m ∧ i = .int .i64 j ∧ firstE (fun j => (kid j).err) j = 0 ∧ XBox wr w.heap.size 6 n ByteArray.empty a m c ∧ Below w.heap.size w wr) (fun i _ => m - (intOf i).toNat)
          case atStart => exact ⟨0, Nat.zero_le _, rfl, rfl, HX2.out, HB2.out⟩
          case round =>
            obtain ⟨j, hj, rfl, hf, hx, hb⟩ := hrel
            have HF := Lib.hid hf
            have HB := Lib.hid hb
            have HX := Lib.hid hx
            clear hf hb hx
            obtain ⟨_, y0, y1, y2, y3⟩ := HX.out
            by_cases hlt : j < m
            · have hlt' : (j : Int) < (m : Int) := by omega
              obtain ⟨b, off, rfl, hcell⟩ := HK.out.open (show 0 < m by omega)
              obtain ⟨aj, cj, ⟨x0, x1, x2, x3⟩, hkj⟩ := hcell wr HB.out j hlt
              have HKJ := Lib.hid hkj
              clear hcell hkj
              have x0' : wr.cell? ⟨b, off + j * 4, none⟩ = some (.int .i64 (kid j).k) := x0
              have x1' : wr.cell? ⟨b, off + j * 4 + 1, none⟩ = some (.int .i64 (kid j).n) := x1
              have x2' : wr.cell? ⟨b, off + j * 4 + 2, none⟩ = some (.string (kid j).s) := x2
              have x3' : wr.cell? ⟨b, off + j * 4 + 3, none⟩ = some (.slice aj (kid j).m cj) := x3
              clear x0 x1 x2 x3
              go_wp2_with fail
              refine (HIH.out j aj cj _ HKJ.out).mono ?_
              rintro e w9 ⟨rfl, hb9⟩
              have HB9 := Lib.hid (HB.out.trans (hb9.mono HB.out.size))
              have HX9 := Lib.hid (HX.out.below hb9)
              clear hb9 x0' x1' x2' x3' y0 y1 y2 y3
              by_cases hz : (kid j).err = 0
              · have HF1 : Hid (firstE (fun j => (kid j).err) (j + 1) = 0) := by unfold Hid; rw [firstE_ok HF.out]; exact hz
                rw [hz]
                go_wp2_with fail
                go_roundw
                case rel => exact ⟨j + 1, by omega, by go_num, HF1.out, HX9.out, HB9.out⟩
                case measure => simp [intOf]; omega
              · have hzB : decide ((kid j).err = 0) = false := decide_eq_false hz
                have hzN : ((kid j).err != 0) = true := by simpa using hz
                have HR : Hid (z = (kid j).err) := by unfold Hid; rw [HEK.out, firstE_err (f := fun j => (kid j).err) hlt HF.out hz]
                generalize (kid j).err = y at *
                go_wp2_with fail
                go_ret
                exact ⟨kret_int HR.out.symm, HB9.out⟩
            · have hjm : j = m := by omega
              subst hjm
              have HR : Hid (z = 0) := by unfold Hid; rw [HEK.out, HF.out]
              go_wp2_with fail
              go_ret
              exact ⟨kret_int HR.out.symm, HB.out⟩
    · have hie := empty_not hs0
      have HR : Hid (z = 1) := by unfold Hid; rw [HM.out, ownE_text (by omega) (by rw [HMK.out]; decide) (by decide) hs0]; rfl
      go_enter Tryd.func40, Tryd.ntmps40
      go_wp2_with fail
      go_ret
      exact ⟨kret_int HR.out.symm, HB2.out⟩
  · have hmkB : decide ((m : Int) = 1) = false := decide_eq_false hmk
    have hmkE : ((m : Int) == 1) = false := by simpa using hmk
    have hmkN : ((m : Int) != 1) = true := by simpa using hmk
    have hmkD : decide (m = 1) = false := decide_eq_false (by omega)
    have HR : Hid (z = 1) := by unfold Hid; rw [HM.out, ownE_kids (by omega) (by rw [show kidsOf 6 = 1 by decide]; exact hmk)]; rfl
    go_enter Tryd.func40, Tryd.ntmps40
    go_wp2_with fail
    go_ret
    exact ⟨kret_int HR.out.symm, HB2.out⟩
end Go.Proofs.YtoingnhiipfnlaaDoor
