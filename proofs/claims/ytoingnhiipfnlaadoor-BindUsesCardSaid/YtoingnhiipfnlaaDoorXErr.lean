/-
  Promise F2: what is wrong with an expression: the walk of checkExpr, over whatever one.
-/
import Derived.Test.YtoingnhiipfnlaaDoorXRefP
namespace Go.Proofs.YtoingnhiipfnlaaDoor
open Go.RowKit

/-- The shapes of expressions lie as the program's text lays them. -/
def Shp (w : World) : Prop := ∀ q : Nat, 1 ≤ q → q ≤ 13 → w.cell? ⟨1, q * 4, none⟩ = some (.int .i64 (kidsOf q)) ∧ w.cell? ⟨1, q * 4 + 1, none⟩ = some (.bool (namedB q)) ∧ w.cell? ⟨1, q * 4 + 2, none⟩ = some (.int .i64 (leastOf q)) ∧ w.cell? ⟨1, q * 4 + 3, none⟩ = some (.int .i64 (mostOf q))
theorem Shp.lt {w : World} (h : Shp w) : 1 < w.heap.size := blt_of_cell (h 1 (by omega) (by omega)).1
theorem Shp.below {w w' : World} (h : Shp w) (hb : Below w.heap.size w w') : Shp w' := fun q h1 h2 => by
  have hB := h.lt
  obtain ⟨c0, c1, c2, c3⟩ := h q h1 h2
  exact ⟨(hb.cell (p := ⟨_, q * 4, none⟩) hB).trans c0, (hb.cell (p := ⟨_, q * 4 + 1, none⟩) hB).trans c1, (hb.cell (p := ⟨_, q * 4 + 2, none⟩) hB).trans c2, (hb.cell (p := ⟨_, q * 4 + 3, none⟩) hB).trans c3⟩
theorem err_mk (k n : Int) (s : ByteArray) (m : Nat) (kid : Nat → Ex) : (Ex.mk k n s m kid).err = if ownE k n s m = 0 then firstE (fun j => (kid j).err) m else ownE k n s m := by rw [Ex.err]
theorem kidsOf_bd (k : Int) : 0 ≤ kidsOf k ∧ kidsOf k ≤ 4 := by unfold kidsOf; (repeat' split) <;> omega
theorem leastOf_bd (k : Int) : 0 ≤ leastOf k ∧ leastOf k ≤ 1 := by unfold leastOf; split <;> omega
theorem mostOf_bd (k : Int) : 0 ≤ mostOf k ∧ mostOf k ≤ 1000000000000 := by unfold mostOf; (repeat' split) <;> omega
theorem ownE_bd (k n : Int) (s : ByteArray) (m : Nat) : 0 ≤ ownE k n s m ∧ ownE k n s m ≤ 7 := by unfold ownE; (repeat' split) <;> omega
theorem firstE_bd {f : Nat → Int} (h : ∀ j, 0 ≤ f j ∧ f j ≤ 7) (m : Nat) : 0 ≤ firstE f m ∧ firstE f m ≤ 7 := by
  induction m with
  | zero => exact ⟨by simp [firstE], by simp [firstE]⟩
  | succ q ih =>
    by_cases e : firstE f q = 0
    · rw [firstE_ok e]; exact h q
    · have : firstE f (q + 1) = firstE f q := by simp [firstE, e]
      rw [this]; exact ih
theorem err_bd (x : Ex) : 0 ≤ x.err ∧ x.err ≤ 7 := by
  induction x with
  | no => simp [Ex.err]
  | mk k n s m kid ih =>
    rw [err_mk]
    split
    · exact firstE_bd ih m
    · exact ownE_bd k n s m
theorem ownE_kind {k n : Int} {s : ByteArray} {m : Nat} (h : k < 1 ∨ 13 < k) : ownE k n s m = 7 := by unfold ownE; rw [if_pos h]
theorem ownE_kids {k n : Int} {s : ByteArray} {m : Nat} (h : ¬ (k < 1 ∨ 13 < k)) (h1 : (m : Int) ≠ kidsOf k) : ownE k n s m = 1 := by unfold ownE; rw [if_neg h, if_pos h1]
theorem ownE_noname {k n : Int} {s : ByteArray} {m : Nat} (h : ¬ (k < 1 ∨ 13 < k)) (h1 : (m : Int) = kidsOf k) (h2 : namedB k = true) (h3 : ¬ NameP s) : ownE k n s m = 1 := by unfold ownE; rw [if_neg h, if_neg (by simpa using h1), if_pos ⟨h2, h3⟩]
theorem ownE_text {k n : Int} {s : ByteArray} {m : Nat} (h : ¬ (k < 1 ∨ 13 < k)) (h1 : (m : Int) = kidsOf k) (h2 : namedB k = false) (h3 : s.size ≠ 0) : ownE k n s m = 1 := by unfold ownE; rw [if_neg h, if_neg (by simpa using h1), if_neg (by simp [h2]), if_pos ⟨h2, h3⟩]
/-- Its name is as it must be. -/
def NameFits (k : Int) (s : ByteArray) : Prop := (namedB k = true ∧ NameP s) ∨ (namedB k = false ∧ s.size = 0)
theorem ownE_num {k n : Int} {s : ByteArray} {m : Nat} (h : ¬ (k < 1 ∨ 13 < k)) (h1 : (m : Int) = kidsOf k) (h2 : NameFits k s) : ownE k n s m = if n < leastOf k ∨ mostOf k < n then 3 else 0 := by
  unfold ownE
  rcases h2 with ⟨a, b⟩ | ⟨a, b⟩
  · rw [if_neg h, if_neg (by simpa using h1), if_neg (fun h => h.2 b), if_neg (by simp [a])]
  · rw [if_neg h, if_neg (by simpa using h1), if_neg (by simp [a]), if_neg (fun h => h.2 b)]
theorem empty_not {s : ByteArray} (h0 : s.size ≠ 0) : s.toList.isEmpty = false := by
  cases h : s.toList with
  | nil => exact absurd ((toList_nil_iff_emptyBytes s).1 h) (fun e => h0 (by rw [e]; rfl))
  | cons x l => rfl
/-- A shape in its box. -/
def SBox (w : World) (b : Nat) (k : Int) (nm : Bool) (l m : Int) : Prop := b < w.heap.size ∧ w.cell? ⟨b, 0, none⟩ = some (.int .i64 k) ∧ w.cell? ⟨b, 1, none⟩ = some (.bool nm) ∧ w.cell? ⟨b, 2, none⟩ = some (.int .i64 l) ∧ w.cell? ⟨b, 3, none⟩ = some (.int .i64 m)
theorem SBox.made (w : World) (o : Obj) (k : Int) (nm : Bool) (l m : Int) (T : TypeId) : SBox ((w.alloc o).alloc (.cells #[.int .i64 k, .bool nm, .int .i64 l, .int .i64 m] T)) (w.heap.size + 1) k nm l m := by
  refine ⟨?_, ?_, ?_, ?_, ?_⟩ <;> simp
theorem SBox.below {w w' : World} {b : Nat} {k : Int} {nm : Bool} {l m : Int} (h : SBox w b k nm l m) (hb : Below w.heap.size w w') : SBox w' b k nm l m :=
  ⟨Nat.lt_of_lt_of_le h.1 hb.size, (hb.cell (p := ⟨b, 0, none⟩) h.1).trans h.2.1, (hb.cell (p := ⟨b, 1, none⟩) h.1).trans h.2.2.1, (hb.cell (p := ⟨b, 2, none⟩) h.1).trans h.2.2.2.1, (hb.cell (p := ⟨b, 3, none⟩) h.1).trans h.2.2.2.2⟩
set_option maxRecDepth 100000 in
set_option maxHeartbeats 4000000 in
theorem checkExpr_any (x : Ex) : ∀ (a : Option Addr) (c : Nat) (w : World), Shp w → KidsAt w x a →
    Calls Tryd.prog 96 #[.agg #[.int .i64 x.k, .int .i64 x.n, .string x.s, .slice a x.m c]] w fun e w' => e = .returned (.int .i64 x.err) ∧ Below w.heap.size w w' := by
  induction x with
  | no => intro a c w _ h; exact h.elim
  | mk k n s m kid ih =>
    intro a c w hS hk
    show Calls Tryd.prog 96 #[.agg #[.int .i64 k, .int .i64 n, .string s, .slice a m c]] w _
    have hm : m ≤ 9223372036854775807 := by have := hk.many; unfold maxLen at this; exact this
    have HK := Lib.hid hk
    have HS := Lib.hid hS
    have HB0 := Lib.hid (kbelow_box w (.cells #[.int .i64 k, .int .i64 n, .string s, .slice a m c] 50))
    have HX0 := Lib.hid (XBox.made w k n s a m c 50)
    have HM := Lib.hid (err_mk k n s m kid)
    have HIH := Lib.hid ih
    clear hk ih hS
    generalize (Ex.mk k n s m kid).err = z at *
    by_cases hk1 : k < 1
    · have HR : Hid (z = 7) := by unfold Hid; rw [HM.out, ownE_kind (.inl hk1)]; rfl
      go_enter Tryd.func96, Tryd.ntmps96
      go_wp2_with fail
      go_ret
      exact ⟨kret_int HR.out.symm, HB0.out⟩
    · have hk1B : decide (k < 1) = false := decide_eq_false hk1
      by_cases hk2 : 13 < k
      · have HR : Hid (z = 7) := by unfold Hid; rw [HM.out, ownE_kind (.inr hk2)]; rfl
        go_enter Tryd.func96, Tryd.ntmps96
        go_wp2_with fail
        go_ret
        exact ⟨kret_int HR.out.symm, HB0.out⟩
      · have hk2B : decide (13 < k) = false := decide_eq_false hk2
        obtain ⟨q, rfl⟩ : ∃ q : Nat, k = (q : Int) := ⟨k.toNat, by omega⟩
        have HKD : Hid (¬ ((q : Int) < 1 ∨ 13 < (q : Int))) := by unfold Hid; omega
        have hG := HS.out.lt
        have hq14 : (q : Int) < 14 := by omega
        obtain ⟨s0, s1, s2, s3⟩ := HS.out.below HB0.out q (by omega) (by omega)
        obtain ⟨_, y0, y1, y2, y3⟩ := HX0.out
        by_cases hmk : (m : Int) = kidsOf q
        · have hmkB : decide ((m : Int) = kidsOf q) = true := decide_eq_true hmk
          have hmkN : ((m : Int) != kidsOf q) = false := by simpa using hmk
          have HMK := Lib.hid hmk
          clear hmk
          cases hnm : namedB q
          · rw [hnm] at s1
            have HB2 := Lib.hid (HB0.out.alloc HB0.out.size (.cells #[.int .i64 (kidsOf q), .bool false, .int .i64 (leastOf q), .int .i64 (mostOf q)] 151))
            by_cases hs0 : s.size = 0
            · have HNUM := Lib.hid (ownE_num (n := n) HKD.out HMK.out (.inr ⟨hnm, hs0⟩))
              have hs : s = ByteArray.empty := ByteArray.size_eq_zero_iff.1 hs0
              subst hs
              go_enter Tryd.func96, Tryd.ntmps96
              by_cases c1 : n < leastOf q
              · have HR : Hid (z = 3) := by unfold Hid; have h := HNUM.out; rw [if_pos (.inl c1)] at h; rw [HM.out, h]; rfl
                go_wp2_with fail
                go_ret
                exact ⟨kret_int HR.out.symm, HB2.out⟩
              · have c1B : decide (n < leastOf q) = false := decide_eq_false c1
                by_cases c2 : mostOf q < n
                · have HR : Hid (z = 3) := by unfold Hid; have h := HNUM.out; rw [if_pos (.inr c2)] at h; rw [HM.out, h]; rfl
                  go_wp2_with fail
                  go_ret
                  exact ⟨kret_int HR.out.symm, HB2.out⟩
                · have c2B : decide (mostOf q < n) = false := decide_eq_false c2
                  have HEK : Hid (z = firstE (fun j => (kid j).err) m) := by unfold Hid; have h := HNUM.out; rw [if_neg (by omega)] at h; rw [HM.out, h]; rfl
                  clear HM HNUM
                  go_wp2_with fail
                  go_loopw [59] (fun i wr => ∃ j : Nat, j ≤ m ∧ i = .int .i64 j ∧ firstE (fun j => (kid j).err) j = 0 ∧ Below w.heap.size w wr) (fun i _ => m - (intOf i).toNat)
                  case atStart => exact ⟨0, Nat.zero_le _, rfl, rfl, HB2.out⟩
                  case round =>
                    obtain ⟨j, hj, rfl, hf, hb⟩ := hrel
                    have HF := Lib.hid hf
                    have HB := Lib.hid hb
                    clear hf hb
                    by_cases hlt : j < m
                    · have hlt' : (j : Int) < (m : Int) := by omega
                      obtain ⟨b, off, rfl, hcell⟩ := HK.out.open (show 0 < m by omega)
                      obtain ⟨aj, cj, ⟨x0, x1, x2, x3⟩, hkj⟩ := hcell wr HB.out j hlt
                      have HKJ := Lib.hid hkj
                      clear hcell hkj
                      have x0' : wr.cell? ⟨b, off + j * 4, none⟩ = some (.int .i64 (kid j).k) := x0
                      have x1' : wr.cell? ⟨b, off + j * 4 + 1, none⟩ = some (.int .i64 (kid j).n) := x1
                      have x2' : wr.cell? ⟨b, off + j * 4 + 2, none⟩ = some (.string (kid j).s) := x2
                      have x3' : wr.cell? ⟨b, off + j * 4 + 3, none⟩ = some (.slice aj (kid j).m cj) := x3
                      clear x0 x1 x2 x3
                      have HBJ := Lib.hid (kbelow_box wr (.cells #[.int .i64 (kid j).k, .int .i64 (kid j).n, .string (kid j).s, .slice aj (kid j).m cj] 50))
                      go_wp2_with fail
                      refine (HIH.out j aj cj _ ((HS.out.below HB.out).below HBJ.out) (HKJ.out.below HBJ.out)).mono ?_
                      rintro e w9 ⟨rfl, hb9⟩
                      have HB9 := Lib.hid (HB.out.trans ((HBJ.out.trans (hb9.mono HBJ.out.size)).mono HB.out.size))
                      clear hb9 x0' x1' x2' x3'
                      by_cases hz : (kid j).err = 0
                      · have HF1 : Hid (firstE (fun j => (kid j).err) (j + 1) = 0) := by unfold Hid; rw [firstE_ok HF.out]; exact hz
                        rw [hz]
                        go_wp2_with fail
                        go_roundw
                        case rel => exact ⟨j + 1, by omega, by go_num, HF1.out, HB9.out⟩
                        case measure => simp [intOf]; omega
                      · have hzB : decide ((kid j).err = 0) = false := decide_eq_false hz
                        have hzN : ((kid j).err != 0) = true := by simpa using hz
                        have HR : Hid (z = (kid j).err) := by unfold Hid; rw [HEK.out, firstE_err (f := fun j => (kid j).err) hlt HF.out hz]
                        generalize (kid j).err = y at *
                        go_wp2_with fail
                        go_ret
                        exact ⟨kret_int HR.out.symm, HB9.out⟩
                    · have hjm : j = m := by omega
                      subst hjm
                      have HR : Hid (z = 0) := by unfold Hid; rw [HEK.out, HF.out]
                      go_wp2_with fail
                      go_ret
                      exact ⟨kret_int HR.out.symm, HB.out⟩
            · have hie := empty_not hs0
              have HR : Hid (z = 1) := by unfold Hid; rw [HM.out, ownE_text HKD.out HMK.out hnm hs0]; rfl
              go_enter Tryd.func96, Tryd.ntmps96
              go_wp2_with fail
              go_ret
              exact ⟨kret_int HR.out.symm, HB2.out⟩
          · rw [hnm] at s1
            have HB1 := Lib.hid (HB0.out.alloc HB0.out.size (.cells #[.int .i64 (kidsOf q), .bool true, .int .i64 (leastOf q), .int .i64 (mostOf q)] 151))
            have HXB := Lib.hid (HX0.out.below (kbelow_box _ (.cells #[.int .i64 (kidsOf q), .bool true, .int .i64 (leastOf q), .int .i64 (mostOf q)] 151)))
            have HSB := Lib.hid (SBox.made w (.cells #[.int .i64 q, .int .i64 n, .string s, .slice a m c] 50) (kidsOf q) true (leastOf q) (mostOf q) 151)
            go_enter Tryd.func96, Tryd.ntmps96
            go_wp2_with fail
            refine (IsName_any s _).mono ?_
            rintro e w1 ⟨b, rfl, hb, hbel⟩
            have HB2 := Lib.hid (HB1.out.trans (hbel.mono HB1.out.size))
            clear y0 y1 y2 y3 s0 s1 s2 s3
            obtain ⟨_, y0, y1, y2, y3⟩ := HXB.out.below hbel
            obtain ⟨_, s0, s1, s2, s3⟩ := HSB.out.below hbel
            clear hbel HXB HSB HB1 HX0 HB0
            cases b
            · have HR : Hid (z = 1) := by unfold Hid; rw [HM.out, ownE_noname HKD.out HMK.out hnm (fun h => by have := hb.2 h; cases this)]; rfl
              clear hb
              go_wp2_with fail
              go_ret
              exact ⟨kret_int HR.out.symm, HB2.out⟩
            · have HNUM := Lib.hid (ownE_num (n := n) HKD.out HMK.out (.inl ⟨hnm, hb.1 rfl⟩))
              clear hb
              by_cases c1 : n < leastOf q
              · have HR : Hid (z = 3) := by unfold Hid; have h := HNUM.out; rw [if_pos (.inl c1)] at h; rw [HM.out, h]; rfl
                go_wp2_with fail
                go_ret
                exact ⟨kret_int HR.out.symm, HB2.out⟩
              · have c1B : decide (n < leastOf q) = false := decide_eq_false c1
                by_cases c2 : mostOf q < n
                · have HR : Hid (z = 3) := by unfold Hid; have h := HNUM.out; rw [if_pos (.inr c2)] at h; rw [HM.out, h]; rfl
                  go_wp2_with fail
                  go_ret
                  exact ⟨kret_int HR.out.symm, HB2.out⟩
                · have c2B : decide (mostOf q < n) = false := decide_eq_false c2
                  have HEK : Hid (z = firstE (fun j => (kid j).err) m) := by unfold Hid; have h := HNUM.out; rw [if_neg (by omega)] at h; rw [HM.out, h]; rfl
                  clear HM HNUM
                  go_wp2_with fail
                  go_loopw [59] (fun i wr => ∃ j : Nat, j ≤ m ∧ i = .int .i64 j ∧ firstE (fun j => (kid j).err) j = 0 ∧ Below w.heap.size w wr) (fun i _ => m - (intOf i).toNat)
                  case atStart => exact ⟨0, Nat.zero_le _, rfl, rfl, HB2.out⟩
                  case round =>
                    obtain ⟨j, hj, rfl, hf, hb⟩ := hrel
                    have HF := Lib.hid hf
                    have HB := Lib.hid hb
                    clear hf hb
                    by_cases hlt : j < m
                    · have hlt' : (j : Int) < (m : Int) := by omega
                      obtain ⟨b, off, rfl, hcell⟩ := HK.out.open (show 0 < m by omega)
                      obtain ⟨aj, cj, ⟨x0, x1, x2, x3⟩, hkj⟩ := hcell wr HB.out j hlt
                      have HKJ := Lib.hid hkj
                      clear hcell hkj
                      have x0' : wr.cell? ⟨b, off + j * 4, none⟩ = some (.int .i64 (kid j).k) := x0
                      have x1' : wr.cell? ⟨b, off + j * 4 + 1, none⟩ = some (.int .i64 (kid j).n) := x1
                      have x2' : wr.cell? ⟨b, off + j * 4 + 2, none⟩ = some (.string (kid j).s) := x2
                      have x3' : wr.cell? ⟨b, off + j * 4 + 3, none⟩ = some (.slice aj (kid j).m cj) := x3
                      clear x0 x1 x2 x3
                      have HBJ := Lib.hid (kbelow_box wr (.cells #[.int .i64 (kid j).k, .int .i64 (kid j).n, .string (kid j).s, .slice aj (kid j).m cj] 50))
                      go_wp2_with fail
                      refine (HIH.out j aj cj _ ((HS.out.below HB.out).below HBJ.out) (HKJ.out.below HBJ.out)).mono ?_
                      rintro e w9 ⟨rfl, hb9⟩
                      have HB9 := Lib.hid (HB.out.trans ((HBJ.out.trans (hb9.mono HBJ.out.size)).mono HB.out.size))
                      clear hb9 x0' x1' x2' x3'
                      by_cases hz : (kid j).err = 0
                      · have HF1 : Hid (firstE (fun j => (kid j).err) (j + 1) = 0) := by unfold Hid; rw [firstE_ok HF.out]; exact hz
                        rw [hz]
                        go_wp2_with fail
                        go_roundw
                        case rel => exact ⟨j + 1, by omega, by go_num, HF1.out, HB9.out⟩
                        case measure => simp [intOf]; omega
                      · have hzB : decide ((kid j).err = 0) = false := decide_eq_false hz
                        have hzN : ((kid j).err != 0) = true := by simpa using hz
                        have HR : Hid (z = (kid j).err) := by unfold Hid; rw [HEK.out, firstE_err (f := fun j => (kid j).err) hlt HF.out hz]
                        generalize (kid j).err = y at *
                        go_wp2_with fail
                        go_ret
                        exact ⟨kret_int HR.out.symm, HB9.out⟩
                    · have hjm : j = m := by omega
                      subst hjm
                      have HR : Hid (z = 0) := by unfold Hid; rw [HEK.out, HF.out]
                      go_wp2_with fail
                      go_ret
                      exact ⟨kret_int HR.out.symm, HB.out⟩
        · have hmkB : decide ((m : Int) = kidsOf q) = false := decide_eq_false hmk
          have hmkN : ((m : Int) != kidsOf q) = true := by simpa using hmk
          have HB2 := Lib.hid (HB0.out.alloc HB0.out.size (.cells #[.int .i64 (kidsOf q), .bool (namedB q), .int .i64 (leastOf q), .int .i64 (mostOf q)] 151))
          have HR : Hid (z = 1) := by unfold Hid; rw [HM.out, ownE_kids HKD.out hmk]; rfl
          go_enter Tryd.func96, Tryd.ntmps96
          go_wp2_with fail
          go_ret
          exact ⟨kret_int HR.out.symm, HB2.out⟩
end Go.Proofs.YtoingnhiipfnlaaDoor
