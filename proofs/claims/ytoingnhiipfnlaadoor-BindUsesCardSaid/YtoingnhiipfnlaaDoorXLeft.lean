/-
  Promise F2: the walk of partsLeft, over whatever expression.
-/
import Derived.Test.YtoingnhiipfnlaaDoorXSpec
namespace Go.Proofs.YtoingnhiipfnlaaDoor
open Go.RowKit

theorem left_bd (x : Ex) {d l : Int} (hd : 0 ≤ d) (hl : 0 ≤ l) : -1 ≤ x.left d l ∧ x.left d l ≤ l := by
  have h := left_eq x d.toNat l.toNat
  rw [show ((d.toNat : Nat) : Int) = d by omega, show ((l.toNat : Nat) : Int) = l by omega] at h
  rw [h]
  split <;> omega
theorem left_mk (k n : Int) (s : ByteArray) (m : Nat) (kid : Nat → Ex) (d l : Int) : (Ex.mk k n s m kid).left d l = if d = 0 ∨ l = 0 then -1 else kidsI (fun j r => (kid j).left (d - 1) r) m (l - 1) := by rw [Ex.left]
set_option maxRecDepth 100000 in
set_option maxHeartbeats 2000000 in
theorem partsLeft_any (x : Ex) : ∀ (a : Option Addr) (c : Nat) (d l : Int) (w : World), 0 ≤ d → d ≤ 20 → 0 ≤ l → l ≤ 4000 → KidsAt w x a →
    Calls Tryd.prog 95 #[.agg #[.int .i64 x.k, .int .i64 x.n, .string x.s, .slice a x.m c], .int .i64 d, .int .i64 l] w fun e w' => e = .returned (.int .i64 (x.left d l)) ∧ Below w.heap.size w w' := by
  induction x with
  | no => intro a c d l w _ _ _ _ h; exact h.elim
  | mk k n s m kid ih =>
    intro a c d l w hd hd' hl hl' hk
    show Calls Tryd.prog 95 #[.agg #[.int .i64 k, .int .i64 n, .string s, .slice a m c], .int .i64 d, .int .i64 l] w _
    have hm : m ≤ 9223372036854775807 := by have := hk.many; unfold maxLen at this; exact this
    have HK := Lib.hid hk
    have HB0 := Lib.hid (kbelow_box w (.cells #[.int .i64 k, .int .i64 n, .string s, .slice a m c] 50))
    have HM := Lib.hid (left_mk k n s m kid d l)
    have HIH := Lib.hid ih
    clear hk ih
    by_cases hd0 : d = 0
    · have HE : Hid ((Ex.mk k n s m kid).left d l = -1) := by unfold Hid; rw [HM.out, if_pos (.inl hd0)]
      clear HM
      generalize (Ex.mk k n s m kid).left d l = z at *
      subst hd0
      go_enter Tryd.func95, Tryd.ntmps95
      go_wp2_with fail
      go_ret
      exact ⟨kret_int HE.out.symm, HB0.out⟩
    · have hdB : decide (d = 0) = false := decide_eq_false hd0
      have hdE : (d == 0) = false := by simpa using hd0
      by_cases hl0 : l = 0
      · have HE : Hid ((Ex.mk k n s m kid).left d l = -1) := by unfold Hid; rw [HM.out, if_pos (.inr hl0)]
        clear HM
        generalize (Ex.mk k n s m kid).left d l = z at *
        subst hl0
        go_enter Tryd.func95, Tryd.ntmps95
        go_wp2_with fail
        go_ret
        exact ⟨kret_int HE.out.symm, HB0.out⟩
      · have hlB : decide (l = 0) = false := decide_eq_false hl0
        have hlE : (l == 0) = false := by simpa using hl0
        have HE : Hid ((Ex.mk k n s m kid).left d l = kidsI (fun j r => (kid j).left (d - 1) r) m (l - 1)) := by unfold Hid; rw [HM.out, if_neg (by omega)]
        clear HM
        generalize (Ex.mk k n s m kid).left d l = z at *
        go_enter Tryd.func95, Tryd.ntmps95
        go_wp2_with fail
        go_loopw [2, 20] (fun lv i wr => ∃ (j : Nat) (r : Int), j ≤ m ∧ i = .int .i64 j ∧ lv = .int .i64 r ∧ 0 ≤ r ∧ r ≤ 4000 ∧ kidsI (fun j r => (kid j).left (d - 1) r) j (l - 1) = r ∧ Below w.heap.size w wr) (fun _ i _ => m - (intOf i).toNat)
        case atStart => exact ⟨0, l - 1, Nat.zero_le _, rfl, by go_num, by omega, by omega, rfl, HB0.out⟩
        case round =>
          obtain ⟨j, r, hj, rfl, rfl, hr0, hr1, hf, hb⟩ := hrel
          have HF := Lib.hid hf
          have HB := Lib.hid hb
          clear hf hb
          by_cases hlt : j < m
          · have hlt' : (j : Int) < (m : Int) := by omega
            obtain ⟨b, off, rfl, hcell⟩ := HK.out.open (show 0 < m by omega)
            obtain ⟨aj, cj, ⟨x0, x1, x2, x3⟩, hkj⟩ := hcell wr HB.out j hlt
            have HKJ := Lib.hid hkj
            clear hcell hkj
            have x0' : wr.cell? ⟨b, off + j * 4, none⟩ = some (.int .i64 (kid j).k) := x0
            have x1' : wr.cell? ⟨b, off + j * 4 + 1, none⟩ = some (.int .i64 (kid j).n) := x1
            have x2' : wr.cell? ⟨b, off + j * 4 + 2, none⟩ = some (.string (kid j).s) := x2
            have x3' : wr.cell? ⟨b, off + j * 4 + 3, none⟩ = some (.slice aj (kid j).m cj) := x3
            clear x0 x1 x2 x3
            have HBJ := Lib.hid (kbelow_box wr (.cells #[.int .i64 (kid j).k, .int .i64 (kid j).n, .string (kid j).s, .slice aj (kid j).m cj] 50))
            go_wp2_with fail
            refine (HIH.out j aj cj (d - 1) r _ (by omega) (by omega) hr0 hr1 (HKJ.out.below HBJ.out)).mono ?_
            rintro e w1 ⟨rfl, hb1⟩
            have HB1 := Lib.hid (HB.out.trans ((HBJ.out.trans (hb1.mono HBJ.out.size)).mono HB.out.size))
            have hbd := left_bd (kid j) (d := d - 1) (l := r) (by omega) hr0
            clear hb1 x0' x1' x2' x3'
            by_cases hneg : (kid j).left (d - 1) r < 0
            · have HR : Hid (z = (kid j).left (d - 1) r) := by
                unfold Hid
                rw [HE.out, kidsI_neg (f := fun j r => (kid j).left (d - 1) r) hlt (by rw [HF.out]; omega) (by rw [HF.out]; exact hneg), HF.out]
              generalize (kid j).left (d - 1) r = y at *
              go_wp2_with fail
              go_ret
              exact ⟨kret_int HR.out.symm, HB1.out⟩
            · have hnB : decide ((kid j).left (d - 1) r < 0) = false := decide_eq_false hneg
              have HN : Hid (kidsI (fun j r => (kid j).left (d - 1) r) (j + 1) (l - 1) = (kid j).left (d - 1) r) := by
                unfold Hid
                show (if kidsI (fun j r => (kid j).left (d - 1) r) j (l - 1) < 0 then _ else _) = _
                rw [HF.out, if_neg (by omega)]
              generalize (kid j).left (d - 1) r = y at *
              go_wp2_with fail
              go_roundw
              case rel => exact ⟨j + 1, y, by omega, by go_num, rfl, by omega, by omega, HN.out, HB1.out⟩
              case measure => simp [intOf]; omega
          · have hkn : j = m := by omega
            subst hkn
            have HR : Hid (z = r) := by unfold Hid; rw [HE.out, HF.out]
            go_wp2_with fail
            go_ret
            exact ⟨kret_int HR.out.symm, HB.out⟩
end Go.Proofs.YtoingnhiipfnlaaDoor
