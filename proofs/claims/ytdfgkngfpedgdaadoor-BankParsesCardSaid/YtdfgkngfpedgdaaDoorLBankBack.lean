/-
  Promise P5: the walk of the law BankBack: it answers true at every input.
-/
import Derived.Test.YtdfgkngfpedgdaaDoorBBack
import Derived.Test.YtdfgkngfpedgdaaDoorLBankRejects
namespace Go.Proofs.YtdfgkngfpedgdaaDoor
open Go.RowKit

theorem GrowP.came {w : World} {B n : Nat} {v : Value} {l : List Py} (h : GrowP w B v l) (hn : l.length = n) : ∃ x c, v = .slice x n c ∧ CameP w x l := by
  subst hn
  exact h.slice
theorem below_drewN {w : World} (q : Nat) : Below w.heap.size w (w.drewN q) := by
  have h := Below.refl w.heap.size w
  exact ⟨h.os, h.tape, h.output, h.size, h.block⟩
set_option maxRecDepth 100000 in
set_option maxHeartbeats 2000000 in
theorem walk_bankBack {w : World} (day : Int) (_ : (Lit.int .i64 day).wf = true) (a : Option Addr) (n cap : Nat) (l : List Py) (hc : CameP w a l) (hn : l.length = n) (hm : n ≤ maxLen) (hf : ∀ j, j < n → FitP (pnth l j)) (s : ByteArray) (hs0 : s.size ≤ 140737488351232) (ht : Tab w) :
    Calls Tryd.prog 7 #[.int .i64 day, .slice a n cap, .string s] w fun e w' => e = .returned (.bool true) ∧ Below w.heap.size w w' := by
  have hmI : n ≤ 9223372036854775807 := by unfold maxLen at hm; omega
  have hs : s.size ≤ 9223372036854775807 := by omega
  have HK := Lib.hid (fun w ht hc => Print_any day a n cap l w ht hc hf hn hmI)
  have HT := Lib.hid ht
  have HC := Lib.hid hc
  have HN := Lib.hid hn
  clear ht hc hn hf hm hs0
  by_cases hp : prE day l n = 0
  · obtain ⟨hF, hD, hLs, hCm⟩ := cmp_back hp HN.out
    have HPT : Hid (prT day l n = fileT day l n) := by unfold Hid prT; rw [if_pos hp]
    have hFs : (fileT day l n).size ≤ 9223372036854775807 := by have := hF.2.2.2; have := hF.2.1; omega
    have HPA : Hid (∀ w, Tab w → Calls Tryd.prog 21 #[.string (fileT day l n)] w fun e w' => Below w.heap.size w w' ∧ ∃ x c, e = .returned (.tuple #[.int .i64 day, .slice x n c, .agg #[.int .i64 0, .int .i64 0]]) ∧ CameP w' x l) := fun w ht => (Parse_any _ w ht hFs).mono fun e w' h => by
      obtain ⟨h1, ⟨_, v, h2, h3⟩ | ⟨h2, _⟩⟩ := h.form hF
      · rw [hD] at h2
        rw [hLs] at h3
        obtain ⟨x, c, rfl, h4⟩ := h3.came HN.out
        exact ⟨h1, x, c, h2, h4⟩
      · rw [hD, hLs] at h2
        exact absurd hCm h2
    rw [hp, HPT.out] at HK
    clear hp hF hD hLs hCm hFs HPT
    generalize fileT day l n = FT at *
    go_enter Tryd.func7, Tryd.ntmps7
    go_wp2_with fail
    refine (begun_any _ HT.out).mono ?_
    rintro e w1 ⟨rfl, hb1⟩
    have HB1 := Lib.hid hb1
    clear hb1
    go_wp2_with fail
    refine (HK.out _ (HT.out.below HB1.out) (HC.out.below HB1.out)).mono ?_
    rintro e w2 ⟨rfl, hb2⟩
    have HB2 := Lib.hid (HB1.out.trans (hb2.mono HB1.out.size))
    clear hb2
    go_wp2_with fail
    refine (HPA.out _ (HT.out.below HB2.out)).mono ?_
    rintro e w3 ⟨hb3, x, c, rfl, hx⟩
    have HB3 := Lib.hid ((HB2.out.trans (hb3.mono HB2.out.size)).alloc (by have := HB2.out.size; have := hb3.size; omega) (.cells #[.int .i64 0, .int .i64 0] 38))
    have HX := Lib.hid (hx.below (bbelow_box w3 (.cells #[.int .i64 0, .int .i64 0] 38)))
    clear hb3 hx
    go_wp2_with fail
    refine (samePayments_ref a x n cap c l _ (HC.out.below HB3.out) HX.out HN.out hmI).mono ?_
    rintro e w4 ⟨rfl, q, h4⟩
    subst h4
    have HBX := Lib.hid (HB3.out.trans ((below_drewN q).mono HB3.out.size))
    clear HX
    go_wp2_with fail
    refine (Parse_any s _ (HT.out.below HBX.out) hs).mono ?_
    rintro e wy ⟨hby, ⟨c, v, h1, h2, rfl, h4⟩ | ⟨er, at', h1, rfl, h3⟩⟩
    · have HBY := Lib.hid (HBX.out.trans (hby.mono HBX.out.size))
      have HBZ := Lib.hid (HBY.out.alloc HBY.out.size (.cells #[.int .i64 0, .int .i64 0] 38))
      obtain ⟨hpr, hft⟩ := cmp_zero h2
      obtain ⟨xa, xc, hv, hcm⟩ := h4.came (lnsOf_len s c)
      subst hv
      have HPR := Lib.hid (Print_any (dayT s) xa c xc (lnsOf s c) (wy.alloc (.cells #[.int .i64 0, .int .i64 0] 38)) (HT.out.below HBZ.out) (hcm.below (bbelow_box _ _)) h1.fit (lnsOf_len s c) (by have := h1.2.1; omega))
      have HPT : Hid (prT (dayT s) (lnsOf s c) c = s) := by unfold Hid prT; rw [if_pos hpr]; exact hft
      rw [hpr, HPT.out] at HPR
      clear hby h1 h2 h4 hcm hpr hft HPT
      generalize dayT s = dy at *
      go_wp2_with fail
      refine HPR.out.mono ?_
      rintro e w9 ⟨rfl, hb9⟩
      have HB9 := Lib.hid (HBZ.out.trans (hb9.mono HBZ.out.size))
      clear hb9
      go_wp2_with fail
      go_ret
      exact ⟨rfl, HB9.out⟩
    · have HBY := Lib.hid (HBX.out.trans (hby.mono HBX.out.size))
      have HBZ := Lib.hid (HBY.out.alloc HBY.out.size (.cells #[.int .i64 er, .int .i64 at'] 38))
      have herD : decide (er = 0) = false := decide_eq_false h1
      have herB : (er == 0) = false := by simpa using h1
      clear hby h3
      go_wp2_with fail
      go_ret
      exact ⟨rfl, HBZ.out⟩
  · have hpD : decide (prE day l n = 0) = false := decide_eq_false hp
    have hpB : (prE day l n == 0) = false := by simpa using hp
    generalize prE day l n = pe at *
    generalize prT day l n = pt at *
    go_enter Tryd.func7, Tryd.ntmps7
    go_wp2_with fail
    refine (begun_any _ HT.out).mono ?_
    rintro e w1 ⟨rfl, hb1⟩
    have HB1 := Lib.hid hb1
    clear hb1
    go_wp2_with fail
    refine (HK.out _ (HT.out.below HB1.out) (HC.out.below HB1.out)).mono ?_
    rintro e w2 ⟨rfl, hb2⟩
    have HBX := Lib.hid (HB1.out.trans (hb2.mono HB1.out.size))
    clear hb2
    go_wp2_with fail
    refine (Parse_any s _ (HT.out.below HBX.out) hs).mono ?_
    rintro e wy ⟨hby, ⟨c, v, h1, h2, rfl, h4⟩ | ⟨er, at', h1, rfl, h3⟩⟩
    · have HBY := Lib.hid (HBX.out.trans (hby.mono HBX.out.size))
      have HBZ := Lib.hid (HBY.out.alloc HBY.out.size (.cells #[.int .i64 0, .int .i64 0] 38))
      obtain ⟨hpr, hft⟩ := cmp_zero h2
      obtain ⟨xa, xc, hv, hcm⟩ := h4.came (lnsOf_len s c)
      subst hv
      have HPR := Lib.hid (Print_any (dayT s) xa c xc (lnsOf s c) (wy.alloc (.cells #[.int .i64 0, .int .i64 0] 38)) (HT.out.below HBZ.out) (hcm.below (bbelow_box _ _)) h1.fit (lnsOf_len s c) (by have := h1.2.1; omega))
      have HPT : Hid (prT (dayT s) (lnsOf s c) c = s) := by unfold Hid prT; rw [if_pos hpr]; exact hft
      rw [hpr, HPT.out] at HPR
      clear hby h1 h2 h4 hcm hpr hft HPT
      generalize dayT s = dy at *
      go_wp2_with fail
      refine HPR.out.mono ?_
      rintro e w9 ⟨rfl, hb9⟩
      have HB9 := Lib.hid (HBZ.out.trans (hb9.mono HBZ.out.size))
      clear hb9
      go_wp2_with fail
      go_ret
      exact ⟨rfl, HB9.out⟩
    · have HBY := Lib.hid (HBX.out.trans (hby.mono HBX.out.size))
      have HBZ := Lib.hid (HBY.out.alloc HBY.out.size (.cells #[.int .i64 er, .int .i64 at'] 38))
      have herD : decide (er = 0) = false := decide_eq_false h1
      have herB : (er == 0) = false := by simpa using h1
      clear hby h3
      go_wp2_with fail
      go_ret
      exact ⟨rfl, HBZ.out⟩
end Go.Proofs.YtdfgkngfpedgdaaDoor
