/-
  The walk of the law TotalSums: it answers true at every input.
-/
import Derived.Test.YtfamnlaignjhkaaOSum
namespace Go.Proofs.Ytfamnlaignjhkaa
open Go.RowKit Go.Sort

set_option maxRecDepth 100000 in
set_option maxHeartbeats 2000000 in
theorem walk_totalSums (a : Option Addr) (n cap : Nat) (l : List Tt) {w : World} (hc : CameO w a l) (hn : l.length = n) (hm : n ≤ maxLen) (hf : NFit l) (s : ByteArray) (hs : s.size ≤ maxLen) (y : Int) (_ : (Lit.int .i64 y).wf = true) :
    Calls Try.prog 6 #[.slice a n cap, .string s, .int .i64 y] w fun e w' => e = .returned (.bool true) ∧ Go.RowKit.Below w.heap.size w w' := by
  have HC := Lib.hid hc
  have HM := Lib.hid hm
  have HN := Lib.hid hn
  have HF := Lib.hid hf
  have HSZ : Hid (s.size ≤ 9223372036854775807) := Lib.hid (by unfold maxLen at hs; omega)
  have HE : Hid (sumE l s y = if totE l = 0 then (if namB s = true then (if yrB y = true then 0 else 3) else 1) else totE l) := rfl
  have HV : Hid (sumV l s y = if sumE l s y = 0 then sumNY s y l else 0) := rfl
  clear hm hc hn hf hs
  go_enter Try.func6, Try.ntmps6
  go_wp2_with fail
  refine (Sum_any a n cap l s y _ HC.out HN.out HM.out).mono ?_
  rintro e w1 ⟨rfl, hb⟩
  have HB1 := Lib.hid hb
  have HC1 := Lib.hid (HC.out.below hb)
  clear hb
  go_wp2_with fail
  refine (checkTotals_ref a n cap l false _ HC1.out HF.out HN.out HM.out).mono ?_
  rintro e w2 ⟨rfl, hb⟩
  have HB2 := Lib.hid (HB1.out.trans (hb.mono HB1.out.size))
  have HC2 := Lib.hid (HC1.out.below hb)
  clear hb
  rw [show refE false l = totE l from rfl]
  by_cases h0 : totE l = 0
  · have H0 := Lib.hid h0
    rw [if_pos h0] at HE
    rw [h0]
    clear h0
    go_wp2_with fail
    refine (isName_ref s _ HSZ.out).mono ?_
    rintro e w3 ⟨bn, rfl, hbn, hbel⟩
    have HB3 := Lib.hid (HB2.out.trans (hbel.mono HB2.out.size))
    have HC3 := Lib.hid (HC2.out.below hbel)
    clear hbel
    cases bn
    · have hnb : namB s = false := decide_eq_false (fun h => by have := hbn.2 h; cases this)
      rw [hnb] at HE
      have e1 : sumE l s y = 1 := HE.out
      have e2 : sumV l s y = 0 := by rw [HV.out, e1]; rfl
      rw [e1, e2]
      have HBQ := HB3
      clear hbn hnb e1 e2 HE HV
      go_wp2_with fail
      refine (totalBegun_any _).mono ?_
      rintro e w5 ⟨rfl, hb⟩
      have HB5 := Lib.hid (HBQ.out.trans (hb.mono HBQ.out.size))
      clear hb
      go_wp2_with fail
      refine (numberIs_same 0 1 _ (fun _ => rfl)).mono ?_
      rintro e w' ⟨rfl, h'⟩
      subst w'
      go_wp2_with fail
      go_ret
      exact ⟨oret_bool (by simp), HB5.out⟩
    · have hnb : namB s = true := decide_eq_true (hbn.1 rfl)
      rw [hnb] at HE
      clear hbn hnb
      by_cases hy1 : y < 2000
      · have hyb : yrB y = false := decide_eq_false (by omega)
        rw [hyb] at HE
        have e1 : sumE l s y = 3 := HE.out
        have e2 : sumV l s y = 0 := by rw [HV.out, e1]; rfl
        rw [e1, e2]
        have hd1 : decide (y < 2000) = true := decide_eq_true hy1
        have HBQ := HB3
        clear hyb e1 e2 HE HV
        go_wp2_with fail
        refine (totalBegun_any _).mono ?_
        rintro e w5 ⟨rfl, hb⟩
        have HB5 := Lib.hid (HBQ.out.trans (hb.mono HBQ.out.size))
        clear hb
        go_wp2_with fail
        refine (numberIs_same 0 3 _ (fun _ => rfl)).mono ?_
        rintro e w' ⟨rfl, h'⟩
        subst w'
        go_wp2_with fail
        go_ret
        exact ⟨oret_bool (by simp), HB5.out⟩
      · have hd1 : decide (y < 2000) = false := decide_eq_false hy1
        by_cases hy2 : 2199 < y
        · have hyb : yrB y = false := decide_eq_false (by omega)
          rw [hyb] at HE
          have e1 : sumE l s y = 3 := HE.out
          have e2 : sumV l s y = 0 := by rw [HV.out, e1]; rfl
          rw [e1, e2]
          have hd2 : decide (2199 < y) = true := decide_eq_true hy2
          have HBQ := HB3
          clear hyb e1 e2 HE HV
          go_wp2_with fail
          refine (totalBegun_any _).mono ?_
          rintro e w5 ⟨rfl, hb⟩
          have HB5 := Lib.hid (HBQ.out.trans (hb.mono HBQ.out.size))
          clear hb
          go_wp2_with fail
          refine (numberIs_same 0 3 _ (fun _ => rfl)).mono ?_
          rintro e w' ⟨rfl, h'⟩
          subst w'
          go_wp2_with fail
          go_ret
          exact ⟨oret_bool (by simp), HB5.out⟩
        · have hyb : yrB y = true := decide_eq_true (by omega)
          rw [hyb] at HE
          have e1 : sumE l s y = 0 := HE.out
          have e2 : sumV l s y = sumNY s y l := by rw [HV.out, e1]; rfl
          rw [e1, e2]
          have hd2 : decide (2199 < y) = false := decide_eq_false hy2
          clear hyb e1 e2 HE HV
          have HSR := Lib.hid (fun w hc => sumOf_ref a n cap l s y w hc HN.out H0.out)
          obtain ⟨c, hcc⟩ : ∃ c, sumNY s y l = c := ⟨_, rfl⟩
          rw [hcc] at HSR ⊢
          clear hcc
          go_wp2_with fail
          refine (HSR.out _ HC3.out).mono ?_
          rintro e w4 ⟨rfl, hb⟩
          have HBQ := Lib.hid (HB3.out.trans (hb.mono HB3.out.size))
          clear hb
          go_wp2_with fail
          refine (totalBegun_any _).mono ?_
          rintro e w5 ⟨rfl, hb⟩
          have HB5 := Lib.hid (HBQ.out.trans (hb.mono HBQ.out.size))
          clear hb
          go_wp2_with fail
          refine (numberIs_same c 0 _ (fun h => absurd rfl h)).mono ?_
          rintro e w' ⟨rfl, h'⟩
          subst w'
          go_wp2_with fail
          go_ret
          exact ⟨oret_bool (by simp), HB5.out⟩
  · rw [if_neg h0] at HE
    have e2 : sumV l s y = 0 := by rw [HV.out, HE.out, if_neg h0]
    rw [HE.out, e2]
    have h0' : (totE l == 0) = false := by simp [h0]
    obtain ⟨c, hc⟩ : ∃ c, totE l = c := ⟨_, rfl⟩
    rw [hc] at h0' ⊢
    have HBQ := HB2
    clear h0 hc e2 HE HV
    go_wp2_with fail
    refine (totalBegun_any _).mono ?_
    rintro e w5 ⟨rfl, hb⟩
    have HB5 := Lib.hid (HBQ.out.trans (hb.mono HBQ.out.size))
    clear hb
    go_wp2_with fail
    refine (numberIs_same 0 c _ (fun _ => rfl)).mono ?_
    rintro e w' ⟨rfl, h'⟩
    subst w'
    go_wp2_with fail
    go_ret
    exact ⟨oret_bool (by simp), HB5.out⟩
end Go.Proofs.Ytfamnlaignjhkaa
