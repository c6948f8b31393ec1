/-
  The walk of the law TotalOf: it answers true at every input.
-/
import Derived.Test.YtfamnlaignjhkaaOOfW
namespace Go.Proofs.Ytfamnlaignjhkaa
open Go.RowKit Go.Sort

set_option maxRecDepth 100000 in
set_option maxHeartbeats 2000000 in
theorem walk_totalOf (a : Option Addr) (n cap : Nat) (l : List Tt) {w : World} (hc : CameO w a l) (hn : l.length = n) (hm : n ≤ maxLen) (hf : NFit l) (p : Int) (_ : (Lit.int .i64 p).wf = true) (y : Int) (_ : (Lit.int .i64 y).wf = true) :
    Calls Try.prog 5 #[.slice a n cap, .int .i64 p, .int .i64 y] w fun e w' => e = .returned (.bool true) ∧ Go.RowKit.Below w.heap.size w w' := by
  have HC := Lib.hid hc
  have HM := Lib.hid hm
  have HN := Lib.hid hn
  have HF := Lib.hid hf
  have HE : Hid (ofE l p y = if totE l = 0 then (if perB p = true ∧ yrB y = true then 0 else 3) else totE l) := rfl
  clear hm hc hn hf
  go_enter Try.func5, Try.ntmps5
  go_wp2_with fail
  refine (Of_any a n cap l p y _ HC.out HN.out HM.out).mono ?_
  rintro e w1 ⟨x, c, rfl, hx, hb⟩
  have HB1 := Lib.hid hb
  have HC1 := Lib.hid (HC.out.below hb)
  have HXC := Lib.hid hx
  clear hb hx
  go_wp2_with fail
  refine (checkTotals_ref a n cap l false _ HC1.out HF.out HN.out HM.out).mono ?_
  rintro e w2 ⟨rfl, hb⟩
  have HB2 := Lib.hid (HB1.out.trans (hb.mono HB1.out.size))
  have HC2 := Lib.hid (HC1.out.below hb)
  have HXC2 := Lib.hid (HXC.out.below hb)
  clear hb
  rw [show refE false l = totE l from rfl]
  by_cases h0 : totE l = 0
  · have H4 := Lib.hid (totE_ok h0).2.1
    rw [if_pos h0] at HE
    rw [h0]
    clear h0
    by_cases q1 : p < 1
    · have e1 : ofE l p y = 3 := by rw [HE.out, if_neg (fun h => by have := of_decide_eq_true h.1; omega)]
      have d1 : decide (p < 1) = true := decide_eq_true q1
      have e2 : ofR l p y = [] := by unfold ofR; rw [e1]; rfl
      rw [e1, e2]
      have HBQ := HB2
      have HXE : Hid (CameAo w2 x []) := Lib.hid (.inl rfl)
      have HYE : Hid (CameAo w2 none []) := Lib.hid (.inl rfl)
      have HLZ : Hid (([] : List Ao).length = 0) := rfl
      clear e1 e2 HE HXC HXC2
      rw [show ([] : List Ao).length = 0 from rfl]
      go_wp2_with fail
      refine (totalBegun_any _).mono ?_
      rintro e w5 ⟨rfl, hb⟩
      have HB5 := Lib.hid (HBQ.out.trans (hb.mono HBQ.out.size))
      have HXQ := Lib.hid (CameAo.below HXE.out hb)
      have HYQ := Lib.hid (CameAo.below HYE.out hb)
      clear hb
      go_wp2_with fail
      refine (sameAmounts_yes x none _ c 0 [] _ HXQ.out HYQ.out HLZ.out (by omega)).mono ?_
      rintro e w6 ⟨rfl, hb⟩
      have HB6 := Lib.hid (HB5.out.trans (hb.mono HB5.out.size))
      clear hb
      go_wp2_with fail
      go_ret
      exact ⟨oret_bool (by simp), HB6.out⟩
    · have d1 : decide (p < 1) = false := decide_eq_false q1
      by_cases q2 : 999 < p
      · have e1 : ofE l p y = 3 := by rw [HE.out, if_neg (fun h => by have := of_decide_eq_true h.1; omega)]
        have d2 : decide (999 < p) = true := decide_eq_true q2
        have e2 : ofR l p y = [] := by unfold ofR; rw [e1]; rfl
        rw [e1, e2]
        have HBQ := HB2
        have HXE : Hid (CameAo w2 x []) := Lib.hid (.inl rfl)
        have HYE : Hid (CameAo w2 none []) := Lib.hid (.inl rfl)
        have HLZ : Hid (([] : List Ao).length = 0) := rfl
        clear e1 e2 HE HXC HXC2
        rw [show ([] : List Ao).length = 0 from rfl]
        go_wp2_with fail
        refine (totalBegun_any _).mono ?_
        rintro e w5 ⟨rfl, hb⟩
        have HB5 := Lib.hid (HBQ.out.trans (hb.mono HBQ.out.size))
        have HXQ := Lib.hid (CameAo.below HXE.out hb)
        have HYQ := Lib.hid (CameAo.below HYE.out hb)
        clear hb
        go_wp2_with fail
        refine (sameAmounts_yes x none _ c 0 [] _ HXQ.out HYQ.out HLZ.out (by omega)).mono ?_
        rintro e w6 ⟨rfl, hb⟩
        have HB6 := Lib.hid (HB5.out.trans (hb.mono HB5.out.size))
        clear hb
        go_wp2_with fail
        go_ret
        exact ⟨oret_bool (by simp), HB6.out⟩
      · have d2 : decide (999 < p) = false := decide_eq_false q2
        by_cases q3 : y < 2000
        · have e1 : ofE l p y = 3 := by rw [HE.out, if_neg (fun h => by have := of_decide_eq_true h.2; omega)]
          have d3 : decide (y < 2000) = true := decide_eq_true q3
          have e2 : ofR l p y = [] := by unfold ofR; rw [e1]; rfl
          rw [e1, e2]
          have HBQ := HB2
          have HXE : Hid (CameAo w2 x []) := Lib.hid (.inl rfl)
          have HYE : Hid (CameAo w2 none []) := Lib.hid (.inl rfl)
          have HLZ : Hid (([] : List Ao).length = 0) := rfl
          clear e1 e2 HE HXC HXC2
          rw [show ([] : List Ao).length = 0 from rfl]
          go_wp2_with fail
          refine (totalBegun_any _).mono ?_
          rintro e w5 ⟨rfl, hb⟩
          have HB5 := Lib.hid (HBQ.out.trans (hb.mono HBQ.out.size))
          have HXQ := Lib.hid (CameAo.below HXE.out hb)
          have HYQ := Lib.hid (CameAo.below HYE.out hb)
          clear hb
          go_wp2_with fail
          refine (sameAmounts_yes x none _ c 0 [] _ HXQ.out HYQ.out HLZ.out (by omega)).mono ?_
          rintro e w6 ⟨rfl, hb⟩
          have HB6 := Lib.hid (HB5.out.trans (hb.mono HB5.out.size))
          clear hb
          go_wp2_with fail
          go_ret
          exact ⟨oret_bool (by simp), HB6.out⟩
        · have d3 : decide (y < 2000) = false := decide_eq_false q3
          by_cases q4 : 2199 < y
          · have e1 : ofE l p y = 3 := by rw [HE.out, if_neg (fun h => by have := of_decide_eq_true h.2; omega)]
            have d4 : decide (2199 < y) = true := decide_eq_true q4
            have e2 : ofR l p y = [] := by unfold ofR; rw [e1]; rfl
            rw [e1, e2]
            have HBQ := HB2
            have HXE : Hid (CameAo w2 x []) := Lib.hid (.inl rfl)
            have HYE : Hid (CameAo w2 none []) := Lib.hid (.inl rfl)
            have HLZ : Hid (([] : List Ao).length = 0) := rfl
            clear e1 e2 HE HXC HXC2
            rw [show ([] : List Ao).length = 0 from rfl]
            go_wp2_with fail
            refine (totalBegun_any _).mono ?_
            rintro e w5 ⟨rfl, hb⟩
            have HB5 := Lib.hid (HBQ.out.trans (hb.mono HBQ.out.size))
            have HXQ := Lib.hid (CameAo.below HXE.out hb)
            have HYQ := Lib.hid (CameAo.below HYE.out hb)
            clear hb
            go_wp2_with fail
            refine (sameAmounts_yes x none _ c 0 [] _ HXQ.out HYQ.out HLZ.out (by omega)).mono ?_
            rintro e w6 ⟨rfl, hb⟩
            have HB6 := Lib.hid (HB5.out.trans (hb.mono HB5.out.size))
            clear hb
            go_wp2_with fail
            go_ret
            exact ⟨oret_bool (by simp), HB6.out⟩
          · have d4 : decide (2199 < y) = false := decide_eq_false q4
            have e1 : ofE l p y = 0 := by rw [HE.out, if_pos ⟨decide_eq_true (by omega), decide_eq_true (by omega)⟩]
            have e2 : ofR l p y = ofL p y l := by unfold ofR; rw [e1]; rfl
            rw [e2] at HXC2
            rw [e1, e2]
            have HSR := Lib.hid (fun w hc => totalsOf_ref a n cap l p y w hc HN.out (by have := H4.out; have := HN.out; omega))
            have HLL : Hid ((ofL p y l).length ≤ 1000) := Lib.hid (by have := ofL_len p y l; have := H4.out; omega)
            obtain ⟨L, hL⟩ : ∃ L, ofL p y l = L := ⟨_, rfl⟩
            rw [hL] at HXC2 HSR HLL ⊢
            obtain ⟨m, hm9⟩ : ∃ m, L.length = m := ⟨_, rfl⟩
            rw [hm9] at HSR HLL ⊢
            have HM9 := Lib.hid hm9
            clear hL hm9 e1 e2 HE HXC
            go_wp2_with fail
            refine (HSR.out _ HC2.out).mono ?_
            rintro e w4 ⟨yv, yc, rfl, hyc, hb⟩
            have HBQ := Lib.hid (HB2.out.trans (hb.mono HB2.out.size))
            have HXE := Lib.hid (HXC2.out.below hb)
            have HYE := Lib.hid hyc
            clear hb hyc
            go_wp2_with fail
            refine (totalBegun_any _).mono ?_
            rintro e w5 ⟨rfl, hb⟩
            have HB5 := Lib.hid (HBQ.out.trans (hb.mono HBQ.out.size))
            have HXQ := Lib.hid (CameAo.below HXE.out hb)
            have HYQ := Lib.hid (CameAo.below HYE.out hb)
            clear hb
            go_wp2_with fail
            refine (sameAmounts_yes x yv _ c yc L _ HXQ.out HYQ.out HM9.out HLL.out).mono ?_
            rintro e w6 ⟨rfl, hb⟩
            have HB6 := Lib.hid (HB5.out.trans (hb.mono HB5.out.size))
            clear hb
            go_wp2_with fail
            go_ret
            exact ⟨oret_bool (by simp), HB6.out⟩
  · have h0' : (totE l == 0) = false := by simp [h0]
    rw [if_neg h0] at HE
    have e2 : ofR l p y = [] := by unfold ofR; rw [HE.out, if_neg h0]
    rw [HE.out, e2]
    obtain ⟨er, hc⟩ : ∃ c, totE l = c := ⟨_, rfl⟩
    rw [hc] at h0' ⊢
    have HBQ := HB2
    have HXE : Hid (CameAo w2 x []) := Lib.hid (.inl rfl)
    have HYE : Hid (CameAo w2 none []) := Lib.hid (.inl rfl)
    have HLZ : Hid (([] : List Ao).length = 0) := rfl
    clear h0 hc e2 HE HXC HXC2
    rw [show ([] : List Ao).length = 0 from rfl]
    go_wp2_with fail
    refine (totalBegun_any _).mono ?_
    rintro e w5 ⟨rfl, hb⟩
    have HB5 := Lib.hid (HBQ.out.trans (hb.mono HBQ.out.size))
    have HXQ := Lib.hid (CameAo.below HXE.out hb)
    have HYQ := Lib.hid (CameAo.below HYE.out hb)
    clear hb
    go_wp2_with fail
    refine (sameAmounts_yes x none _ c 0 [] _ HXQ.out HYQ.out HLZ.out (by omega)).mono ?_
    rintro e w6 ⟨rfl, hb⟩
    have HB6 := Lib.hid (HB5.out.trans (hb.mono HB5.out.size))
    clear hb
    go_wp2_with fail
    go_ret
    exact ⟨oret_bool (by simp), HB6.out⟩
end Go.Proofs.Ytfamnlaignjhkaa
