/-
  The walk of the law RulesPrints.
-/
import Derived.Test.YtchiifnciijagaaGreatDoorRJ
import Derived.Test.YtchiifnciijagaaGreatDoorJD
set_option linter.unusedSimpArgs false
namespace Go.Proofs.YtchiifnciijagaaGreatDoor
open Go.RowKit

theorem textIs_ok (s : ByteArray) (w : World) : Calls Tryz.prog 12 #[.string s, .int .i64 0, .int .i64 0, .string s] w fun r w' => r = .returned (.bool true) ∧ w' = w := by
  have hs : (s.toList == s.toList) = true := by simp
  go_enter Tryz.func12, Tryz.ntmps12
  go_wp2_with fail
  go_ret
  exact ⟨rfl, rfl⟩
theorem textIs_bad (e : Int) (x : ByteArray) (w : World) (he : e ≠ 0) : Calls Tryz.prog 12 #[.string ⟨#[]⟩, .int .i64 e, .int .i64 e, .string x] w fun r w' => r = .returned (.bool true) ∧ w' = w := by
  have h1 : (e != 0) = true := by simpa using he
  have h2 : (e == 0) = false := by simpa using he
  go_enter Tryz.func12, Tryz.ntmps12
  go_wp2_with fail
  go_ret
  exact ⟨rfl, rfl⟩
set_option maxRecDepth 100000 in
set_option maxHeartbeats 2000000 in
theorem walk_rulesPrints (a : Option Addr) (n cap : Nat) (l : List Ln) {w : World} (hl : CameL w a l) (hn : l.length = n) (hm : n ≤ maxLen) (hP : PVars w ∧ Shp w ∧ Mny.Tab w) :
    Calls Tryz.prog 4 #[.slice a n cap] w fun e w' => e = .returned (.bool true) ∧ Below w.heap.size w w' := by
  have HL := Lib.hid hl
  have HN := Lib.hid hn
  have HM := Lib.hid hm
  have HV : Hid (RVars w) := ⟨hP.1, hP.2.1, hP.2.2⟩
  clear hl hn hm hP
  go_enter Tryz.func4, Tryz.ntmps4
  go_wp2_with fail
  refine (print_rv a n cap l _ HV.out HL.out HN.out HM.out).mono ?_
  rintro e w1 ⟨rfl, hb1⟩
  have HB1 := Lib.hid hb1
  clear hb1
  go_wp2_with fail
  refine (checkLines_ref a n cap l _ (HL.out.below HB1.out) HN.out HM.out).mono ?_
  rintro e w2 ⟨rfl, hb2⟩
  have HB2 := Lib.hid (HB1.out.trans (hb2.mono HB1.out.size))
  clear hb2
  by_cases hz : linesE l = 0
  · have HZ := Lib.hid hz
    rw [hz]
    clear hz
    have HLT := Lib.hid (linesText_any a n cap l w2 (HL.out.below HB2.out) HN.out HZ.out)
    by_cases h4 : (lnsTx l n).length ≤ 4000
    · have hpT : prnT l = lnsTx l n := by unfold prnT; rw [HN.out, if_pos ⟨HZ.out, h4⟩]
      have hpE : prnE l = 0 := by unfold prnE; rw [HN.out, if_pos HZ.out, if_pos h4]
      rw [hpT, hpE]
      have hsz : (⟨(lnsTx l n).toArray⟩ : ByteArray).size ≤ 4000 := by
        have : (⟨(lnsTx l n).toArray⟩ : ByteArray).data.toList.length = (⟨(lnsTx l n).toArray⟩ : ByteArray).size := Array.length_toList
        rw [← this]
        exact h4
      clear hpT hpE h4
      generalize (⟨(lnsTx l n).toArray⟩ : ByteArray) = X at *
      have hszI : ¬ (4000 : Int) < (X.size : Int) := by omega
      go_wp2_with fail
      refine HLT.out.mono ?_
      rintro e w3 ⟨rfl, hb3⟩
      have HB3 := Lib.hid (HB2.out.trans (hb3.mono HB2.out.size))
      clear hb3
      go_wp2_with fail
      refine (rulesBegun_any _ (HV.out.below HB3.out)).mono ?_
      rintro e w4 ⟨rfl, hb4⟩
      have HB4 := Lib.hid (HB3.out.trans (hb4.mono HB3.out.size))
      clear hb4
      go_wp2_with fail
      refine (textIs_ok X w4).mono ?_
      rintro e w5 ⟨rfl, rfl⟩
      go_wp2_with fail
      go_ret
      exact ⟨rfl, HB4.out⟩
    · have hpT : prnT l = [] := by unfold prnT; rw [HN.out, if_neg fun h => h4 h.2]
      have hpE : prnE l = 2 := by unfold prnE; rw [HN.out, if_pos HZ.out, if_neg h4]
      rw [hpT, hpE]
      have hsz : ¬ (⟨(lnsTx l n).toArray⟩ : ByteArray).size ≤ 4000 := by
        have : (⟨(lnsTx l n).toArray⟩ : ByteArray).data.toList.length = (⟨(lnsTx l n).toArray⟩ : ByteArray).size := Array.length_toList
        rw [← this]
        exact h4
      clear hpT hpE h4
      generalize (⟨(lnsTx l n).toArray⟩ : ByteArray) = X at *
      have hszI : (4000 : Int) < (X.size : Int) := by omega
      go_wp2_with fail
      refine HLT.out.mono ?_
      rintro e w3 ⟨rfl, hb3⟩
      have HB3 := Lib.hid (HB2.out.trans (hb3.mono HB2.out.size))
      clear hb3
      go_wp2_with fail
      refine (rulesBegun_any _ (HV.out.below HB3.out)).mono ?_
      rintro e w4 ⟨rfl, hb4⟩
      have HB4 := Lib.hid (HB3.out.trans (hb4.mono HB3.out.size))
      clear hb4
      go_wp2_with fail
      refine (textIs_bad 2 X w4 (by decide)).mono ?_
      rintro e w5 ⟨rfl, rfl⟩
      go_wp2_with fail
      go_ret
      exact ⟨rfl, HB4.out⟩
  · have hpT : prnT l = [] := by unfold prnT; rw [if_neg fun h => hz h.1]
    have hpE : prnE l = linesE l := by unfold prnE; rw [if_neg hz]
    rw [hpT, hpE]
    have HZ := Lib.hid hz
    have hzB : (linesE l == 0) = false := by simp [hz]
    have hzN : (linesE l != 0) = true := by simp [hz]
    clear hz hpT hpE
    generalize linesE l = y at *
    go_wp2_with fail
    refine (rulesBegun_any _ (HV.out.below HB2.out)).mono ?_
    rintro e w4 ⟨rfl, hb4⟩
    have HB4 := Lib.hid (HB2.out.trans (hb4.mono HB2.out.size))
    clear hb4
    go_wp2_with fail
    refine (textIs_bad y _ w4 HZ.out).mono ?_
    rintro e w5 ⟨rfl, rfl⟩
    go_wp2_with fail
    go_ret
    exact ⟨rfl, HB4.out⟩
end Go.Proofs.YtchiifnciijagaaGreatDoor
