/-
  The walks of the laws BracketTaxes and BracketRates: they answer true at every table and every base.
-/
import Derived.Test.YtmiijmgidbbmhaaKOn
namespace Go.Proofs.Ytmiijmgidbbmhaa
open Go.RowKit

set_option maxRecDepth 100000 in
set_option maxHeartbeats 1000000 in
theorem walk_bracketTaxes (s : ByteArray) (hs : s.size ≤ 9223372036854775807) (a : Option Addr) (n cap : Nat) (l : List Bk) {w : World} (hcw : CameB w a l) (hn : l.length = n) (hm : n ≤ maxLen) (base : Int) (_ : (Lit.int .i64 base).wf = true) :
    Calls Try.prog 4 #[.agg #[.string s, .slice a n cap], .int .i64 base] w fun e w' => e = .returned (.bool true) ∧ Below w.heap.size w w' := by
  have HC := Lib.hid hcw
  have HM := Lib.hid hm
  clear hm hcw
  have HB0 := Lib.hid (kbelow_box w (.cells #[.string s, .slice a n cap] 24))
  have HT0 := Lib.hid (TIs.made w s a n cap 24)
  go_enter Try.func4, Try.ntmps4
  go_wp2_with fail
  refine (Tax_any s a n cap l base _ (HC.out.below HB0.out) hn HM.out).mono ?_
  rintro e w1 ⟨rfl, hb⟩
  have HB1 := Lib.hid (HB0.out.trans (hb.mono HB0.out.size))
  have HT1 := Lib.hid (HT0.out.below hb HT0.out.1)
  clear hb
  obtain ⟨_, x0, x1⟩ := HT1.out
  go_wp2_with fail
  refine (onTable_any s a n cap l base (-1000000000000) _ hs (HC.out.below HB1.out) hn HM.out).mono ?_
  rintro e w2 ⟨rfl, hb⟩
  have HB2 := Lib.hid (HB1.out.trans (hb.mono HB1.out.size))
  have HT2 := Lib.hid (HT1.out.below hb HT1.out.1)
  clear hb x0 x1
  obtain ⟨_, x0, x1⟩ := HT2.out
  rw [onE_base]
  by_cases h0 : baseE s l base = 0
  · have HR : Hid (taxR s l base = taxN l base) := by unfold Hid taxR; rw [if_pos h0]
    obtain ⟨hl, hb1, hb2, _⟩ := baseE_ok h0
    have HL := Lib.hid hl
    rw [h0, HR.out]
    clear hl
    go_wp2_with fail
    refine (taxOf_ref s a n cap l base _ (HC.out.below HB2.out) hn HL.out hb1 hb2).mono ?_
    rintro e w3 ⟨rfl, hb⟩
    have HB3 := Lib.hid (HB2.out.trans (hb.mono HB2.out.size))
    clear hb
    go_wp2_with fail
    refine (begun_any _).mono ?_
    rintro e w4 ⟨rfl, hb⟩
    have HB4 := Lib.hid (HB3.out.trans (hb.mono HB3.out.size))
    clear hb
    go_wp2_with fail
    refine (numberIs_same _ _ _ (fun h => absurd rfl h)).mono ?_
    rintro e w5 ⟨rfl, rfl⟩
    go_wp2_with fail
    go_ret
    exact ⟨rfl, HB4.out⟩
  · have HR : Hid (taxR s l base = 0) := by unfold Hid taxR; rw [if_neg h0]
    have h0N : (baseE s l base == 0) = false := by simp [h0]
    have h0B : decide (baseE s l base = 0) = false := decide_eq_false h0
    rw [HR.out]
    go_wp2_with fail
    refine (begun_any _).mono ?_
    rintro e w4 ⟨rfl, hb⟩
    have HB4 := Lib.hid (HB2.out.trans (hb.mono HB2.out.size))
    clear hb
    go_wp2_with fail
    refine (numberIs_same _ _ _ (fun _ => rfl)).mono ?_
    rintro e w5 ⟨rfl, rfl⟩
    go_wp2_with fail
    go_ret
    exact ⟨rfl, HB4.out⟩
set_option maxRecDepth 100000 in
set_option maxHeartbeats 1000000 in
theorem walk_bracketRates (s : ByteArray) (hs : s.size ≤ 9223372036854775807) (a : Option Addr) (n cap : Nat) (l : List Bk) {w : World} (hcw : CameB w a l) (hn : l.length = n) (hm : n ≤ maxLen) (base : Int) (_ : (Lit.int .i64 base).wf = true) :
    Calls Try.prog 5 #[.agg #[.string s, .slice a n cap], .int .i64 base] w fun e w' => e = .returned (.bool true) ∧ Below w.heap.size w w' := by
  have HC := Lib.hid hcw
  have HM := Lib.hid hm
  clear hm hcw
  have HB0 := Lib.hid (kbelow_box w (.cells #[.string s, .slice a n cap] 24))
  have HT0 := Lib.hid (TIs.made w s a n cap 24)
  go_enter Try.func5, Try.ntmps5
  go_wp2_with fail
  refine (Rate_any s a n cap l base _ (HC.out.below HB0.out) hn HM.out).mono ?_
  rintro e w1 ⟨rfl, hb⟩
  have HB1 := Lib.hid (HB0.out.trans (hb.mono HB0.out.size))
  have HT1 := Lib.hid (HT0.out.below hb HT0.out.1)
  clear hb
  obtain ⟨_, x0, x1⟩ := HT1.out
  go_wp2_with fail
  refine (onTable_any s a n cap l base (-1000000000000) _ hs (HC.out.below HB1.out) hn HM.out).mono ?_
  rintro e w2 ⟨rfl, hb⟩
  have HB2 := Lib.hid (HB1.out.trans (hb.mono HB1.out.size))
  have HT2 := Lib.hid (HT1.out.below hb HT1.out.1)
  clear hb x0 x1
  obtain ⟨_, x0, x1⟩ := HT2.out
  rw [onE_base]
  by_cases h0 : baseE s l base = 0
  · have HR : Hid (rateR s l base = rateN l base) := by unfold Hid rateR; rw [if_pos h0]
    obtain ⟨hl, hb1, hb2, _⟩ := baseE_ok h0
    have HL := Lib.hid hl
    rw [h0, HR.out]
    clear hl
    go_wp2_with fail
    refine (rateOf_ref s a n cap l base _ (HC.out.below HB2.out) hn (by rw [← hn]; exact HL.out.1) (by rw [← hn]; exact HL.out.2.1)).mono ?_
    rintro e w3 ⟨rfl, hb⟩
    have HB3 := Lib.hid (HB2.out.trans (hb.mono HB2.out.size))
    clear hb
    go_wp2_with fail
    refine (begun_any _).mono ?_
    rintro e w4 ⟨rfl, hb⟩
    have HB4 := Lib.hid (HB3.out.trans (hb.mono HB3.out.size))
    clear hb
    go_wp2_with fail
    refine (numberIs_same _ _ _ (fun h => absurd rfl h)).mono ?_
    rintro e w5 ⟨rfl, rfl⟩
    go_wp2_with fail
    go_ret
    exact ⟨rfl, HB4.out⟩
  · have HR : Hid (rateR s l base = 0) := by unfold Hid rateR; rw [if_neg h0]
    have h0N : (baseE s l base == 0) = false := by simp [h0]
    have h0B : decide (baseE s l base = 0) = false := decide_eq_false h0
    rw [HR.out]
    go_wp2_with fail
    refine (begun_any _).mono ?_
    rintro e w4 ⟨rfl, hb⟩
    have HB4 := Lib.hid (HB2.out.trans (hb.mono HB2.out.size))
    clear hb
    go_wp2_with fail
    refine (numberIs_same _ _ _ (fun _ => rfl)).mono ?_
    rintro e w5 ⟨rfl, rfl⟩
    go_wp2_with fail
    go_ret
    exact ⟨rfl, HB4.out⟩
end Go.Proofs.Ytmiijmgidbbmhaa
