/-
  The walk of the law BracketGross: it answers true at every table and every net.
-/
import Derived.Test.YtmiijmgidbbmhaaKOn
namespace Go.Proofs.Ytmiijmgidbbmhaa
open Go.RowKit

set_option maxRecDepth 100000 in
set_option maxHeartbeats 1000000 in
theorem walk_bracketGross (s : ByteArray) (hs : s.size ≤ 9223372036854775807) (a : Option Addr) (n cap : Nat) (l : List Bk) {w : World} (hcw : CameB w a l) (hn : l.length = n) (hm : n ≤ maxLen) (net : Int) (_ : (Lit.int .i64 net).wf = true) :
    Calls Try.prog 6 #[.agg #[.string s, .slice a n cap], .int .i64 net] w fun e w' => e = .returned (.bool true) ∧ Below w.heap.size w w' := by
  have HC := Lib.hid hcw
  have HM := Lib.hid hm
  clear hm hcw
  have HB0 := Lib.hid (kbelow_box w (.cells #[.string s, .slice a n cap] 24))
  have HT0 := Lib.hid (TIs.made w s a n cap 24)
  go_enter Try.func6, Try.ntmps6
  go_wp2_with fail
  refine (Gross_any s a n cap l net _ (HC.out.below HB0.out) hn HM.out).mono ?_
  rintro e w1 ⟨g, er, rfl, hg, hb⟩
  have HB1 := Lib.hid (HB0.out.trans (hb.mono HB0.out.size))
  have HT1 := Lib.hid (HT0.out.below hb HT0.out.1)
  clear hb
  obtain ⟨_, x0, x1⟩ := HT1.out
  go_wp2_with fail
  refine (onTable_any s a n cap l net 0 _ hs (HC.out.below HB1.out) hn HM.out).mono ?_
  rintro e w2 ⟨rfl, hb⟩
  have HB2 := Lib.hid (HB1.out.trans (hb.mono HB1.out.size))
  have HT2 := Lib.hid (HT1.out.below hb HT1.out.1)
  clear hb x0 x1
  obtain ⟨_, x0, x1⟩ := HT2.out
  rcases hg with ⟨h0, rfl, rfl⟩ | ⟨h0, ⟨hnet, rfl, rfl⟩ | ⟨hnet, i, hi, h⟩⟩
  · rw [onE_tbl h0]
    have h0N : (tblE s l == 0) = false := by simp [h0]
    have h0M : (tblE s l != 0) = true := by simp [h0]
    have h0B : decide (tblE s l = 0) = false := decide_eq_false h0
    have HBX := HB2
    go_wp2_with fail
    refine (begun_any _).mono ?_
    rintro e w5 ⟨rfl, hb⟩
    have HB5 := Lib.hid (HBX.out.trans (hb.mono HBX.out.size))
    clear hb
    go_wp2_with fail
    refine (begun_any _).mono ?_
    rintro e w6 ⟨rfl, hb⟩
    have HB6 := Lib.hid (HB5.out.trans (hb.mono HB5.out.size))
    clear hb
    go_wp2_with fail
    go_ret
    exact ⟨kret_bool (by simp), HB6.out⟩
  · rw [onE_far h0 (by omega)]
    have HBX := HB2
    go_wp2_with fail
    refine (begun_any _).mono ?_
    rintro e w5 ⟨rfl, hb⟩
    have HB5 := Lib.hid (HBX.out.trans (hb.mono HBX.out.size))
    clear hb
    go_wp2_with fail
    refine (begun_any _).mono ?_
    rintro e w6 ⟨rfl, hb⟩
    have HB6 := Lib.hid (HB5.out.trans (hb.mono HB5.out.size))
    clear hb
    go_wp2_with fail
    go_ret
    exact ⟨kret_bool (by simp), HB6.out⟩
  · rw [onE_yes h0 (by omega)]
    have hl := (tblE_ok h0).2
    have HL := Lib.hid hl
    have HI := Lib.hid hi
    clear hl hi h0
    have htm := tax_le HL.out 1000000000000
    go_wp2_with fail
    refine (taxOf_ref s a n cap l 1000000000000 _ (HC.out.below HB2.out) hn HL.out (by omega) (by omega)).mono ?_
    rintro e w3 ⟨rfl, hb⟩
    have HB3 := Lib.hid (HB2.out.trans (hb.mono HB2.out.size))
    have HT3 := Lib.hid (HT2.out.below hb HT2.out.1)
    clear hb x0 x1
    obtain ⟨_, x0, x1⟩ := HT3.out
    rcases h with ⟨h, rfl, rfl⟩ | ⟨h, rfl, rfl⟩
    · have hno : 1000000000000 - taxN l 1000000000000 < net := by
        have := of_decide_eq_false (HI.out.2.2.1 1000000000000 (by omega) h)
        omega
      generalize taxN l 1000000000000 = v at *
      have HBX := HB3
      go_wp2_with fail
      refine (begun_any _).mono ?_
      rintro e w5 ⟨rfl, hb⟩
      have HB5 := Lib.hid (HBX.out.trans (hb.mono HBX.out.size))
      clear hb
      go_wp2_with fail
      refine (begun_any _).mono ?_
      rintro e w6 ⟨rfl, hb⟩
      have HB6 := Lib.hid (HB5.out.trans (hb.mono HB5.out.size))
      clear hb
      go_wp2_with fail
      go_ret
      exact ⟨kret_bool (by simp), HB6.out⟩
    · have hi0 := HI.out.1
      have hup := left_up HL.out h
      have hok : net ≤ g - taxN l g := of_decide_eq_true (HI.out.2.2.2 h)
      have hno : decide (1000000000000 - taxN l 1000000000000 < net) = false := decide_eq_false (by omega)
      have hno' : ¬ (1000000000000 - taxN l 1000000000000 < net) := by omega
      have htg := tax_le HL.out g
      go_wp2_with fail
      refine (begun_any _).mono ?_
      rintro e w5 ⟨rfl, hb⟩
      have HB5 := Lib.hid (HB3.out.trans (hb.mono HB3.out.size))
      have HT5 := Lib.hid (HT3.out.below hb HT3.out.1)
      clear hb x0 x1
      obtain ⟨_, x0, x1⟩ := HT5.out
      go_wp2_with fail
      refine (taxOf_ref s a n cap l g _ (HC.out.below HB5.out) hn HL.out (by omega) (by omega)).mono ?_
      rintro e w6 ⟨rfl, hb⟩
      have HB6 := Lib.hid (HB5.out.trans (hb.mono HB5.out.size))
      have HT6 := Lib.hid (HT5.out.below hb HT5.out.1)
      clear hb x0 x1
      obtain ⟨_, x0, x1⟩ := HT6.out
      by_cases hg0 : g = 0
      · subst hg0
        go_wp2_with fail
        go_ret
        exact ⟨kret_bool (by simp), HB6.out⟩
      · have hg0B : decide (g = 0) = false := decide_eq_false hg0
        have hg0E : (g == 0) = false := by simp [hg0]
        have htp := tax_le HL.out (g - 1)
        have hlow : g - 1 - taxN l (g - 1) < net := by
          have := of_decide_eq_false (HI.out.2.2.1 (g - 1) (by omega) (by omega))
          omega
        go_wp2_with fail
        refine (taxOf_ref s a n cap l (g - 1) _ (HC.out.below HB6.out) hn HL.out (by omega) (by omega)).mono ?_
        rintro e w7 ⟨rfl, hb⟩
        have HB7 := Lib.hid (HB6.out.trans (hb.mono HB6.out.size))
        clear hb
        go_wp2_with fail
        go_ret
        exact ⟨kret_bool (by simp), HB7.out⟩
end Go.Proofs.Ytmiijmgidbbmhaa
