/-
  The walk of the law BracketSteps: it answers true at every table and every base.
-/
import Derived.Test.YtmiijmgidbbmhaaKBegun
namespace Go.Proofs.Ytmiijmgidbbmhaa
open Go.RowKit

theorem taxR_yes {s : ByteArray} {l : List Bk} {base : Int} (h : baseE s l base = 0) : taxR s l base = taxN l base := by unfold taxR; rw [if_pos h]
theorem taxR_no {s : ByteArray} {l : List Bk} {base : Int} (h : baseE s l base ≠ 0) : taxR s l base = 0 := by unfold taxR; rw [if_neg h]
set_option maxRecDepth 100000 in
set_option maxHeartbeats 1000000 in
theorem walk_bracketSteps (s : ByteArray) (_ : s.size ≤ 9223372036854775807) (a : Option Addr) (n cap : Nat) (l : List Bk) {w : World} (hcw : CameB w a l) (hn : l.length = n) (hm : n ≤ maxLen) (base : Int) (_ : (Lit.int .i64 base).wf = true) :
    Calls Try.prog 8 #[.agg #[.string s, .slice a n cap], .int .i64 base] w fun e w' => e = .returned (.bool true) ∧ Below w.heap.size w w' := by
  have HC := Lib.hid hcw
  have HM := Lib.hid hm
  clear hm hcw
  have HB0 := Lib.hid (kbelow_box w (.cells #[.string s, .slice a n cap] 24))
  have HT0 := Lib.hid (TIs.made w s a n cap 24)
  go_enter Try.func8, Try.ntmps8
  go_wp2_with fail
  refine (begun_any _).mono ?_
  rintro e w1 ⟨rfl, hb⟩
  have HB1 := Lib.hid (HB0.out.trans (hb.mono HB0.out.size))
  have HT1 := Lib.hid (HT0.out.below hb HT0.out.1)
  clear hb
  obtain ⟨_, x0, x1⟩ := HT1.out
  go_wp2_with fail
  refine (Tax_any s a n cap l base _ (HC.out.below HB1.out) hn HM.out).mono ?_
  rintro e w2 ⟨rfl, hb⟩
  have HB2 := Lib.hid (HB1.out.trans (hb.mono HB1.out.size))
  have HT2 := Lib.hid (HT1.out.below hb HT1.out.1)
  clear hb x0 x1
  obtain ⟨_, x0, x1⟩ := HT2.out
  by_cases h0 : baseE s l base = 0
  · have HR := Lib.hid (taxR_yes h0)
    obtain ⟨hl, hb1, hb2, ht⟩ := baseE_ok h0
    have HL := Lib.hid hl
    have HT := Lib.hid ht
    rw [h0, HR.out]
    clear hl ht h0
    have htx := tax_le HL.out base
    obtain ⟨v, hv⟩ : ∃ v, taxN l base = v := ⟨_, rfl⟩
    have HV := Lib.hid hv
    rw [hv] at htx
    rw [hv]
    clear hv
    by_cases hpos : 0 < base
    · go_wp2_with fail
      refine (Tax_any s a n cap l (base + 1) _ (HC.out.below HB2.out) hn HM.out).mono ?_
      rintro e w3 ⟨rfl, hb⟩
      have HB3 := Lib.hid (HB2.out.trans (hb.mono HB2.out.size))
      clear hb
      by_cases hmx : base = 1000000000000
      · subst hmx
        have HE3 : Hid (baseE s l (1000000000000 + 1) = 3) := baseE_far HT.out (by decide)
        rw [HE3.out]
        go_wp2_with fail
        go_ret
        exact ⟨rfl, HB3.out⟩
      · have HE3 : Hid (baseE s l (base + 1) = 0) := baseE_yes HT.out (decide_eq_true (by omega))
        have HR3 := Lib.hid (taxR_yes HE3.out)
        rw [HR3.out, HE3.out]
        have HS := Lib.hid (tax_step HL.out base)
        generalize hm' : taxN l (base + 1) = m' at *
        clear hm' HR3
        have hS := HS.out
        rw [HV.out] at hS
        by_cases hmv : m' = v
        · subst hmv
          go_wp2_with fail
          go_ret
          exact ⟨kret_bool (by simp), HB3.out⟩
        · obtain rfl : m' = v + 1 := by omega
          have hmB : decide (v + 1 = v) = false := decide_eq_false (by omega)
          have hmE : (v + 1 == v) = false := by simp; omega
          go_wp2_with fail
          go_ret
          exact ⟨kret_bool (by simp), HB3.out⟩
    · go_wp2_with fail
      refine (Tax_any s a n cap l (base + 1) _ (HC.out.below HB2.out) hn HM.out).mono ?_
      rintro e w3 ⟨rfl, hb⟩
      have HB3 := Lib.hid (HB2.out.trans (hb.mono HB2.out.size))
      clear hb
      by_cases hmx : base = 1000000000000
      · subst hmx
        have HE3 : Hid (baseE s l (1000000000000 + 1) = 3) := baseE_far HT.out (by decide)
        rw [HE3.out]
        go_wp2_with fail
        go_ret
        exact ⟨rfl, HB3.out⟩
      · have HE3 : Hid (baseE s l (base + 1) = 0) := baseE_yes HT.out (decide_eq_true (by omega))
        have HR3 := Lib.hid (taxR_yes HE3.out)
        rw [HR3.out, HE3.out]
        have HS := Lib.hid (tax_step HL.out base)
        generalize hm' : taxN l (base + 1) = m' at *
        clear hm' HR3
        have hS := HS.out
        rw [HV.out] at hS
        by_cases hmv : m' = v
        · subst hmv
          go_wp2_with fail
          go_ret
          exact ⟨kret_bool (by simp), HB3.out⟩
        · obtain rfl : m' = v + 1 := by omega
          have hmB : decide (v + 1 = v) = false := decide_eq_false (by omega)
          have hmE : (v + 1 == v) = false := by simp; omega
          go_wp2_with fail
          go_ret
          exact ⟨kret_bool (by simp), HB3.out⟩
  · have HR := Lib.hid (taxR_no h0)
    have h0N : (baseE s l base != 0) = true := by simp [h0]
    have h0B : decide (baseE s l base = 0) = false := decide_eq_false h0
    rw [HR.out]
    go_wp2_with fail
    go_ret
    exact ⟨rfl, HB2.out⟩
end Go.Proofs.Ytmiijmgidbbmhaa
