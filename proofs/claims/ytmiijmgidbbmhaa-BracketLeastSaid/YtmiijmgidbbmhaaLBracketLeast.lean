/-
  The walk of the law BracketLeast: it answers true at every table and every two numbers.
-/
import Derived.Test.YtmiijmgidbbmhaaLBracketSteps
import Derived.Test.YtmiijmgidbbmhaaKChoose
import Derived.Deep.RegionHeld3
namespace Go.Proofs.Ytmiijmgidbbmhaa
open Go.RowKit Go.Maps

theorem LeastIs.more {l : List Bk} {net c i j : Int} (h : LeastIs l net i) (hc : 0 ≤ c) (h' : LeastIs l (net + c) j) (hj : j ≤ 1000000000000) : i ≤ j := by
  by_cases e : i ≤ j
  · exact e
  · have h1 := h.2.2.1 j h'.1 (by omega)
    have h2 : net + c ≤ j - taxN l j := of_decide_eq_true (h'.2.2.2 hj)
    have h3 : ¬ (net ≤ j - taxN l j) := of_decide_eq_false h1
    omega
theorem gross_least {s : ByteArray} {l : List Bk} {net g : Int} (h : GrossIs s l net g 0) : LeastIs l net g ∧ g ≤ 1000000000000 := by
  rcases h with ⟨h0, rfl, h⟩ | ⟨h0, ⟨hnet, rfl, h⟩ | ⟨hnet, i, hi, ⟨h1, rfl, h⟩ | ⟨h1, rfl, h⟩⟩⟩
  · exact absurd h.symm h0
  · cases h
  · cases h
  · exact ⟨hi, h1⟩
set_option maxRecDepth 100000 in
set_option maxHeartbeats 2000000 in
theorem walk_bracketLeast (s : ByteArray) (_ : s.size ≤ 9223372036854775807) (a : Option Addr) (n cap : Nat) (l : List Bk) {w : World} (hcw : CameB w a l) (hn : l.length = n) (hm : n ≤ maxLen) (net : Int) (_ : (Lit.int .i64 net).wf = true) (more : Int) (hmore : (Lit.int .i64 more).wf = true) :
    Calls Try.prog 9 #[.agg #[.string s, .slice a n cap], .int .i64 net, .int .i64 more] w fun e w' => e = .returned (.bool true) ∧ Below w.heap.size w w' := by
  have hmr : -9223372036854775808 ≤ more ∧ more ≤ 9223372036854775807 := by
    simp only [Lit.wf, Bool.and_eq_true, decide_eq_true_eq] at hmore
    exact hmore
  clear hmore
  have HC := Lib.hid hcw
  have HM := Lib.hid hm
  clear hm hcw
  have HB0 := Lib.hid (kbelow_box w (.cells #[.string s, .slice a n cap] 24))
  have HT0 := Lib.hid (TIs.made w s a n cap 24)
  go_enter Try.func9, Try.ntmps9
  go_wp2_with fail
  refine (begun_any _).mono ?_
  rintro e w1 ⟨rfl, hb⟩
  have HB1 := Lib.hid (HB0.out.trans (hb.mono HB0.out.size))
  have HT1 := Lib.hid (HT0.out.below hb HT0.out.1)
  clear hb
  obtain ⟨_, x0, x1⟩ := HT1.out
  go_wp2_with fail
  refine (Gross_any s a n cap l net _ (HC.out.below HB1.out) hn HM.out).mono ?_
  rintro e w2 ⟨g, er, rfl, hg, hb⟩
  have HB2 := Lib.hid (HB1.out.trans (hb.mono HB1.out.size))
  have HT2 := Lib.hid (HT1.out.below hb HT1.out.1)
  clear hb x0 x1
  obtain ⟨_, x0, x1⟩ := HT2.out
  by_cases her : er = 0
  · subst her
    obtain ⟨h0, hnet, hi, hg1⟩ : tblE s l = 0 ∧ (0 ≤ net ∧ net ≤ 1000000000000) ∧ LeastIs l net g ∧ g ≤ 1000000000000 := by
      rcases hg with ⟨h0, rfl, h⟩ | ⟨h0, ⟨hnet, rfl, h⟩ | ⟨hnet, i, hi, ⟨h1, rfl, h⟩ | ⟨h1, rfl, h⟩⟩⟩
      · exact absurd h.symm h0
      · cases h
      · cases h
      · exact ⟨h0, hnet, hi, h1⟩
    clear hg
    have hl := (tblE_ok h0).2
    have HL := Lib.hid hl
    have HI := Lib.hid hi
    have HTb := Lib.hid h0
    clear hl hi h0
    have hg0 := HI.out.1
    have hok : net ≤ g - taxN l g := of_decide_eq_true (HI.out.2.2.2 hg1)
    have hlow : 0 < g → g - 1 - taxN l (g - 1) < net := fun h => by
      have := of_decide_eq_false (HI.out.2.2.1 (g - 1) (by omega) (by omega))
      omega
    have htg := tax_le HL.out g
    have htp := tax_le HL.out (g - 1)
    have HEg : Hid (baseE s l g = 0) := baseE_yes HTb.out (decide_eq_true (by omega))
    have HEp : Hid (baseE s l (g - 1) = 0) := baseE_yes HTb.out (decide_eq_true (by omega))
    have HRg := Lib.hid (taxR_yes HEg.out)
    have HRp := Lib.hid (taxR_yes HEp.out)
    go_wp2_with fail
    refine (Tax_any s a n cap l g _ (HC.out.below HB2.out) hn HM.out).mono ?_
    rintro e w3 ⟨rfl, hb⟩
    have HB3 := Lib.hid (HB2.out.trans (hb.mono HB2.out.size))
    have HT3 := Lib.hid (HT2.out.below hb HT2.out.1)
    clear hb x0 x1
    obtain ⟨_, x0, x1⟩ := HT3.out
    rw [HRg.out, HEg.out]
    go_wp2_with fail
    refine (Tax_any s a n cap l (g - 1) _ (HC.out.below HB3.out) hn HM.out).mono ?_
    rintro e w4 ⟨rfl, hb⟩
    have HB4 := Lib.hid (HB3.out.trans (hb.mono HB3.out.size))
    have HT4 := Lib.hid (HT3.out.below hb HT3.out.1)
    clear hb x0 x1
    obtain ⟨hg4, x0, x1⟩ := HT4.out
    rw [HRp.out, HEp.out]
    generalize taxN l g = v at *
    generalize taxN l (g - 1) = u at *
    clear HRg HRp HEg HEp
    have hcb := choose_bd more 1000 (by omega)
    have hgn : ¬ (g - v < net) := by omega
    have hgnB : decide (g - v < net) = false := decide_eq_false hgn
    by_cases hgp : 0 < g
    · have hlw := hlow hgp
      have hlB : decide (net ≤ g - 1 - u) = false := decide_eq_false (by omega)
      clear hlow
      go_wp2_with fail
      clear hok htg htp hgn hgnB hlw hlB hgp
      have hnet0 := hnet
      clear HB0 HT0 HB1 HT1 HB2 HT2 HB3 HT3 HT4
      go_region_held3 (fun w' => w'.cell? ⟨w.heap.size, 0, none⟩ = some (.string s) ∧ w'.cell? ⟨w.heap.size, 1, none⟩ = some (.slice a n cap)) (go_keep)
        (first
          | (go_at_call 25; refine (choose_any more 1000 _ hmr.1 hmr.2 (by omega) (by omega)).mono ?_; rintro e w5 ⟨rfl, h'⟩; subst w5)
          | (go_at_call 21; rw [IntWalk.i64_in (net + chooseI more 1000) (by omega)]; refine (Gross_any s a n cap l (net + chooseI more 1000) _ (HC.out.below (HB4.out.drew)) hn HM.out).mono ?_; rintro e w6 ⟨h, er, rfl, hh, hb⟩
             have HB6 := Lib.hid (HB4.out.trans ((kfrom_drew hb).mono HB4.out.size))
             have a0 : w6.cell? ⟨w.heap.size, 0, none⟩ = some (.string s) := ((kfrom_drew hb).cell (p := ⟨w.heap.size, 0, none⟩) hg4).trans x0
             have a1 : w6.cell? ⟨w.heap.size, 1, none⟩ = some (.slice a n cap) := ((kfrom_drew hb).cell (p := ⟨w.heap.size, 1, none⟩) hg4).trans x1
             clear hb))
      all_goals by_cases her2 : er = 0
      all_goals first
        | (have HGE := Lib.hid (HI.out.more hcb.1 (gross_least (her2 ▸ hh)).1 (gross_least (her2 ▸ hh)).2)
           have hge := HGE.out
           subst her2
           clear hh
           go_wp2_with fail
           go_ret
           exact ⟨kret_bool (by simp), HB6.out⟩)
        | (have h0N : (er != 0) = true := by simp [her2]
           have h0B : decide (er = 0) = false := decide_eq_false her2
           clear hh
           go_wp2_with fail
           go_ret
           exact ⟨kret_bool (by simp), HB6.out⟩)
    · obtain rfl : g = 0 := by omega
      clear hlow
      go_wp2_with fail
      clear hok htg htp hgn hgnB hgp
      have hnet0 := hnet
      clear HB0 HT0 HB1 HT1 HB2 HT2 HB3 HT3 HT4
      go_region_held3 (fun w' => w'.cell? ⟨w.heap.size, 0, none⟩ = some (.string s) ∧ w'.cell? ⟨w.heap.size, 1, none⟩ = some (.slice a n cap)) (go_keep)
        (first
          | (go_at_call 25; refine (choose_any more 1000 _ hmr.1 hmr.2 (by omega) (by omega)).mono ?_; rintro e w5 ⟨rfl, h'⟩; subst w5)
          | (go_at_call 21; rw [IntWalk.i64_in (net + chooseI more 1000) (by omega)]; refine (Gross_any s a n cap l (net + chooseI more 1000) _ (HC.out.below (HB4.out.drew)) hn HM.out).mono ?_; rintro e w6 ⟨h, er, rfl, hh, hb⟩
             have HB6 := Lib.hid (HB4.out.trans ((kfrom_drew hb).mono HB4.out.size))
             have a0 : w6.cell? ⟨w.heap.size, 0, none⟩ = some (.string s) := ((kfrom_drew hb).cell (p := ⟨w.heap.size, 0, none⟩) hg4).trans x0
             have a1 : w6.cell? ⟨w.heap.size, 1, none⟩ = some (.slice a n cap) := ((kfrom_drew hb).cell (p := ⟨w.heap.size, 1, none⟩) hg4).trans x1
             clear hb))
      all_goals by_cases her2 : er = 0
      all_goals first
        | (have HGE := Lib.hid (HI.out.more hcb.1 (gross_least (her2 ▸ hh)).1 (gross_least (her2 ▸ hh)).2)
           have hge := HGE.out
           subst her2
           clear hh
           go_wp2_with fail
           go_ret
           exact ⟨kret_bool (by simp), HB6.out⟩)
        | (have h0N : (er != 0) = true := by simp [her2]
           have h0B : decide (er = 0) = false := decide_eq_false her2
           clear hh
           go_wp2_with fail
           go_ret
           exact ⟨kret_bool (by simp), HB6.out⟩)
  · have h0N : (er != 0) = true := by simp [her]
    have h0B : decide (er = 0) = false := decide_eq_false her
    go_wp2_with fail
    go_ret
    exact ⟨rfl, HB2.out⟩
end Go.Proofs.Ytmiijmgidbbmhaa
