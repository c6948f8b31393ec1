/-
  The walk of the law BracketBends: it answers true at every table and every two bases.
-/
import Derived.Test.YtmiijmgidbbmhaaLBracketSteps
namespace Go.Proofs.Ytmiijmgidbbmhaa
open Go.RowKit

set_option maxRecDepth 100000 in
set_option maxHeartbeats 2000000 in
theorem walk_bracketBends (s : ByteArray) (_ : s.size ≤ 9223372036854775807) (a : Option Addr) (n cap : Nat) (l : List Bk) {w : World} (hcw : CameB w a l) (hn : l.length = n) (hm : n ≤ maxLen) (A : Int) (_ : (Lit.int .i64 A).wf = true) (B : Int) (_ : (Lit.int .i64 B).wf = true) :
    Calls Try.prog 11 #[.agg #[.string s, .slice a n cap], .int .i64 A, .int .i64 B] w fun e w' => e = .returned (.bool true) ∧ Below w.heap.size w w' := by
  have hm' : n ≤ 9223372036854775807 := by unfold maxLen at hm; omega
  have HC := Lib.hid hcw
  have HM := Lib.hid hm
  clear hm hcw
  have HB0 := Lib.hid (kbelow_box w (.cells #[.string s, .slice a n cap] 24))
  have HT0 := Lib.hid (TIs.made w s a n cap 24)
  go_enter Try.func11, Try.ntmps11
  go_wp2_with fail
  refine (begun_any _).mono ?_
  rintro e w1 ⟨rfl, hb⟩
  have HB1 := Lib.hid (HB0.out.trans (hb.mono HB0.out.size))
  have HT1 := Lib.hid (HT0.out.below hb HT0.out.1)
  clear hb
  obtain ⟨_, x0, x1⟩ := HT1.out
  go_wp2_with fail
  refine (Tax_any s a n cap l A _ (HC.out.below HB1.out) hn HM.out).mono ?_
  rintro e w2 ⟨rfl, hb⟩
  have HB2 := Lib.hid (HB1.out.trans (hb.mono HB1.out.size))
  have HT2 := Lib.hid (HT1.out.below hb HT1.out.1)
  clear hb x0 x1
  obtain ⟨_, x0, x1⟩ := HT2.out
  go_wp2_with fail
  refine (Tax_any s a n cap l B _ (HC.out.below HB2.out) hn HM.out).mono ?_
  rintro e w3 ⟨rfl, hb⟩
  have HB3 := Lib.hid (HB2.out.trans (hb.mono HB2.out.size))
  have HT3 := Lib.hid (HT2.out.below hb HT2.out.1)
  clear hb x0 x1
  obtain ⟨_, x0, x1⟩ := HT3.out
  by_cases h0 : baseE s l A = 0
  · by_cases h1 : baseE s l B = 0
    · by_cases hA : A < 0
      · rw [h0, h1]
        go_wp2_with fail
        go_ret
        exact ⟨rfl, HB3.out⟩
      · by_cases hB : B < 0
        · rw [h0, h1]
          go_wp2_with fail
          go_ret
          exact ⟨rfl, HB3.out⟩
        · have HR0 := Lib.hid (taxR_yes h0)
          have HR1 := Lib.hid (taxR_yes h1)
          obtain ⟨hl, ha1, ha2, ht⟩ := baseE_ok h0
          obtain ⟨_, hb1, hb2, _⟩ := baseE_ok h1
          have HL := Lib.hid hl
          have HTb := Lib.hid ht
          rw [h0, h1, HR0.out, HR1.out]
          clear hl ht h0 h1
          have hAB : decide (A < 0) = false := decide_eq_false hA
          have hBB : decide (B < 0) = false := decide_eq_false hB
          have hn1 : 1 ≤ n := by rw [← hn]; exact HL.out.1
          obtain ⟨b, off, rfl, hcell⟩ := HC.out.open hn (by omega)
          have HO := Lib.hid hcell
          clear hcell
          have ht0 := tax_le HL.out A
          have ht1 := tax_le HL.out B
          obtain ⟨u, hu⟩ : ∃ u, taxN l A = u := ⟨_, rfl⟩
          obtain ⟨v, hv⟩ : ∃ v, taxN l B = v := ⟨_, rfl⟩
          have HU := Lib.hid hu
          have HV := Lib.hid hv
          rw [hu] at ht0
          rw [hv] at ht1
          rw [hu, hv]
          clear hu hv
          go_wp2_with fail
          go_loopw [11] (fun i wr => ∃ r : Nat, r + 1 ≤ n ∧ i = .int .i64 ((r : Int) + 1) ∧ Below w3.heap.size w3 wr ∧ ∀ j, j < r → (bnth l j).rate ≤ (bnth l (j + 1)).rate) (fun i _ => n - (intOf i).toNat)
          case atStart => exact ⟨0, by omega, rfl, Below.refl _ _, fun j hj => by omega⟩
          case round =>
            obtain ⟨r, hrk, rfl, hb, hall⟩ := hrel
            have HA := Lib.hid hall
            have HBR := Lib.hid hb
            have HBW := Lib.hid (HB3.out.trans (hb.mono HB3.out.size))
            have HT4 := Lib.hid (HT3.out.below hb HT3.out.1)
            clear hall hb x0 x1
            obtain ⟨_, x0, x1⟩ := HT4.out
            by_cases hlt : r + 1 < n
            · have hlt' : (r : Int) + 1 < (n : Int) := by omega
              have hlt0 : (r : Int) < (n : Int) := by omega
              obtain ⟨_, y1⟩ := HO.out _ HBW.out r (by omega)
              obtain ⟨_, z1⟩ := HO.out _ HBW.out (r + 1) (by omega)
              have hsub : (r : Int) + 1 - 1 = (r : Int) := by omega
              have htn : ((r : Int) + 1).toNat = r + 1 := by omega
              by_cases hr : (bnth l (r + 1)).rate < (bnth l r).rate
              · go_wp2_with fail
                go_quiet (fail)
                go_wp2_with fail
                go_ret
                exact ⟨rfl, kbelow_dN HBW.out _⟩
              · have hrB : decide ((bnth l (r + 1)).rate < (bnth l r).rate) = false := decide_eq_false hr
                go_wp2_with fail
                go_quiet (fail)
                go_wp2_with fail
                go_roundw
                case rel =>
                  refine ⟨r + 1, by omega, by go_num, kbelow_dN HBR.out _, ?_⟩
                  intro j hj
                  by_cases e : j = r
                  · subst e; omega
                  · exact HA.out j (by omega)
                case measure => simp [intOf]; omega
            · have hnl : ¬ ((r : Int) + 1 < (n : Int)) := by omega
              have HK := Lib.hid (tax_bends HL.out (fun j hj => HA.out j (by omega)) (a := A) (b := B) (by omega) (by omega))
              rw [HU.out, HV.out] at HK
              go_wp2_with fail
              refine (Tax_any s _ n cap l (A + B) _ (HC.out.below HBW.out) hn HM.out).mono ?_
              rintro e w5 ⟨rfl, hb⟩
              have HB5 := Lib.hid (HBW.out.trans (hb.mono HBW.out.size))
              clear hb
              by_cases hmx : 1000000000000 < A + B
              · have HE3 : Hid (baseE s l (A + B) = 3) := baseE_far HTb.out (decide_eq_false (by omega))
                rw [HE3.out]
                go_wp2_with fail
                go_ret
                exact ⟨kret_bool (by simp), HB5.out⟩
              · have HE3 : Hid (baseE s l (A + B) = 0) := baseE_yes HTb.out (decide_eq_true (by omega))
                have HR3 := Lib.hid (taxR_yes HE3.out)
                rw [HR3.out, HE3.out]
                have hk := HK.out
                have ht2 := tax_le HL.out (A + B)
                generalize taxN l (A + B) = z at *
                go_wp2_with fail
                go_ret
                exact ⟨kret_bool (by simp), HB5.out⟩
    · have h1N : (baseE s l B != 0) = true := by simp [h1]
      have h1B : decide (baseE s l B = 0) = false := decide_eq_false h1
      rw [h0]
      go_wp2_with fail
      go_ret
      exact ⟨rfl, HB3.out⟩
  · have h0N : (baseE s l A != 0) = true := by simp [h0]
    have h0B : decide (baseE s l A = 0) = false := decide_eq_false h0
    go_wp2_with fail
    go_ret
    exact ⟨rfl, HB3.out⟩
end Go.Proofs.Ytmiijmgidbbmhaa
