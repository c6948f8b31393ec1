/-
  The walk of the law BracketTogether: it answers true at every two tables and every base.
-/
import Derived.Test.YtmiijmgidbbmhaaKBothW
import Derived.Test.YtmiijmgidbbmhaaLBracketSteps
namespace Go.Proofs.Ytmiijmgidbbmhaa
open Go.RowKit

theorem rateR_yes {s : ByteArray} {l : List Bk} {base : Int} (h : baseE s l base = 0) : rateR s l base = rateN l base := by unfold rateR; rw [if_pos h]
theorem abs_any (x : Int) (w : World) (h1 : -1 ≤ x) (h2 : x ≤ 1) : Calls Try.prog 26 #[.int .i64 x] w fun e w' => (∃ y : Int, e = .returned (.int .i64 y) ∧ y ≤ 1) ∧ w' = w := by
  by_cases h : x < 0
  · obtain rfl : x = -1 := by omega
    go_enter Try.func26, Try.ntmps26
    go_wp2_with fail
    go_ret
    exact ⟨⟨1, rfl, by omega⟩, rfl⟩
  · have hB : decide (x < 0) = false := decide_eq_false h
    go_enter Try.func26, Try.ntmps26
    go_wp2_with fail
    go_ret
    exact ⟨⟨x, rfl, h2⟩, rfl⟩
set_option maxRecDepth 100000 in
set_option maxHeartbeats 4000000 in
theorem walk_bracketTogether (s : ByteArray) (_ : s.size ≤ 9223372036854775807) (a : Option Addr) (n cap : Nat) (l : List Bk) {w : World} (hcw : CameB w a l) (hn : l.length = n) (hm : n ≤ maxLen) (t : ByteArray) (_ : t.size ≤ 9223372036854775807) (b : Option Addr) (n' cap' : Nat) (m : List Bk) (hcw' : CameB w b m) (hn' : m.length = n') (hm' : n' ≤ maxLen) (base : Int) (_ : (Lit.int .i64 base).wf = true) :
    Calls Try.prog 10 #[.agg #[.string s, .slice a n cap], .agg #[.string t, .slice b n' cap'], .int .i64 base] w fun e w' => e = .returned (.bool true) ∧ Below w.heap.size w w' := by
  have HC := Lib.hid hcw
  have HM := Lib.hid hm
  have HC' := Lib.hid hcw'
  have HM' := Lib.hid hm'
  clear hm hcw hm' hcw'
  have hz1 : (w.alloc (.cells #[.string s, .slice a n cap] 24)).heap.size = w.heap.size + 1 := by simp
  have hT1 := TIs.made w s a n cap 24
  have hU2 := TIs.made (w.alloc (.cells #[.string s, .slice a n cap] 24)) t b n' cap' 24
  rw [hz1] at hU2
  have HT0 := Lib.hid (hT1.below (kbelow_box _ (.cells #[.string t, .slice b n' cap'] 24)) hT1.1)
  have HU0 := Lib.hid hU2
  have HB0 := Lib.hid ((kbelow_box w (.cells #[.string s, .slice a n cap] 24)).alloc (kbelow_box w (.cells #[.string s, .slice a n cap] 24)).size (.cells #[.string t, .slice b n' cap'] 24))
  clear hT1 hU2 hz1
  go_enter Try.func10, Try.ntmps10
  go_wp2_with fail
  generalize ((w.alloc (.cells #[.string s, .slice a n cap] 24)).alloc (.cells #[.string t, .slice b n' cap'] 24)) = W at *
  refine (begun_any _).mono ?_
  rintro e w1 ⟨rfl, hb⟩
  have HB1 := Lib.hid (HB0.out.trans (hb.mono HB0.out.size))
  have HT1 := Lib.hid (HT0.out.below hb HT0.out.1)
  have HU1 := Lib.hid (HU0.out.below hb HU0.out.1)
  clear hb
  obtain ⟨_, x0, x1⟩ := HT1.out
  obtain ⟨_, y0, y1⟩ := HU1.out
  go_wp2_with fail
  refine (Both_any s a n cap l t b n' cap' m _ (HC.out.below HB1.out) hn HM.out (HC'.out.below HB1.out) hn' HM'.out).mono ?_
  rintro e w2 ⟨r, v, er, rfl, hBo, hb⟩
  have HB2 := Lib.hid (HB1.out.trans (hb.mono HB1.out.size))
  have HT2 := Lib.hid (HT1.out.below hb HT1.out.1)
  have HU2 := Lib.hid (HU1.out.below hb HU1.out.1)
  clear hb x0 x1 y0 y1
  rcases hBo with ⟨he, rfl, rfl, _⟩ | ⟨rfl, rfl, h0, h1, hh, h12, hG⟩
  · have heN : (er != 0) = true := by simp [he]
    have heB : decide (er = 0) = false := decide_eq_false he
    go_wp2_with fail
    go_ret
    exact ⟨rfl, HB2.out.alloc HB2.out.size _⟩
  · obtain ⟨x, c, rfl, hCm⟩ := hG.slice
    have hL := (tblE_ok h0).2
    have hM := (tblE_ok h1).2
    have hR := both_right hL hM hh h12
    have h2 : tblE r (bothL l m) = 0 := tblE_yes (tblE_ok h0).1 (by have := hR.1; omega) hR.2.2.1 hR.2.2.2.1 hR.2.2.2.2
    have HRt := Lib.hid (both_rate hL hM hR base)
    have HTx := Lib.hid (both_tax hL hM hR base)
    have HX1 := Lib.hid (tax_le hL base)
    have HX2 := Lib.hid (tax_le hM base)
    have HX3 := Lib.hid (tax_le hR base)
    have HRa := Lib.hid (show 0 ≤ rateN l base ∧ rateN l base ≤ 10000 from rU_bd hL base l.length (Nat.le_refl _))
    have HRb := Lib.hid (show 0 ≤ rateN m base ∧ rateN m base ≤ 10000 from rU_bd hM base m.length (Nat.le_refl _))
    have HE0 := Lib.hid h0
    have HE1 := Lib.hid h1
    have HE2 := Lib.hid h2
    have HCm := Lib.hid hCm
    have hml : (bothL l m).length ≤ maxLen := by unfold maxLen; omega
    have HML := Lib.hid hml
    generalize hBL : bothL l m = bl' at *
    obtain ⟨k, hk⟩ : ∃ k, bl'.length = k := ⟨_, rfl⟩
    rw [hk]
    have HK := Lib.hid hk
    have HQ : Hid (TIs (w2.alloc (.cells #[.string r, .slice x k c] 24)) w2.heap.size r x k c) := TIs.made w2 r x k c 24
    have HB3 := Lib.hid (HB2.out.alloc HB2.out.size (.cells #[.string r, .slice x k c] 24))
    have HT3 := Lib.hid (HT2.out.below (kbelow_box w2 (.cells #[.string r, .slice x k c] 24)) HT2.out.1)
    have HU3 := Lib.hid (HU2.out.below (kbelow_box w2 (.cells #[.string r, .slice x k c] 24)) HU2.out.1)
    have HC3 := Lib.hid (HCm.out.below (kbelow_box w2 (.cells #[.string r, .slice x k c] 24)))
    clear hCm hG hL hM hR h0 h1 h2 hh h12 hml hBL hk HCm
    obtain ⟨_, x0, x1⟩ := HT3.out
    obtain ⟨_, y0, y1⟩ := HU3.out
    obtain ⟨_, q0, q1⟩ := HQ.out
    have HQ3 := HQ
    clear HQ
    go_wp2_with fail
    generalize (w2.alloc (.cells #[.string r, .slice x k c] 24)) = W3 at *
    cases hmon : monB base
    · have F0 := Lib.hid (baseE_far HE0.out hmon)
      have F1 := Lib.hid (baseE_far HE1.out hmon)
      have F2 := Lib.hid (baseE_far HE2.out hmon)
      have G0 := Lib.hid (taxR_no (s := r) (l := l) (base := base) (by rw [F0.out]; omega))
      have G1 := Lib.hid (taxR_no (s := t) (l := m) (base := base) (by rw [F1.out]; omega))
      have G2 := Lib.hid (taxR_no (s := r) (l := bl') (base := base) (by rw [F2.out]; omega))
      refine (Tax_any r a n cap l base _ (HC.out.below HB3.out) hn HM.out).mono ?_
      rintro e wW4 ⟨rfl, hb⟩
      have HB4 := Lib.hid (HB3.out.trans (hb.mono HB3.out.size))
      have HT4 := Lib.hid (HT3.out.below hb HT3.out.1)
      have HU4 := Lib.hid (HU3.out.below hb HU3.out.1)
      have HQ4 := Lib.hid (HQ3.out.below hb HQ3.out.1)
      have HC4 := Lib.hid (HC3.out.below hb)
      clear hb x0 x1 y0 y1 q0 q1
      obtain ⟨_, x0, x1⟩ := HT4.out
      obtain ⟨_, y0, y1⟩ := HU4.out
      obtain ⟨_, q0, q1⟩ := HQ4.out
      rw [G0.out, F0.out]
      go_wp2_with fail
      refine (Tax_any t b n' cap' m base _ (HC'.out.below HB4.out) hn' HM'.out).mono ?_
      rintro e wW5 ⟨rfl, hb⟩
      have HB5 := Lib.hid (HB4.out.trans (hb.mono HB4.out.size))
      have HT5 := Lib.hid (HT4.out.below hb HT4.out.1)
      have HU5 := Lib.hid (HU4.out.below hb HU4.out.1)
      have HQ5 := Lib.hid (HQ4.out.below hb HQ4.out.1)
      have HC5 := Lib.hid (HC4.out.below hb)
      clear hb x0 x1 y0 y1 q0 q1
      obtain ⟨_, x0, x1⟩ := HT5.out
      obtain ⟨_, y0, y1⟩ := HU5.out
      obtain ⟨_, q0, q1⟩ := HQ5.out
      rw [G1.out, F1.out]
      go_wp2_with fail
      refine (Tax_any r x k c bl' base _ HC5.out HK.out (by rw [← HK.out]; exact HML.out)).mono ?_
      rintro e wW6 ⟨rfl, hb⟩
      have HB6 := Lib.hid (HB5.out.trans (hb.mono HB5.out.size))
      have HT6 := Lib.hid (HT5.out.below hb HT5.out.1)
      have HU6 := Lib.hid (HU5.out.below hb HU5.out.1)
      have HQ6 := Lib.hid (HQ5.out.below hb HQ5.out.1)
      have HC6 := Lib.hid (HC5.out.below hb)
      clear hb x0 x1 y0 y1 q0 q1
      obtain ⟨_, x0, x1⟩ := HT6.out
      obtain ⟨_, y0, y1⟩ := HU6.out
      obtain ⟨_, q0, q1⟩ := HQ6.out
      rw [G2.out, F2.out]
      go_wp2_with fail
      go_ret
      exact ⟨rfl, HB6.out⟩
    · have F0 := Lib.hid (baseE_yes HE0.out hmon)
      have F1 := Lib.hid (baseE_yes HE1.out hmon)
      have F2 := Lib.hid (baseE_yes HE2.out hmon)
      have G0 := Lib.hid (taxR_yes F0.out)
      have G1 := Lib.hid (taxR_yes F1.out)
      have G2 := Lib.hid (taxR_yes F2.out)
      have J0 := Lib.hid (rateR_yes F0.out)
      have J1 := Lib.hid (rateR_yes F1.out)
      have J2 := Lib.hid (rateR_yes F2.out)
      have hmn : -1000000000000 ≤ base ∧ base ≤ 1000000000000 := of_decide_eq_true hmon
      have hX1 := HX1.out
      have hX2 := HX2.out
      have hX3 := HX3.out
      have hTx := HTx.out
      have hRa := HRa.out
      have hRb := HRb.out
      rw [HRt.out] at J2
      refine (Tax_any r a n cap l base _ (HC.out.below HB3.out) hn HM.out).mono ?_
      rintro e wW4 ⟨rfl, hb⟩
      have HB4 := Lib.hid (HB3.out.trans (hb.mono HB3.out.size))
      have HT4 := Lib.hid (HT3.out.below hb HT3.out.1)
      have HU4 := Lib.hid (HU3.out.below hb HU3.out.1)
      have HQ4 := Lib.hid (HQ3.out.below hb HQ3.out.1)
      have HC4 := Lib.hid (HC3.out.below hb)
      clear hb x0 x1 y0 y1 q0 q1
      obtain ⟨_, x0, x1⟩ := HT4.out
      obtain ⟨_, y0, y1⟩ := HU4.out
      obtain ⟨_, q0, q1⟩ := HQ4.out
      rw [G0.out, F0.out]
      go_wp2_with fail
      refine (Tax_any t b n' cap' m base _ (HC'.out.below HB4.out) hn' HM'.out).mono ?_
      rintro e wW5 ⟨rfl, hb⟩
      have HB5 := Lib.hid (HB4.out.trans (hb.mono HB4.out.size))
      have HT5 := Lib.hid (HT4.out.below hb HT4.out.1)
      have HU5 := Lib.hid (HU4.out.below hb HU4.out.1)
      have HQ5 := Lib.hid (HQ4.out.below hb HQ4.out.1)
      have HC5 := Lib.hid (HC4.out.below hb)
      clear hb x0 x1 y0 y1 q0 q1
      obtain ⟨_, x0, x1⟩ := HT5.out
      obtain ⟨_, y0, y1⟩ := HU5.out
      obtain ⟨_, q0, q1⟩ := HQ5.out
      rw [G1.out, F1.out]
      go_wp2_with fail
      refine (Tax_any r x k c bl' base _ HC5.out HK.out (by rw [← HK.out]; exact HML.out)).mono ?_
      rintro e wW6 ⟨rfl, hb⟩
      have HB6 := Lib.hid (HB5.out.trans (hb.mono HB5.out.size))
      have HT6 := Lib.hid (HT5.out.below hb HT5.out.1)
      have HU6 := Lib.hid (HU5.out.below hb HU5.out.1)
      have HQ6 := Lib.hid (HQ5.out.below hb HQ5.out.1)
      have HC6 := Lib.hid (HC5.out.below hb)
      clear hb x0 x1 y0 y1 q0 q1
      obtain ⟨_, x0, x1⟩ := HT6.out
      obtain ⟨_, y0, y1⟩ := HU6.out
      obtain ⟨_, q0, q1⟩ := HQ6.out
      rw [G2.out, F2.out]
      go_wp2_with fail
      refine (Rate_any r a n cap l base _ (HC.out.below HB6.out) hn HM.out).mono ?_
      rintro e wW7 ⟨rfl, hb⟩
      have HB7 := Lib.hid (HB6.out.trans (hb.mono HB6.out.size))
      have HT7 := Lib.hid (HT6.out.below hb HT6.out.1)
      have HU7 := Lib.hid (HU6.out.below hb HU6.out.1)
      have HQ7 := Lib.hid (HQ6.out.below hb HQ6.out.1)
      have HC7 := Lib.hid (HC6.out.below hb)
      clear hb x0 x1 y0 y1 q0 q1
      obtain ⟨_, x0, x1⟩ := HT7.out
      obtain ⟨_, y0, y1⟩ := HU7.out
      obtain ⟨_, q0, q1⟩ := HQ7.out
      rw [J0.out, F0.out]
      go_wp2_with fail
      refine (Rate_any t b n' cap' m base _ (HC'.out.below HB7.out) hn' HM'.out).mono ?_
      rintro e wW8 ⟨rfl, hb⟩
      have HB8 := Lib.hid (HB7.out.trans (hb.mono HB7.out.size))
      have HT8 := Lib.hid (HT7.out.below hb HT7.out.1)
      have HU8 := Lib.hid (HU7.out.below hb HU7.out.1)
      have HQ8 := Lib.hid (HQ7.out.below hb HQ7.out.1)
      have HC8 := Lib.hid (HC7.out.below hb)
      clear hb x0 x1 y0 y1 q0 q1
      obtain ⟨_, x0, x1⟩ := HT8.out
      obtain ⟨_, y0, y1⟩ := HU8.out
      obtain ⟨_, q0, q1⟩ := HQ8.out
      rw [J1.out, F1.out]
      go_wp2_with fail
      refine (Rate_any r x k c bl' base _ HC8.out HK.out (by rw [← HK.out]; exact HML.out)).mono ?_
      rintro e wW9 ⟨rfl, hb⟩
      have HB9 := Lib.hid (HB8.out.trans (hb.mono HB8.out.size))
      have HT9 := Lib.hid (HT8.out.below hb HT8.out.1)
      have HU9 := Lib.hid (HU8.out.below hb HU8.out.1)
      have HQ9 := Lib.hid (HQ8.out.below hb HQ8.out.1)
      have HC9 := Lib.hid (HC8.out.below hb)
      clear hb x0 x1 y0 y1 q0 q1
      obtain ⟨_, x0, x1⟩ := HT9.out
      obtain ⟨_, y0, y1⟩ := HU9.out
      obtain ⟨_, q0, q1⟩ := HQ9.out
      rw [J2.out, F2.out]
      clear G0 G1 G2 J0 J1 J2 F0 F1 F2 HX1 HX2 HX3 HTx HRa HRb HRt
      generalize taxN l base = u1 at *
      generalize taxN m base = u2 at *
      generalize taxN bl' base = u3 at *
      generalize rateN l base = r1 at *
      generalize rateN m base = r2 at *
      go_wp2_with fail
      refine (abs_any (u1 + u2 - u3) _ hTx.1 hTx.2).mono ?_
      rintro e wA ⟨⟨y, rfl, hy⟩, h'⟩
      subst wA
      go_wp2_with fail
      go_ret
      exact ⟨kret_bool (by simp), HB9.out⟩
end Go.Proofs.Ytmiijmgidbbmhaa
