/-
  The walk of the law PeriodWhole: it answers true at every int, period and list of ints.
-/
import Derived.Test.YtbbmgainmomafaaPBegun
import Derived.Test.YtbbmgainmomafaaPWholeM
import Derived.OpenShut
namespace Go.Proofs.Ytbbmgainmomafaa
open Go.RowKit Mny

def absI (n : Int) : Int := if n < 0 then -n else n
theorem abs_any (n : Int) (w : World) (h0 : -4000000000000000000 ≤ n) (h1 : n ≤ 4000000000000000000) : Calls Try.prog 30 #[.int .i64 n] w fun e w' => e = .returned (.int .i64 (absI n)) ∧ w' = w := by
  by_cases h : n < 0
  · have H : Hid (absI n = -n) := if_pos h
    go_enter Try.func30, Try.ntmps30
    go_wp2
    go_ret
    exact ⟨cret_int H.out.symm, rfl⟩
  · have H : Hid (absI n = n) := if_neg h
    have hB : decide (n < 0) = false := decide_eq_false h
    go_enter Try.func30, Try.ntmps30
    go_wp2
    go_ret
    exact ⟨cret_int H.out.symm, rfl⟩
theorem abs_one {n : Int} (h0 : -1 ≤ n) (h1 : n ≤ 1) : 0 ≤ absI n ∧ absI n ≤ 1 := by unfold absI; split <;> omega
theorem at_one (w : World) (c : Int) : At (w.alloc (.cells #[.int .i64 c] 3)) w.heap.size 0 [c] := by
  refine ⟨by simp, fun j hj => ?_⟩
  obtain rfl : j = 0 := by simpa using hj
  simp [nth]

set_option maxRecDepth 100000 in
set_option maxHeartbeats 1000000 in
theorem walk_periodWhole (w : World) (A : Int) (_ : (Lit.int .i64 A).wf = true) (f t : Int) (_ : (Lit.int .i64 f).wf = true) (_ : (Lit.int .i64 t).wf = true) (ct : Int) (wc : (Lit.int .i64 ct).wf = true) (ba : Int) (_ : (Lit.int .i64 ba).wf = true) (a : Option Addr) (n cap : Nat) (l : List Int) (hc : Came w a l) (hn : l.length = n) (hm : n ≤ maxLen) (_ : ∀ x ∈ l, (Lit.int .i64 x).wf = true) :
    Calls Try.prog 11 #[.int .i64 A, .agg #[.int .i64 f, .int .i64 t], .int .i64 ct, .int .i64 ba, .slice a n cap] w fun e w' => e = .returned (.bool true) ∧ Below w.heap.size w w' := by
  have HC := Lib.hid hc
  have HN := Lib.hid hn
  have HM := Lib.hid hm
  have HWC := Lib.hid (bounds_i64 wc)
  have HB0 := Lib.hid ((Below.refl w.heap.size w).alloc (Nat.le_refl _) (.cells #[.int .i64 f, .int .i64 t] 29))
  have HX0 := Lib.hid (PBox.made w f t 29)
  clear hc hn hm
  go_enter Try.func11, Try.ntmps11
  go_wp2_with fail
  refine (begun_any _).mono ?_
  rintro e w1 ⟨rfl, hb1⟩
  have HB1 := Lib.hid (HB0.out.trans (hb1.mono HB0.out.size))
  have HX1 := Lib.hid (HX0.out.below hb1 (by simp))
  have hg1 : w.heap.size < w1.heap.size := Nat.lt_of_lt_of_le (by simp) hb1.size
  clear hb1 HX0 HB0
  obtain ⟨x0, x1⟩ := HX1.out
  go_wp2_with fail
  refine (Prorate_any A f t f t ba a n cap l w1 (HC.out.below HB1.out) HN.out HM.out).mono ?_
  rintro e w2 ⟨n1, e1, rfl, hp1, hb2⟩
  have HB2 := Lib.hid (HB1.out.trans (hb2.mono HB1.out.size))
  have HX2 := Lib.hid (HX1.out.below hb2 hg1)
  have hg2 : w.heap.size < w2.heap.size := Nat.lt_of_lt_of_le hg1 hb2.size
  have HP1 := Lib.hid hp1
  clear hb2 HX1 HB1 x0 x1 hp1
  by_cases he1 : e1 = 0
  · subst he1
    obtain ⟨pf0, pft, pt1⟩ := perB_iff.1 (pro_ok HP1.out).2.2.1
    obtain ⟨cb0, cb1⟩ := choose_bd ct (t - f + 1) (by omega)
    have HCH := Lib.hid (fun w => choose_any ct (t - f + 1) w HWC.out.1 HWC.out.2 (by omega) (by omega))
    obtain ⟨y0, y1⟩ := HX2.out
    generalize chooseI ct (t - f + 1) = q at *
    go_wp2_with fail
    go_quiet ((go_at_call 29; exact Calls.quiet_of_same (HCH.out _)))
    have HB3 := Lib.hid (below_dN HB2.out nq)
    have HX3 : Hid (PBox (w2.drewN nq) w.heap.size f t) := HX2.out
    have hg3 : w.heap.size < (w2.drewN nq).heap.size := hg2
    clear HB2 HX2 hg2 y0 y1
    generalize w2.drewN nq = w3 at *
    have hc1 : f ≤ f + q := by omega
    have hc2 : f + q ≤ t := by omega
    obtain ⟨x0, x1⟩ := HX3.out
    go_wp2_with fail
    refine (Prorate_any A f t f (f + q - 1) ba a n cap l w3 (HC.out.below HB3.out) HN.out HM.out).mono ?_
    rintro e w4 ⟨n2, e2, rfl, hpp, hbb⟩
    have HB4 := Lib.hid (HB3.out.trans (hbb.mono HB3.out.size))
    have HX4 := Lib.hid (HX3.out.below hbb hg3)
    have hg4 : w.heap.size < w4.heap.size := Nat.lt_of_lt_of_le hg3 hbb.size
    have HP2 := Lib.hid hpp
    clear hbb hpp x0 x1 HB3 HX3 hg3
    obtain ⟨x0, x1⟩ := HX4.out
    go_wp2_with fail
    refine (Prorate_any A f t (f + q) t ba a n cap l w4 (HC.out.below HB4.out) HN.out HM.out).mono ?_
    rintro e w5 ⟨n3, e3, rfl, hpp, hbb⟩
    have HB5 := Lib.hid (HB4.out.trans (hbb.mono HB4.out.size))
    have HX5 := Lib.hid (HX4.out.below hbb hg4)
    have hg5 : w.heap.size < w5.heap.size := Nat.lt_of_lt_of_le hg4 hbb.size
    have HP3 := Lib.hid hpp
    clear hbb hpp x0 x1 HB4 HX4 hg4
    obtain ⟨x0, x1⟩ := HX5.out
    go_wp2_with fail
    refine (Prorate_any A f t (t + 1) (t + 9) ba a n cap l w5 (HC.out.below HB5.out) HN.out HM.out).mono ?_
    rintro e w6 ⟨n4, e4, rfl, hpp, hbb⟩
    have HB6 := Lib.hid (HB5.out.trans (hbb.mono HB5.out.size))
    have HX6 := Lib.hid (HX5.out.below hbb hg5)
    have hg6 : w.heap.size < w6.heap.size := Nat.lt_of_lt_of_le hg5 hbb.size
    have HP4 := Lib.hid hpp
    clear hbb hpp x0 x1 HB5 HX5 hg5
    obtain ⟨x0, x1⟩ := HX6.out
    obtain ⟨rfl, rfl, rfl, r1, r4, ⟨s0, s1⟩, hday, ⟨b20, b21⟩, ⟨b30, b31⟩, hmon, hper⟩ := four hc1 hc2 HP1.out HP2.out HP3.out HP4.out
    subst r4
    have HD := Lib.hid hday
    have HPR := Lib.hid hper
    obtain ⟨m0, m1⟩ := monB_iff.1 hmon
    obtain ⟨a0, a1⟩ := abs_one s0 s1
    clear hday hper hmon HP1 HP2 HP3 HP4
    have HN1 := Lib.hid r1
    rw [HN1.out]
    clear r1
    have hne : (A != A) = false := by simp
    go_wp2_with fail
    refine (abs_any (n2 + n3 - A) _ (by omega) (by omega)).mono ?_
    rintro e w7 ⟨rfl, h7⟩
    subst w7
    have hab : decide (1 < absI (n2 + n3 - A)) = false := decide_eq_false (by omega)
    generalize absI (n2 + n3 - A) = ab at *
    go_wp2_with fail
    have HB7 := Lib.hid (HB6.out.alloc HB6.out.size (.cells #[.int .i64 (f + q)] 3))
    refine (Split_any A f t (some ⟨w6.heap.size, 0, none⟩) 1 1 [f + q] _ (.inr ⟨_, _, rfl, at_one w6 (f + q)⟩) rfl (by unfold maxLen; omega)).mono ?_
    rintro e w8 ⟨v, er, rfl, hv, hb8⟩
    have HB8 := Lib.hid (HB7.out.trans (hb8.mono HB7.out.size))
    clear hb8 HB7 x0 x1
    rcases hv with ⟨hE, rfl, rfl⟩ | ⟨hE, rfl, g, c, rfl, _, ho⟩
    · have hEB : decide (splE A f t [f + q] = 0) = false := decide_eq_false hE
      go_wp2_with fail
      go_ret
      exact ⟨rfl, HB8.out⟩
    · obtain ⟨q1, q2, q3, q4, q5, q6, q7⟩ := split_two HPR.out hE
      have HL : Hid ((shareL A (lens f t [f + q])).length = 2) := by rw [Hid, shareL_length, lens_length]; rfl
      have z0 := (ho.2 0 (by rw [HL.out]; omega)).1
      have z1 := (ho.2 1 (by rw [HL.out]; omega)).1
      have hfl : 0 ≤ A * (f + q - f) / (t - f + 1) ∧ A * (f + q - f) / (t - f + 1) ≤ A := by
        refine ⟨Int.ediv_nonneg (Int.mul_nonneg q6 (by omega)) (by omega), ?_⟩
        have h1 : A * (f + q - f) ≤ A * (t - f + 1) := Int.mul_le_mul_of_nonneg_left (by omega) q6
        have h2 := Int.ediv_le_ediv (show 0 < t - f + 1 by omega) h1
        rwa [Int.mul_ediv_cancel _ (show t - f + 1 ≠ 0 by omega)] at h2
      have HDD := Lib.hid (fun hb => HD.out hb q1)
      have hrf := rd_floor (A * (f + q - f)) (t - f + 1) 5
      clear hE ho HD
      generalize nth (shareL A (lens f t [f + q])) 0 = l0 at *
      generalize nth (shareL A (lens f t [f + q])) 1 = l1 at *
      have v0 : 0 ≤ l0 := by omega
      have v1 : l0 ≤ 1000000000001 := by omega
      have v2 : -1000000000001 ≤ l1 := by omega
      have v3 : l1 ≤ 1000000000000 := by omega
      obtain rfl : l1 = A - l0 := by omega
      have hq3b : decide (l0 + (A - l0) = A) = true := decide_eq_true (by omega)
      have hq3a : (l0 + (A - l0) == A) = true := by simp; omega
      by_cases hba : ba = 1
      · have e := HDD.out hba
        subst hba
        have hd0 : -1 ≤ l0 - n2 := by rw [e]; omega
        have hd1 : l0 - n2 ≤ 1 := by rw [e]; omega
        clear q4 q5 hfl hrf
        obtain ⟨k0, k1⟩ := abs_one hd0 hd1
        have HAB := Lib.hid (fun w => abs_any (l0 - n2) w (by omega) (by omega))
        have hleB : decide (absI (l0 - n2) ≤ 1) = true := decide_eq_true k1
        clear e HDD
        generalize absI (l0 - n2) = ab2 at *
        go_wp2_with fail
        go_quiet ((go_at_call 30; exact Calls.quiet_of_same (HAB.out _)))
        go_wp2_with fail
        go_ret
        exact ⟨rfl, below_dN HB8.out _⟩
      · have hbaB : (ba != 1) = true := by simpa using hba
        clear q4 q5 hfl hrf HDD
        go_wp2_with fail
        go_quiet (fail)
        go_wp2_with fail
        go_ret
        exact ⟨rfl, below_dN HB8.out _⟩
  · have he1B : decide (e1 = 0) = false := decide_eq_false he1
    go_wp2_with fail
    go_ret
    exact ⟨rfl, HB2.out⟩
end Go.Proofs.Ytbbmgainmomafaa
