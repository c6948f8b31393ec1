/-
  The walks of the laws HoursPairs, HoursWithin and HoursWorked: each answers true at every input.
-/
import Derived.Test.YtikkeidapgmcnaaUBegun
namespace Go.Proofs.Ytikkeidapgmcnaa
open Go.RowKit

set_option maxRecDepth 100000 in
set_option maxHeartbeats 1000000 in
theorem walk_hoursPairs (a : Option Addr) (n cap : Nat) (l : List Int) {w : World} (hc : Came w a l) (hn : l.length = n) (hm : n ≤ maxLen) (_ : ∀ x ∈ l, (Lit.int .i64 x).wf = true) :
    Calls Try.prog 3 #[.slice a n cap] w fun e w' => e = .returned (.bool true) ∧ Below w.heap.size w w' := by
  have hm' : n ≤ 9223372036854775807 := by unfold maxLen at hm; omega
  have HC := Lib.hid hc
  have HM := Lib.hid hm
  have HN := Lib.hid hn
  clear hm hc hn
  go_enter Try.func3, Try.ntmps3
  go_wp2_with fail
  refine (Pairs_any a n cap l _ HC.out HN.out HM.out).mono ?_
  rintro e w1 ⟨v, er, rfl, ⟨rfl, hp⟩, hb1⟩
  have HB1 := Lib.hid hb1
  have HC1 := Lib.hid (HC.out.below hb1)
  clear hb1
  rcases hp with ⟨hte, rfl⟩ | ⟨hte, x, c, rfl, hcx⟩
  · have hne : (timesE l != 0) = true := by simp [hte]
    have hne' : decide (timesE l = 0) = false := decide_eq_false hte
    go_wp2_with fail
    refine (checkTimes_ref a n cap l _ HC1.out HN.out HM.out).mono ?_
    rintro e w2 ⟨rfl, hb2⟩
    have HB2 := Lib.hid (HB1.out.trans (hb2.mono HB1.out.size))
    clear hb2
    go_wp2_with fail
    refine (begun_any _).mono ?_
    rintro e w3 ⟨rfl, hb3⟩
    have HB3 := Lib.hid (HB2.out.trans (hb3.mono HB2.out.size))
    clear hb3
    go_wp2_with fail
    refine (begun_any _).mono ?_
    rintro e w4 ⟨rfl, hb4⟩
    have HB4 := Lib.hid (HB3.out.trans (hb4.mono HB3.out.size))
    clear hb4
    go_wp2_with fail
    go_ret
    exact ⟨uret_bool (by simp), HB4.out⟩
  · have HCX1 := Lib.hid hcx
    clear hcx
    rw [hte]
    go_wp2_with fail
    refine (checkTimes_ref a n cap l _ HC1.out HN.out HM.out).mono ?_
    rintro e w2 ⟨rfl, hb2⟩
    have HB2 := Lib.hid (HB1.out.trans (hb2.mono HB1.out.size))
    have HC2 := Lib.hid (HC1.out.below hb2)
    have HCX2 := Lib.hid (HCX1.out.below hb2)
    clear hb2
    rw [hte]
    go_wp2_with fail
    refine (begun_any _).mono ?_
    rintro e w3 ⟨rfl, hb3⟩
    have HB3 := Lib.hid (HB2.out.trans (hb3.mono HB2.out.size))
    have HO := Lib.hid (fun h0 => (HC2.out.below hb3).open HN.out h0)
    have HOX := Lib.hid (fun h0 => (HCX2.out.below hb3).open HN.out h0)
    clear hb3 HC2 HCX2 HC1 HCX1
    have hz0 := timesE_zero hte
    obtain ⟨m, hnm⟩ : ∃ m, n = 2 * m := ⟨n / 2, by have := HN.out; omega⟩
    have hm20 : m ≤ 20 := by have := HN.out; omega
    have hlen : l.length / 2 = m := by have := HN.out; omega
    rw [hlen]
    have HNM := Lib.hid hnm
    have hq1 : (n : Int) / 2 = (m : Int) := by omega
    have hq2 : (n : Int).tdiv 2 = (m : Int) := by rw [Int.tdiv_eq_ediv_of_nonneg (by omega)]; omega
    clear hte hz0 hnm hlen
    go_wp2_with fail
    go_loopw [6] (fun iv wr => ∃ k : Nat, k ≤ m ∧ iv = .int .i64 k ∧ ∃ q, wr = w3.drewN q) (fun iv _ => m - (intOf iv).toNat)
    case atStart => exact ⟨0, Nat.zero_le _, rfl, 0, rfl⟩
    case round =>
      obtain ⟨k, hk, rfl, q, rfl⟩ := hrel
      by_cases hlt : k < m
      · have hlt' : (k : Int) < (m : Int) := by omega
        obtain ⟨b, off, rfl, hcell⟩ := HO.out (by have := HNM.out; omega)
        obtain ⟨b2, off2, rfl, hcell2⟩ := HOX.out (by have := HNM.out; omega)
        have x0 := hcell _ (Below.refl _ _) (2 * k) (by have := HNM.out; omega)
        have x1 := hcell _ (Below.refl _ _) (2 * k + 1) (by have := HNM.out; omega)
        have y0 := hcell2 _ (Below.refl _ _) (k * 2) (by have := HNM.out; omega)
        have y1 := hcell2 _ (Below.refl _ _) (k * 2 + 1) (by have := HNM.out; omega)
        rw [← Nat.add_assoc] at y1
        rw [Nat.mul_comm k 2] at y0 y1
        clear hcell hcell2
        have hlt2 : 2 * (k : Int) < (n : Int) := by have := HNM.out; omega
        have hlt3 : 2 * (k : Int) + 1 < (n : Int) := by have := HNM.out; omega
        have htn : (2 * (k : Int)).toNat = 2 * k := by omega
        have htn1 : (2 * (k : Int) + 1).toNat = 2 * k + 1 := by omega
        have hw1 : IntKind.i64.wrap (2 * (k : Int)) = 2 * (k : Int) := IntWalk.i64_in _ (by omega)
        have hw2 : IntKind.i64.wrap (2 * (k : Int) + 1) = 2 * (k : Int) + 1 := IntWalk.i64_in _ (by omega)
        rw [Nat.mul_comm 2 k] at y0 y1
        generalize hp : nth l (2 * k) = p at *
        generalize hqq : nth l (2 * k + 1) = r at *
        rw [Nat.mul_comm k 2, hp] at y0
        rw [Nat.mul_comm k 2, hqq] at y1
        clear hp hqq
        rw [Nat.mul_comm 2 k] at y0 y1
        have hpp : (p != p) = false := by simp
        have hrr : (r != r) = false := by simp
        go_wp2_with fail
        go_quiet (fail)
        go_wp2_with fail
        go_roundw
        case rel => exact ⟨k + 1, by omega, by go_num, _, rfl⟩
        case measure => simp [intOf]; omega
      · obtain rfl : k = m := by omega
        go_wp2_with fail
        go_ret
        exact ⟨rfl, ubelow_dN HB3.out _⟩
set_option maxRecDepth 100000 in
set_option maxHeartbeats 1000000 in
theorem walk_hoursWithin (a : Option Addr) (n cap : Nat) (l : List Int) {w : World} (hc : Came w a l) (hn : l.length = n) (hm : n ≤ maxLen) (_ : ∀ x ∈ l, (Lit.int .i64 x).wf = true) (f : Int) (_ : (Lit.int .i64 f).wf = true) (t : Int) (_ : (Lit.int .i64 t).wf = true) :
    Calls Try.prog 5 #[.slice a n cap, .int .i64 f, .int .i64 t] w fun e w' => e = .returned (.bool true) ∧ Below w.heap.size w w' := by
  have HC := Lib.hid hc
  have HM := Lib.hid hm
  have HN := Lib.hid hn
  clear hm hc hn
  go_enter Try.func5, Try.ntmps5
  go_wp2_with fail
  refine (Within_any a n cap l f t _ HC.out HN.out HM.out).mono ?_
  rintro e w1 ⟨rfl, hb1⟩
  have HB1 := Lib.hid hb1
  have HC1 := Lib.hid (HC.out.below hb1)
  clear hb1
  go_wp2_with fail
  refine (checkTimes_ref a n cap l _ HC1.out HN.out HM.out).mono ?_
  rintro e w2 ⟨rfl, hb2⟩
  have HB2 := Lib.hid (HB1.out.trans (hb2.mono HB1.out.size))
  have HC2 := Lib.hid (HC1.out.below hb2)
  clear hb2
  by_cases hbad : f < 0 ∨ t < f ∨ 1440 < t
  · obtain ⟨e1, e2⟩ := withinE_bad (l := l) hbad
    rw [e1, e2]
    clear e1 e2
    by_cases h1 : f < 0
    · go_wp2_with fail
      refine (begun_any _).mono ?_
      rintro e w3 ⟨rfl, hb3⟩
      have HB3 := Lib.hid (HB2.out.trans (hb3.mono HB2.out.size))
      clear hb3
      go_wp2_with fail
      refine (numberIs_same (0) (3) _ (fun _ => rfl)).mono ?_
      rintro e w4 ⟨rfl, h4⟩
      subst w4
      go_wp2_with fail
      go_ret
      exact ⟨rfl, HB3.out⟩
    · have h1B : decide (f < 0) = false := decide_eq_false h1
      by_cases h2 : t < f
      · go_wp2_with fail
        refine (begun_any _).mono ?_
        rintro e w3 ⟨rfl, hb3⟩
        have HB3 := Lib.hid (HB2.out.trans (hb3.mono HB2.out.size))
        clear hb3
        go_wp2_with fail
        refine (numberIs_same (0) (3) _ (fun _ => rfl)).mono ?_
        rintro e w4 ⟨rfl, h4⟩
        subst w4
        go_wp2_with fail
        go_ret
        exact ⟨rfl, HB3.out⟩
      · have h2B : decide (t < f) = false := decide_eq_false h2
        have h3 : 1440 < t := by omega
        go_wp2_with fail
        refine (begun_any _).mono ?_
        rintro e w3 ⟨rfl, hb3⟩
        have HB3 := Lib.hid (HB2.out.trans (hb3.mono HB2.out.size))
        clear hb3
        go_wp2_with fail
        refine (numberIs_same (0) (3) _ (fun _ => rfl)).mono ?_
        rintro e w4 ⟨rfl, h4⟩
        subst w4
        go_wp2_with fail
        go_ret
        exact ⟨rfl, HB3.out⟩
  · have h1 : ¬ f < 0 := by omega
    have h2 : ¬ t < f := by omega
    have h3 : ¬ 1440 < t := by omega
    have h1B : decide (f < 0) = false := decide_eq_false h1
    have h2B : decide (t < f) = false := decide_eq_false h2
    have h3B : decide (1440 < t) = false := decide_eq_false h3
    by_cases hte : timesE l = 0
    · have e1 := withinE_times (l := l) hbad
      have e2 := withinN_ok (l := l) hbad hte
      rw [wsum_mins hte (by omega)] at e2
      rw [e1, e2, hte]
      have hl40 : n ≤ 40 := by have := (timesE_zero hte).1; rw [HN.out] at this; exact this
      clear e1 e2 hbad
      go_wp2_with fail
      refine (MinutesOf_any a n cap l f t _ HC2.out HN.out hl40 (by omega) (by omega) (by omega)).mono ?_
      rintro e w' ⟨rfl, h'⟩
      subst w'
      go_wp2_with fail
      refine (begun_any _).mono ?_
      rintro e w3 ⟨rfl, hb3⟩
      have HB3 := Lib.hid (HB2.out.trans (hb3.mono HB2.out.size))
      clear hb3
      go_wp2_with fail
      refine (numberIs_same (mins l f (t - f).toNat) (0) _ (fun h => absurd rfl h)).mono ?_
      rintro e w4 ⟨rfl, h4⟩
      subst w4
      go_wp2_with fail
      go_ret
      exact ⟨rfl, HB3.out⟩
    · have e1 := withinE_times (l := l) hbad
      have e2 := withinN_times (l := l) hbad hte
      rw [e1, e2]
      clear e1 e2 hbad
      have hne : (timesE l == 0) = false := by simp [hte]
      have hne' : decide (timesE l = 0) = false := decide_eq_false hte
      go_wp2_with fail
      refine (begun_any _).mono ?_
      rintro e w3 ⟨rfl, hb3⟩
      have HB3 := Lib.hid (HB2.out.trans (hb3.mono HB2.out.size))
      clear hb3
      go_wp2_with fail
      refine (numberIs_same (0) (timesE l) _ (fun _ => rfl)).mono ?_
      rintro e w4 ⟨rfl, h4⟩
      subst w4
      go_wp2_with fail
      go_ret
      exact ⟨rfl, HB3.out⟩
set_option maxRecDepth 100000 in
set_option maxHeartbeats 1000000 in
theorem walk_hoursWorked (a : Option Addr) (n cap : Nat) (l : List Int) {w : World} (hc : Came w a l) (hn : l.length = n) (hm : n ≤ maxLen) (_ : ∀ x ∈ l, (Lit.int .i64 x).wf = true) (s : Int) (_ : (Lit.int .i64 s).wf = true) (way : Int) (_ : (Lit.int .i64 way).wf = true) :
    Calls Try.prog 4 #[.slice a n cap, .int .i64 s, .int .i64 way] w fun e w' => e = .returned (.bool true) ∧ Below w.heap.size w w' := by
  have HC := Lib.hid hc
  have HM := Lib.hid hm
  have HN := Lib.hid hn
  clear hm hc hn
  go_enter Try.func4, Try.ntmps4
  go_wp2_with fail
  refine (Worked_any a n cap l s way _ HC.out HN.out HM.out).mono ?_
  rintro e w1 ⟨rfl, hb1⟩
  have HB1 := Lib.hid hb1
  have HC1 := Lib.hid (HC.out.below hb1)
  clear hb1
  go_wp2_with fail
  refine (checkTimes_ref a n cap l _ HC1.out HN.out HM.out).mono ?_
  rintro e w2 ⟨rfl, hb2⟩
  have HB2 := Lib.hid (HB1.out.trans (hb2.mono HB1.out.size))
  have HC2 := Lib.hid (HC1.out.below hb2)
  clear hb2
  by_cases h1 : way < 1
  · have e1 := workedE_way (l := l) (s := s) (way := way) (decide_eq_false (by omega))
    have e2 := workedN_bad (l := l) (s := s) (way := way) (by rw [e1]; decide)
    rw [e1, e2]
    clear e1 e2
    go_wp2_with fail
    refine (begun_any _).mono ?_
    rintro e w3 ⟨rfl, hb3⟩
    have HB3 := Lib.hid (HB2.out.trans (hb3.mono HB2.out.size))
    clear hb3
    go_wp2_with fail
    refine (numberIs_same (0) (7) _ (fun _ => rfl)).mono ?_
    rintro e w4 ⟨rfl, h4⟩
    subst w4
    go_wp2_with fail
    go_ret
    exact ⟨rfl, HB3.out⟩
  · have h1B : decide (way < 1) = false := decide_eq_false h1
    by_cases h2 : 6 < way
    · have e1 := workedE_way (l := l) (s := s) (way := way) (decide_eq_false (by omega))
      have e2 := workedN_bad (l := l) (s := s) (way := way) (by rw [e1]; decide)
      rw [e1, e2]
      clear e1 e2
      go_wp2_with fail
      refine (begun_any _).mono ?_
      rintro e w3 ⟨rfl, hb3⟩
      have HB3 := Lib.hid (HB2.out.trans (hb3.mono HB2.out.size))
      clear hb3
      go_wp2_with fail
      refine (numberIs_same (0) (7) _ (fun _ => rfl)).mono ?_
      rintro e w4 ⟨rfl, h4⟩
      subst w4
      go_wp2_with fail
      go_ret
      exact ⟨rfl, HB3.out⟩
    · have h2B : decide (6 < way) = false := decide_eq_false h2
      have hwB : wayB way = true := decide_eq_true (by omega)
      by_cases h3 : s < 1
      · have e1 := workedE_step (l := l) (s := s) hwB (.inl h3)
        have e2 := workedN_bad (l := l) (s := s) (way := way) (by rw [e1]; decide)
        rw [e1, e2]
        clear e1 e2
        go_wp2_with fail
        refine (begun_any _).mono ?_
        rintro e w3 ⟨rfl, hb3⟩
        have HB3 := Lib.hid (HB2.out.trans (hb3.mono HB2.out.size))
        clear hb3
        go_wp2_with fail
        refine (numberIs_same (0) (3) _ (fun _ => rfl)).mono ?_
        rintro e w4 ⟨rfl, h4⟩
        subst w4
        go_wp2_with fail
        go_ret
        exact ⟨rfl, HB3.out⟩
      · have h3B : decide (s < 1) = false := decide_eq_false h3
        by_cases h4 : 60 < s
        · have e1 := workedE_step (l := l) (s := s) hwB (.inr h4)
          have e2 := workedN_bad (l := l) (s := s) (way := way) (by rw [e1]; decide)
          rw [e1, e2]
          clear e1 e2
          go_wp2_with fail
          refine (begun_any _).mono ?_
          rintro e w3 ⟨rfl, hb3⟩
          have HB3 := Lib.hid (HB2.out.trans (hb3.mono HB2.out.size))
          clear hb3
          go_wp2_with fail
          refine (numberIs_same (0) (3) _ (fun _ => rfl)).mono ?_
          rintro e w4 ⟨rfl, h4⟩
          subst w4
          go_wp2_with fail
          go_ret
          exact ⟨rfl, HB3.out⟩
        · have h4B : decide (60 < s) = false := decide_eq_false h4
          have e1 := workedE_times (l := l) (s := s) hwB (by omega)
          by_cases hte : timesE l = 0
          · have e2 := workedN_ok (l := l) (s := s) (way := way) (by rw [e1, hte])
            have hbd := wsum_bd l (f := 0) (t := 1440) (by omega) (by omega) (l.length / 2)
            have hl40 := (timesE_zero hte).1
            have hl20 : 1440 * ((l.length / 2 : Nat) : Int) ≤ 28800 := by omega
            rw [wsum_mins hte (by omega), Int.mul_comm] at e2
            rw [wsum_mins hte (by omega)] at hbd
            have hl40' : n ≤ 40 := by rw [HN.out] at hl40; exact hl40
            generalize hMM : mins l 0 (1440 - 0 : Int).toNat = M at e2 hbd
            have HMM := Lib.hid hMM
            have hM1 : M ≤ 28800 := by omega
            have hnear := rd_near M s way (by omega)
            generalize hRR : rd M s way = R at e2 hnear
            have HRR := Lib.hid hRR
            rw [e1, e2, hte]
            clear e1 e2 hte hMM hRR hl20 hl40
            rw [Int.mul_comm R s] at hnear
            have hw1 : IntKind.i64.wrap (s * R) = s * R := IntWalk.i64_in _ (by omega)
            go_wp2_with fail
            refine (MinutesOf_any a n cap l 0 1440 _ HC2.out HN.out hl40' (by omega) (by omega) (by omega)).mono ?_
            rintro e w' ⟨rfl, h'⟩
            subst w'
            rw [HMM.out]
            go_wp2_with fail
            refine (rounded_ref M s way _ (by omega) (by omega) (by omega) (by omega) (by omega)).mono ?_
            rintro e w' ⟨rfl, h'⟩
            subst w'
            rw [HRR.out]
            go_wp2_with fail
            refine (begun_any _).mono ?_
            rintro e w3 ⟨rfl, hb3⟩
            have HB3 := Lib.hid (HB2.out.trans (hb3.mono HB2.out.size))
            clear hb3
            go_wp2_with fail
            refine (numberIs_same (s * R) (0) _ (fun h => absurd rfl h)).mono ?_
            rintro e w4 ⟨rfl, h4⟩
            subst w4
            go_wp2_with fail
            go_ret
            exact ⟨rfl, HB3.out⟩
          · have e2 := workedN_bad (l := l) (s := s) (way := way) (by rw [e1]; exact hte)
            rw [e1, e2]
            clear e1 e2
            have hne : (timesE l == 0) = false := by simp [hte]
            have hne' : decide (timesE l = 0) = false := decide_eq_false hte
            go_wp2_with fail
            refine (begun_any _).mono ?_
            rintro e w3 ⟨rfl, hb3⟩
            have HB3 := Lib.hid (HB2.out.trans (hb3.mono HB2.out.size))
            clear hb3
            go_wp2_with fail
            refine (numberIs_same (0) (timesE l) _ (fun _ => rfl)).mono ?_
            rintro e w4 ⟨rfl, h4⟩
            subst w4
            go_wp2_with fail
            go_ret
            exact ⟨rfl, HB3.out⟩
end Go.Proofs.Ytikkeidapgmcnaa
