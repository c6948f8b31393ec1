/-
  Promise K2: the walks of Within and of the reference's There and MinutesOf.
-/
import Derived.Test.YtikkeidapgmcnaaUTimes
namespace Go.Proofs.Ytikkeidapgmcnaa
open Go.RowKit

theorem uret22 {a b c d : Int} (h : a = b) (k : c = d) : Ending.returned (.tuple #[.int .i64 a, .int .i64 c]) = .returned (.tuple #[.int .i64 b, .int .i64 d]) := by rw [h, k]
/-- What is wrong with times and two of them; and the minutes. -/
def withinE (l : List Int) (f t : Int) : Int := if f < 0 ∨ t < f ∨ 1440 < t then 3 else timesE l
def withinN (l : List Int) (f t : Int) : Int := if withinE l f t = 0 then wsum l f t (l.length / 2) else 0
theorem withinE_bad {l : List Int} {f t : Int} (h : f < 0 ∨ t < f ∨ 1440 < t) : withinE l f t = 3 ∧ withinN l f t = 0 := by
  have : withinE l f t = 3 := by unfold withinE; rw [if_pos h]
  exact ⟨this, by unfold withinN; rw [this]; rfl⟩
theorem withinE_times {l : List Int} {f t : Int} (h : ¬ (f < 0 ∨ t < f ∨ 1440 < t)) : withinE l f t = timesE l := by unfold withinE; rw [if_neg h]
theorem withinN_times {l : List Int} {f t : Int} (h : ¬ (f < 0 ∨ t < f ∨ 1440 < t)) (h2 : timesE l ≠ 0) : withinN l f t = 0 := by unfold withinN; rw [withinE_times h, if_neg h2]
theorem withinN_ok {l : List Int} {f t : Int} (h : ¬ (f < 0 ∨ t < f ∨ 1440 < t)) (h2 : timesE l = 0) : withinN l f t = wsum l f t (l.length / 2) := by unfold withinN; rw [withinE_times h, if_pos h2]
theorem wsum_bd (l : List Int) {f t : Int} (hf : 0 ≤ f) (ht : t ≤ 1440) : ∀ k : Nat, 0 ≤ wsum l f t k ∧ wsum l f t k ≤ 1440 * k
  | 0 => by simp [wsum]
  | k + 1 => by
    have ih := wsum_bd l hf ht k
    rw [wsum]
    unfold one
    omega
set_option maxHeartbeats 1000000 in
theorem There_any (a : Option Addr) (n cap : Nat) (l : List Int) (t : Int) (w : World) (hc : Came w a l) (hn : l.length = n) (hm : n ≤ 40) :
    Calls Try.prog 27 #[.slice a n cap, .int .i64 t] w fun e w' => e = .returned (.bool (thereB l t)) ∧ w' = w := by
  have HO := Lib.hid (fun h0 => hc.open hn h0)
  have HN := Lib.hid hn
  clear hc hn
  go_enter Try.func27, Try.ntmps27
  go_wp2_with fail
  go_loop [5, 6] (fun nv iv => ∃ k : Nat, k ≤ n ∧ iv = .int .i64 k ∧ nv = .int .i64 (upto l t k)) (fun _ iv => n - (intOf iv).toNat)
  case atStart => exact ⟨0, Nat.zero_le _, rfl, rfl⟩
  case round =>
    obtain ⟨k, hk, rfl, rfl⟩ := hrel
    have hbd := upto_bd l t k
    have HS : Hid (upto l t (k + 1) = upto l t k + if nth l k ≤ t then 1 else 0) := rfl
    by_cases hlt : k < n
    · have hlt' : (k : Int) < (n : Int) := by omega
      obtain ⟨b, off, rfl, hcell⟩ := HO.out (by omega)
      have x0 := hcell w (Below.refl _ _) k hlt
      clear hcell
      by_cases h : nth l k ≤ t
      · have hB : decide (nth l k ≤ t) = true := decide_eq_true h
        go_wp2_with fail
        go_round
        case rel => exact ⟨k + 1, by omega, by go_num, by rw [HS.out, if_pos h]⟩
        case measure => simp [intOf]; omega
      · have hB : decide (nth l k ≤ t) = false := decide_eq_false h
        go_wp2_with fail
        go_round
        case rel => exact ⟨k + 1, by omega, by go_num, by rw [HS.out, if_neg h]; go_num⟩
        case measure => simp [intOf]; omega
    · obtain rfl : k = n := by omega
      have HT : Hid (thereB l t = decide (upto l t k % 2 = 1)) := by unfold Hid thereB; rw [HN.out]
      have hnl : ¬ ((k : Int) < (k : Int)) := by omega
      have hr2 : (upto l t k).tmod 2 = upto l t k % 2 := Int.tmod_eq_emod_of_nonneg (by omega)
      clear HS
      go_wp2_with fail
      go_ret
      exact ⟨uret_bool (by rw [HT.out]; rfl), rfl⟩
set_option maxHeartbeats 1000000 in
theorem MinutesOf_any (a : Option Addr) (n cap : Nat) (l : List Int) (f t : Int) (w : World) (hc : Came w a l) (hn : l.length = n) (hm : n ≤ 40) (hf : 0 ≤ f) (hft : f ≤ t) (ht : t ≤ 1440) :
    Calls Try.prog 15 #[.slice a n cap, .int .i64 f, .int .i64 t] w fun e w' => e = .returned (.int .i64 (mins l f (t - f).toNat)) ∧ w' = w := by
  have HC := Lib.hid hc
  have HN := Lib.hid hn
  clear hc hn
  obtain ⟨m, hmt⟩ : ∃ m : Nat, t = f + m := ⟨(t - f).toNat, by omega⟩
  have HM : Hid ((t - f).toNat = m) := by unfold Hid; omega
  have HT := Lib.hid hmt
  have hm1 : m ≤ 1440 := by omega
  clear hmt
  go_enter Try.func15, Try.ntmps15
  go_wp2_with fail
  go_loop [7, 8] (fun nv iv => ∃ k : Nat, k ≤ m ∧ iv = .int .i64 (f + k) ∧ nv = .int .i64 (mins l f k)) (fun _ iv => (t - intOf iv).toNat)
  case atStart => exact ⟨0, Nat.zero_le _, by go_num, rfl⟩
  case round =>
    obtain ⟨k, hk, rfl, rfl⟩ := hrel
    have hbd := mins_bd l f k
    have HS : Hid (mins l f (k + 1) = mins l f k + if thereB l (f + k) = true then 1 else 0) := rfl
    by_cases hlt : k < m
    · have hlt' : f + (k : Int) < t := by have := HT.out; omega
      go_wp2_with fail
      refine (There_any a n cap l _ _ HC.out HN.out hm).mono ?_
      rintro e w' ⟨rfl, h'⟩
      subst w'
      by_cases h : thereB l (f + k) = true
      · rw [h]
        go_wp2_with fail
        go_round
        case rel => exact ⟨k + 1, by omega, uval (by omega), by rw [HS.out, if_pos h]⟩
        case measure => simp [intOf]; omega
      · have h' : thereB l (f + k) = false := by simpa using h
        rw [h']
        go_wp2_with fail
        go_round
        case rel => exact ⟨k + 1, by omega, uval (by omega), by rw [HS.out, if_neg h]; go_num⟩
        case measure => simp [intOf]; omega
    · obtain rfl : k = m := by omega
      have hnl : ¬ (f + (k : Int) < t) := by have := HT.out; omega
      go_wp2_with fail
      go_ret
      exact ⟨uret_int (by rw [HM.out]), rfl⟩
set_option maxRecDepth 100000 in
set_option maxHeartbeats 2000000 in
theorem Within_any (a : Option Addr) (n cap : Nat) (l : List Int) (f t : Int) (w : World) (hc : Came w a l) (hn : l.length = n) (hm : n ≤ maxLen) :
    Calls Try.prog 17 #[.slice a n cap, .int .i64 f, .int .i64 t] w fun e w' => e = .returned (.tuple #[.int .i64 (withinN l f t), .int .i64 (withinE l f t)]) ∧ Below w.heap.size w w' := by
  have HC := Lib.hid hc
  have HM := Lib.hid hm
  have HN := Lib.hid hn
  clear hm hc hn
  cases hfT : timeB f
  · have HE := Lib.hid (withinE_bad (l := l) (f := f) (t := t) (by have := timeB_no.1 hfT; omega))
    go_enter Try.func17, Try.ntmps17
    go_wp2_with (go_at_call 24; refine (isNoTime_any _ _).mono ?_; rintro e w' ⟨rfl, h'⟩; subst w'; rw [hfT])
    go_ret2
    exact ⟨uret22 HE.out.2.symm HE.out.1.symm, Below.refl _ _⟩
  · cases htT : timeB t
    · have HE := Lib.hid (withinE_bad (l := l) (f := f) (t := t) (by have := timeB_no.1 htT; have := timeB_iff.1 hfT; omega))
      go_enter Try.func17, Try.ntmps17
      go_wp2_with (go_at_call 24; refine (isNoTime_any _ _).mono ?_; rintro e w' ⟨rfl, h'⟩; subst w'; first | rw [hfT] | rw [htT])
      go_ret2
      exact ⟨uret22 HE.out.2.symm HE.out.1.symm, Below.refl _ _⟩
    · obtain ⟨hf0, hf1⟩ := timeB_iff.1 hfT
      obtain ⟨ht0, ht1⟩ := timeB_iff.1 htT
      by_cases htf : t < f
      · have HE := Lib.hid (withinE_bad (l := l) (f := f) (t := t) (by omega))
        go_enter Try.func17, Try.ntmps17
        go_wp2_with (go_at_call 24; refine (isNoTime_any _ _).mono ?_; rintro e w' ⟨rfl, h'⟩; subst w'; first | rw [hfT] | rw [htT])
        go_ret2
        exact ⟨uret22 HE.out.2.symm HE.out.1.symm, Below.refl _ _⟩
      · have htfB : decide (t < f) = false := decide_eq_false htf
        have HOK : Hid (¬ (f < 0 ∨ t < f ∨ 1440 < t)) := by unfold Hid; omega
        go_enter Try.func17, Try.ntmps17
        go_wp2_with (go_at_call 24; refine (isNoTime_any _ _).mono ?_; rintro e w' ⟨rfl, h'⟩; subst w'; first | rw [hfT] | rw [htT])
        refine (Pairs_any a n cap l _ HC.out HN.out HM.out).mono ?_
        rintro e w1 ⟨v, er, rfl, ⟨rfl, hp⟩, hb1⟩
        have HB1 := Lib.hid hb1
        clear hb1
        rcases hp with ⟨hte, rfl⟩ | ⟨hte, x, c, rfl, hcx⟩
        · have HE := Lib.hid (withinE_times (l := l) HOK.out)
          have HZ := Lib.hid (withinN_times (l := l) HOK.out hte)
          have hne : (timesE l != 0) = true := by simp [hte]
          have hne' : decide (timesE l = 0) = false := decide_eq_false hte
          go_wp2_with fail
          go_ret2
          exact ⟨uret22 HZ.out.symm HE.out.symm, HB1.out⟩
        · have HE : Hid (withinE l f t = 0) := by unfold Hid; rw [withinE_times HOK.out, hte]
          have HZ := Lib.hid (withinN_ok (l := l) HOK.out hte)
          have HOX := Lib.hid (fun h0 => hcx.open HN.out h0)
          have hz0 := timesE_zero hte
          obtain ⟨m, hnm⟩ : ∃ m, n = 2 * m := ⟨n / 2, by have := HN.out; omega⟩
          have hm20 : m ≤ 20 := by have := HN.out; omega
          have hlen : l.length / 2 = m := by have := HN.out; omega
          rw [hlen, hte]
          rw [hlen] at HZ
          have HNM := Lib.hid hnm
          have HTB := Lib.hid hz0.2.1
          clear hte hz0 hcx hnm hlen
          go_wp2_with fail
          go_loopw [10, 34] (fun sv iv wr => ∃ k : Nat, k ≤ m ∧ iv = .int .i64 k ∧ sv = .int .i64 (wsum l f t k) ∧ Below w1.heap.size w1 wr) (fun _ iv _ => m - (intOf iv).toNat)
          case atStart => exact ⟨0, Nat.zero_le _, rfl, rfl, Below.refl _ _⟩
          case round =>
            obtain ⟨k, hk, rfl, rfl, hb⟩ := hrel
            have HB := Lib.hid hb
            clear hb
            have hbd := wsum_bd l hf0 ht1 k
            have HS : Hid (wsum l f t (k + 1) = wsum l f t k + one (nth l (2 * k)) (nth l (2 * k + 1)) f t) := rfl
            by_cases hlt : k < m
            · have hlt' : (k : Int) < (m : Int) := by omega
              obtain ⟨b, off, rfl, hcell⟩ := HOX.out (by have := HNM.out; omega)
              have x0 := hcell _ HB.out (2 * k) (by have := HNM.out; omega)
              have x1 := hcell _ HB.out (2 * k + 1) (by have := HNM.out; omega)
              rw [Nat.mul_comm 2 k] at x0 x1
              rw [← Nat.add_assoc] at x1
              clear hcell
              rw [Nat.mul_comm 2 k] at HS
              have hp := timeB_iff.1 (timesB_nth HTB.out (j := k * 2) (by rw [HN.out, HNM.out]; omega))
              have hq := timeB_iff.1 (timesB_nth HTB.out (j := k * 2 + 1) (by rw [HN.out, HNM.out]; omega))
              generalize nth l (k * 2) = p at *
              generalize nth l (k * 2 + 1) = q at *
              generalize wsum l f t k = z at *
              by_cases h1 : t < q
              · by_cases h2 : p < f
                · by_cases h3 : 0 < t - f
                  · go_wp2_with fail
                    go_roundw
                    case rel => exact ⟨k + 1, by omega, by go_num, uval (by rw [HS.out]; unfold one; omega), HB.out.alloc HB.out.size _⟩
                    case measure => simp [intOf]; omega
                  · go_wp2_with fail
                    go_roundw
                    case rel => exact ⟨k + 1, by omega, by go_num, uval (by rw [HS.out]; unfold one; omega), HB.out.alloc HB.out.size _⟩
                    case measure => simp [intOf]; omega
                · by_cases h3 : 0 < t - p
                  · go_wp2_with fail
                    go_roundw
                    case rel => exact ⟨k + 1, by omega, by go_num, uval (by rw [HS.out]; unfold one; omega), HB.out.alloc HB.out.size _⟩
                    case measure => simp [intOf]; omega
                  · go_wp2_with fail
                    go_roundw
                    case rel => exact ⟨k + 1, by omega, by go_num, uval (by rw [HS.out]; unfold one; omega), HB.out.alloc HB.out.size _⟩
                    case measure => simp [intOf]; omega
              · by_cases h2 : p < f
                · by_cases h3 : 0 < q - f
                  · go_wp2_with fail
                    go_roundw
                    case rel => exact ⟨k + 1, by omega, by go_num, uval (by rw [HS.out]; unfold one; omega), HB.out.alloc HB.out.size _⟩
                    case measure => simp [intOf]; omega
                  · go_wp2_with fail
                    go_roundw
                    case rel => exact ⟨k + 1, by omega, by go_num, uval (by rw [HS.out]; unfold one; omega), HB.out.alloc HB.out.size _⟩
                    case measure => simp [intOf]; omega
                · by_cases h3 : 0 < q - p
                  · go_wp2_with fail
                    go_roundw
                    case rel => exact ⟨k + 1, by omega, by go_num, uval (by rw [HS.out]; unfold one; omega), HB.out.alloc HB.out.size _⟩
                    case measure => simp [intOf]; omega
                  · go_wp2_with fail
                    go_roundw
                    case rel => exact ⟨k + 1, by omega, by go_num, uval (by rw [HS.out]; unfold one; omega), HB.out.alloc HB.out.size _⟩
                    case measure => simp [intOf]; omega
            · obtain rfl : k = m := by omega
              go_wp2_with fail
              go_ret2
              exact ⟨uret22 HZ.out.symm HE.out.symm, HB1.out.trans (HB.out.mono HB1.out.size)⟩
end Go.Proofs.Ytikkeidapgmcnaa
