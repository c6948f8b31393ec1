/-
  The walk of the law HoursParts: it answers true at every input.
-/
import Derived.Test.YtikkeidapgmcnaaUBegun
namespace Go.Proofs.Ytikkeidapgmcnaa
open Go.RowKit

theorem within_ok {l : List Int} {f t : Int} (h : withinE l f t = 0) : 0 ≤ f ∧ f ≤ t ∧ t ≤ 1440 ∧ timesE l = 0 ∧ withinN l f t = mins l f (t - f).toNat := by
  unfold withinE at h
  by_cases hb : f < 0 ∨ t < f ∨ 1440 < t
  · rw [if_pos hb] at h; omega
  · rw [if_neg hb] at h
    exact ⟨by omega, by omega, by omega, h, by rw [withinN_ok hb h, wsum_mins h (by omega)]⟩
theorem within_zero {l : List Int} {f t : Int} (hf : 0 ≤ f) (hft : f ≤ t) (ht : t ≤ 1440) (h : timesE l = 0) : withinE l f t = 0 := by
  rw [withinE_times (by omega), h]
theorem parts_pure {l : List Int} {f m t : Int} (h1 : withinE l f m = 0) (h2 : withinE l m t = 0) :
    withinE l f t = 0 ∧ workedE l 1 1 = 0 ∧ withinE l 0 1440 = 0 ∧ withinN l f t = withinN l f m + withinN l m t ∧ workedN l 1 1 = withinN l 0 1440 ∧ withinN l f m + withinN l m t ≤ withinN l 0 1440 ∧ withinN l f m + withinN l m t ≤ t - f ∧ 0 ≤ withinN l f m ∧ 0 ≤ withinN l m t ∧ withinN l 0 1440 ≤ 1440 ∧ 0 ≤ f ∧ f ≤ t ∧ t ≤ 1440 := by
  obtain ⟨f0, fm, _, hte, e1⟩ := within_ok h1
  obtain ⟨m0, mt, t1, _, e2⟩ := within_ok h2
  have h3 := within_zero (l := l) f0 (show f ≤ t by omega) t1 hte
  have h4 := within_zero (l := l) (f := 0) (t := 1440) (by omega) (by omega) (by omega) hte
  obtain ⟨_, _, _, _, e3⟩ := within_ok h3
  obtain ⟨_, _, _, _, e4⟩ := within_ok h4
  have hw : workedE l 1 1 = 0 := by rw [workedE_times (by decide) (by omega), hte]
  have hN : workedN l 1 1 = withinN l 0 1440 := by
    rw [workedN_ok hw, withinN_ok (by omega) hte]
    have := rd_near (wsum l 0 1440 (l.length / 2)) 1 1 (by omega)
    omega
  have hadd : withinN l f t = withinN l f m + withinN l m t := by
    rw [e1, e2, e3]
    have := mins_add l f (m - f).toNat (t - m).toNat
    rw [show (m - f).toNat + (t - m).toNat = (t - f).toNat by omega, show f + ((m - f).toNat : Int) = m by omega] at this
    exact this
  have b1 := mins_bd l f (m - f).toNat
  have b2 := mins_bd l m (t - m).toNat
  have hall : withinN l f t ≤ withinN l 0 1440 := by
    rw [e3, e4]
    have p1 := mins_add l 0 f.toNat (t - f).toNat
    have p2 := mins_add l 0 (f.toNat + (t - f).toNat) (1440 - t).toNat
    rw [show (0 : Int) + (f.toNat : Int) = f by omega] at p1
    rw [show f.toNat + (t - f).toNat + (1440 - t).toNat = (1440 - 0 : Int).toNat by omega] at p2
    have q1 := mins_bd l 0 f.toNat
    have q2 := mins_bd l (0 + ((f.toNat + (t - f).toNat : Nat) : Int)) (1440 - t).toNat
    omega
  have b4 := mins_bd l 0 (1440 - 0 : Int).toNat
  refine ⟨h3, hw, h4, hadd, hN, by omega, ?_, by omega, by omega, by rw [e4]; omega, f0, by omega, t1⟩
  rw [e1, e2]
  omega
set_option maxRecDepth 100000 in
set_option maxHeartbeats 1000000 in
theorem walk_hoursParts (a : Option Addr) (n cap : Nat) (l : List Int) {w : World} (hc : Came w a l) (hn : l.length = n) (hm : n ≤ maxLen) (_ : ∀ x ∈ l, (Lit.int .i64 x).wf = true) (f : Int) (_ : (Lit.int .i64 f).wf = true) (m : Int) (_ : (Lit.int .i64 m).wf = true) (t : Int) (_ : (Lit.int .i64 t).wf = true) :
    Calls Try.prog 9 #[.slice a n cap, .int .i64 f, .int .i64 m, .int .i64 t] w fun e w' => e = .returned (.bool true) ∧ Below w.heap.size w w' := by
  have HC := Lib.hid hc
  have HM := Lib.hid hm
  have HN := Lib.hid hn
  clear hm hc hn
  have H1 := Lib.hid (fun w hc => Within_any a n cap l f m w hc HN.out HM.out)
  have H2 := Lib.hid (fun w hc => Within_any a n cap l m t w hc HN.out HM.out)
  have H3 := Lib.hid (fun w hc => Within_any a n cap l f t w hc HN.out HM.out)
  have H4 := Lib.hid (fun w hc => Worked_any a n cap l 1 1 w hc HN.out HM.out)
  have H5 := Lib.hid (fun w hc => Within_any a n cap l 0 1440 w hc HN.out HM.out)
  have HP := Lib.hid (fun h1 h2 => parts_pure (l := l) (f := f) (m := m) (t := t) h1 h2)
  generalize withinE l f m = e1 at *
  generalize withinE l m t = e2 at *
  generalize withinN l f m = A at *
  generalize withinN l m t = B at *
  generalize withinE l f t = e3 at *
  generalize withinN l f t = C at *
  generalize workedE l 1 1 = e4 at *
  generalize workedN l 1 1 = V at *
  generalize withinE l 0 1440 = e5 at *
  generalize withinN l 0 1440 = U at *
  go_enter Try.func9, Try.ntmps9
  go_wp2_with fail
  refine (begun_any _).mono ?_
  rintro e w1 ⟨rfl, hb⟩
  have HB1 := Lib.hid hb
  have HC1 := Lib.hid (HC.out.below hb)
  clear hb
  go_wp2_with fail
  refine (H1.out _ HC1.out).mono ?_
  rintro e w2 ⟨rfl, hb⟩
  have HB2 := Lib.hid (HB1.out.trans (hb.mono HB1.out.size))
  have HC2 := Lib.hid (HC1.out.below hb)
  clear hb
  go_wp2_with fail
  refine (H2.out _ HC2.out).mono ?_
  rintro e w3 ⟨rfl, hb⟩
  have HB3 := Lib.hid (HB2.out.trans (hb.mono HB2.out.size))
  have HC3 := Lib.hid (HC2.out.below hb)
  clear hb
  go_wp2_with fail
  refine (H3.out _ HC3.out).mono ?_
  rintro e w4 ⟨rfl, hb⟩
  have HB4 := Lib.hid (HB3.out.trans (hb.mono HB3.out.size))
  have HC4 := Lib.hid (HC3.out.below hb)
  clear hb
  by_cases h1 : e1 = 0
  · by_cases h2 : e2 = 0
    · obtain ⟨rfl, rfl, rfl, hC, rfl, p1, p2, p3, p4, p5, p6, p7, p8⟩ := HP.out h1 h2
      subst h1 h2 hC
      go_wp2_with fail
      refine (H4.out _ HC4.out).mono ?_
      rintro e w5 ⟨rfl, hb⟩
      have HB5 := Lib.hid (HB4.out.trans (hb.mono HB4.out.size))
      have HC5 := Lib.hid (HC4.out.below hb)
      clear hb
      go_wp2_with fail
      refine (H5.out _ HC5.out).mono ?_
      rintro e w6 ⟨rfl, hb⟩
      have HB6 := Lib.hid (HB5.out.trans (hb.mono HB5.out.size))
      clear hb
      go_wp2_with fail
      go_ret
      exact ⟨uret_bool (by simp <;> omega), HB6.out⟩
    · subst h1
      have h2B : (e2 != 0) = true := by simp [h2]
      have h2D : decide (e2 = 0) = false := decide_eq_false h2
      go_wp2_with fail
      go_ret
      exact ⟨rfl, HB4.out⟩
  · have h1B : (e1 != 0) = true := by simp [h1]
    have h1D : decide (e1 = 0) = false := decide_eq_false h1
    go_wp2_with fail
    go_ret
    exact ⟨rfl, HB4.out⟩
end Go.Proofs.Ytikkeidapgmcnaa
