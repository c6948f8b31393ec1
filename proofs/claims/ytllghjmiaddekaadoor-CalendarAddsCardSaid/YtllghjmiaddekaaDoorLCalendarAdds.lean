/-
  The walk of the law CalendarAdds: it answers true at all ints and every list.
-/
import Derived.Test.YtllghjmiaddekaaDoorCLast
import Derived.Test.YtllghjmiaddekaaDoorCBegun
import Derived.OpenShut
namespace Go.Proofs.YtllghjmiaddekaaDoor
open Go.RowKit Go.Maps

theorem cntW_add (l : List Int) (f : Int) (a : Nat) : ∀ b : Nat, cntW l f (a + b) = cntW l f a + cntW l (f + a) b
  | 0 => by simp [cntW]
  | b + 1 => by
    rw [← Nat.add_assoc, cntW, cntW_add l f a b, cntW, show f + ((a + b : Nat) : Int) = f + (a : Int) + (b : Int) from by omega, Int.add_assoc]
theorem cntD_add (l : List Int) {f m t : Int} (h1 : f ≤ m) (h2 : m < t) : cntD l f m + cntD l (m + 1) t = cntD l f t := by
  unfold cntD
  rw [show (t + 1 - f).toNat = (m + 1 - f).toNat + (t + 1 - (m + 1)).toNat from by omega, cntW_add, show f + ((m + 1 - f).toNat : Int) = m + 1 from by omega]
theorem cntW_none {l : List Int} {f : Int} : ∀ {n : Nat}, (∀ j : Int, f ≤ j → j < f + n → workB l j = false) → cntW l f n = 0
  | 0, _ => rfl
  | n + 1, h => by rw [cntW_no (h (f + n) (by omega) (by omega)), cntW_none (fun j a b => h j a (by omega))]
theorem cntD_next {l : List Int} {f r : Int} (h1 : f ≤ r) (h2 : workB l r = true) (h3 : ∀ j, f ≤ j → j < r → workB l j = false) : cntD l f r = 1 := by
  unfold cntD
  rw [show (r + 1 - f).toNat = (r - f).toNat + 1 from by omega, cntW_yes (by rw [show f + ((r - f).toNat : Int) = r from by omega]; exact h2), cntW_none (fun j a b => h3 j a (by omega))]
  rfl
theorem cntD_bd (l : List Int) {f t : Int} (h0 : 0 ≤ f) (h1 : t ≤ 73048) : 0 ≤ cntD l f t ∧ cntD l f t ≤ 73049 := by
  unfold cntD
  have := cntW_bd l f (t + 1 - f).toNat
  omega
theorem checkE_days {l : List Int} {a b c d : Int} (h : checkE l [a, b] = 0) (hc : dayB c = true) (hd : dayB d = true) : checkE l [c, d] = 0 := by
  obtain ⟨h1, _, h3, h4⟩ := checkE_ok h
  unfold checkE
  rw [if_neg (by omega), if_neg (by simp [hc, hd, h3]), if_neg (by simp [h4])]
theorem checkE_one {l : List Int} {a b c : Int} (h : checkE l [a, b] = 0) (hc : dayB c = true) : checkE l [c] = 0 := by
  obtain ⟨h1, _, h3, h4⟩ := checkE_ok h
  unfold checkE
  rw [if_neg (by omega), if_neg (by simp [hc, h3]), if_neg (by simp [h4])]
theorem checkE_two {l : List Int} {a b : Int} (h : checkE l [a, b] = 0) : dayB a = true ∧ dayB b = true := by
  have := (checkE_ok h).2.1
  simpa using this

set_option maxRecDepth 100000 in
set_option maxHeartbeats 4000000 in
theorem walk_calendarAdds (f : Int) (_ : (Lit.int .i64 f).wf = true) (m : Int) (wm : (Lit.int .i64 m).wf = true) (t : Int) (wt : (Lit.int .i64 t).wf = true) (w : World) (a : Option Addr) (n cap : Nat) (l : List Int) (hc : Came w a l) (hn : l.length = n) (hm : n ≤ maxLen) (_ : ∀ x ∈ l, (Lit.int .i64 x).wf = true) (ht : Tab w) :
    Calls Tryd.prog 11 #[.int .i64 f, .int .i64 m, .int .i64 t, .slice a n cap] w fun e w' => e = .returned (.bool true) ∧ Below w.heap.size w w' := by
  have HC := Lib.hid hc
  have HM := Lib.hid hm
  have HN := Lib.hid hn
  obtain ⟨_, ht1⟩ := bounds_i64 wt
  obtain ⟨hm0, _⟩ := bounds_i64 wm
  have HG := Lib.hid (begun_any w ht)
  clear hc hm hn wt wm ht
  by_cases h1 : m < f
  · go_enter Tryd.func11, Tryd.ntmps11
    go_wp2_with fail
    refine HG.out.mono ?_
    rintro e w1 ⟨rfl, hb1⟩
    have HB1 := Lib.hid hb1
    clear hb1
    go_wp2_with fail
    go_ret
    exact ⟨rfl, HB1.out⟩
  · have h1B : decide (m < f) = false := decide_eq_false h1
    by_cases h2 : t ≤ m
    · go_enter Tryd.func11, Tryd.ntmps11
      go_wp2_with fail
      refine HG.out.mono ?_
      rintro e w1 ⟨rfl, hb1⟩
      have HB1 := Lib.hid hb1
      clear hb1
      go_wp2_with fail
      go_ret
      exact ⟨rfl, HB1.out⟩
    · have h2B : decide (t ≤ m) = false := decide_eq_false h2
      go_enter Tryd.func11, Tryd.ntmps11
      go_wp2_with fail
      refine HG.out.mono ?_
      rintro e w1 ⟨rfl, hb1⟩
      have HB1 := Lib.hid hb1
      clear hb1 HG
      go_wp2_with fail
      refine (Workdays_any f m a n cap l w1 (HC.out.below HB1.out) HN.out HM.out).mono ?_
      rintro e w2 ⟨r1, e1, rfl, hE1, hb2⟩
      have HB2 := Lib.hid (HB1.out.trans (hb2.mono HB1.out.size))
      have HE1 := Lib.hid hE1
      clear hb2 hE1 HB1
      go_wp2_with fail
      refine (Workdays_any (m + 1) t a n cap l w2 (HC.out.below HB2.out) HN.out HM.out).mono ?_
      rintro e w3 ⟨r2, e2, rfl, hE2, hb3⟩
      have HB3 := Lib.hid (HB2.out.trans (hb3.mono HB2.out.size))
      have HE2 := Lib.hid hE2
      clear hb3 hE2 HB2
      go_wp2_with fail
      refine (Workdays_any f t a n cap l w3 (HC.out.below HB3.out) HN.out HM.out).mono ?_
      rintro e w4 ⟨r3, e3, rfl, hE3, hb4⟩
      have HB4 := Lib.hid (HB3.out.trans (hb4.mono HB3.out.size))
      have HE3 := Lib.hid hE3
      clear hb4 hE3 HB3
      by_cases hz1 : e1 = 0
      · by_cases hz2 : e2 = 0
        · subst hz1 hz2
          obtain ⟨hk1, rfl⟩ : checkE l [f, m] = 0 ∧ r1 = cntD l f m := by
            rcases HE1.out with ⟨p, _, q⟩ | ⟨p, q, _⟩
            · exact absurd q.symm p
            · exact ⟨p, q⟩
          obtain ⟨hk2, rfl⟩ : checkE l [m + 1, t] = 0 ∧ r2 = cntD l (m + 1) t := by
            rcases HE2.out with ⟨p, _, q⟩ | ⟨p, q, _⟩
            · exact absurd q.symm p
            · exact ⟨p, q⟩
          have hdf := (checkE_two hk1).1
          have hdt := (checkE_two hk2).2
          have hdm := (checkE_two hk1).2
          have hk3 := checkE_days hk1 hdf hdt
          obtain ⟨rfl, rfl⟩ : e3 = 0 ∧ r3 = cntD l f t := by
            rcases HE3.out with ⟨p, _, q⟩ | ⟨p, q, r⟩
            · exact absurd hk3 p
            · exact ⟨r, q⟩
          have HS := Lib.hid (cntD_add l (f := f) (m := m) (t := t) (by omega) (by omega))
          have hf' := dayB_iff.1 hdf
          have ht' := dayB_iff.1 hdt
          have hm' := dayB_iff.1 hdm
          have b1 := cntD_bd l (f := f) (t := m) (by omega) (by omega)
          have b2 := cntD_bd l (f := m + 1) (t := t) (by omega) (by omega)
          have hk4 := checkE_one hk1 hdf
          have HNXT := Lib.hid (fun w hc => Next_any f a n cap l w hc HN.out HM.out)
          have HD : Hid (∀ r, f ≤ r → r ≤ 73048 → checkE l [f, r] = 0) := fun r p q => checkE_days hk1 hdf (dayB_iff.2 ⟨by omega, q⟩)
          clear hk1 hk2 hk3 HE1 HE2 HE3 hdf hdt hdm
          have hsum : cntD l f m + cntD l (m + 1) t = cntD l f t := HS.out
          generalize cntD l f m = x1 at *
          generalize cntD l (m + 1) t = x2 at *
          generalize cntD l f t = x3 at *
          subst hsum
          clear HS
          go_wp2_with fail
          refine (HNXT.out w4 (HC.out.below HB4.out)).mono ?_
          rintro e w5 ⟨r, er, rfl, hE, hb5⟩
          have HB5 := Lib.hid (HB4.out.trans (hb5.mono HB4.out.size))
          clear hb5
          rcases hE with ⟨p, _, _⟩ | ⟨_, ⟨rfl, q1, q2, q3, q4⟩ | ⟨rfl, rfl, _⟩⟩
          · exact absurd hk4 p
          · have HR := Lib.hid (cntD_next q1 q3 q4)
            have hk5 := HD.out r q1 q2
            clear q3 q4 HD
            go_wp2_with fail
            refine (Workdays_any f r a n cap l w5 (HC.out.below HB5.out) HN.out HM.out).mono ?_
            rintro e w6 ⟨r6, e6, rfl, hE6, hb6⟩
            have HB6 := Lib.hid (HB5.out.trans (hb6.mono HB5.out.size))
            obtain ⟨rfl, rfl⟩ : e6 = 0 ∧ r6 = 1 := by
              rcases hE6 with ⟨p, _, _⟩ | ⟨_, q, s⟩
              · exact absurd hk5 p
              · exact ⟨s, q.trans HR.out⟩
            clear hb6 hE6 hk5
            go_wp2_with fail
            go_ret
            exact ⟨cret_bool (by simp), HB6.out⟩
          · go_wp2_with fail
            go_ret
            exact ⟨cret_bool (by simp), HB5.out⟩
        · subst hz1
          have hz2B : decide (e2 = 0) = false := decide_eq_false hz2
          go_wp2_with fail
          go_ret
          exact ⟨cret_bool (by simp [hz2]), HB4.out⟩
      · have hz1B : decide (e1 = 0) = false := decide_eq_false hz1
        go_wp2_with fail
        all_goals go_ret
        all_goals exact ⟨cret_bool (by simp), HB4.out⟩
end Go.Proofs.YtllghjmiaddekaaDoor
