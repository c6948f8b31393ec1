/-
  Promise O2: the walk of the reference's StepRun.
-/
import Derived.Test.YtfdhjdbefikjmaaGStep
namespace Go.Proofs.Ytfdhjdbefikjmaa
open Go.RowKit

set_option maxRecDepth 100000 in
set_option maxHeartbeats 4000000 in
theorem stepRun_ref (R : Nat → Int) (a who : Int) (w : World) :
    Calls Try.prog 13 #[.agg #[.int .i64 (R 0), .int .i64 (R 1), .int .i64 (R 2), .int .i64 (R 3), .int .i64 (R 4), .int .i64 (R 5), .int .i64 (R 6), .int .i64 (R 7)], .agg #[.int .i64 a, .int .i64 who]] w fun e w' => e = .returned (.tuple #[.agg #[.int .i64 ((stepR R a who) 0), .int .i64 ((stepR R a who) 1), .int .i64 ((stepR R a who) 2), .int .i64 ((stepR R a who) 3), .int .i64 ((stepR R a who) 4), .int .i64 ((stepR R a who) 5), .int .i64 ((stepR R a who) 6), .int .i64 ((stepR R a who) 7)], .int .i64 (stepE R a who)]) ∧ Below w.heap.size w w' := by
  have HB0 := Lib.hid (((gbelow_box w (.cells #[.int .i64 (R 0), .int .i64 (R 1), .int .i64 (R 2), .int .i64 (R 3), .int .i64 (R 4), .int .i64 (R 5), .int .i64 (R 6), .int .i64 (R 7)] 24)).alloc (by simp) (.cells #[.int .i64 a, .int .i64 who] 30)).alloc (by simp; omega) (.cells #[.int .i64 (zeroR 0), .int .i64 (zeroR 1), .int .i64 (zeroR 2), .int .i64 (zeroR 3), .int .i64 (zeroR 4), .int .i64 (zeroR 5), .int .i64 (zeroR 6), .int .i64 (zeroR 7)] 24))
  have HX0 := Lib.hid (SBx.made w R a who)
  by_cases he : runE R = 0
  · obtain ⟨h0, h6⟩ := runE_state he
    have HCK : Hid (∀ w, Calls Try.prog 11 #[.agg #[.int .i64 (R 0), .int .i64 (R 1), .int .i64 (R 2), .int .i64 (R 3), .int .i64 (R 4), .int .i64 (R 5), .int .i64 (R 6), .int .i64 (R 7)]] w fun e w' => e = .returned (.int .i64 0) ∧ Below w.heap.size w w') := by
      intro w
      have := checkRun_ref R w
      rw [he] at this
      exact this
    by_cases ha : a < 1
    · have HE := Lib.hid (refE_kind (R := R) (who := who) (.inl ha))
      rw [(stepE_no he (by rw [HE.out]; decide)).1, (stepE_no he (by rw [HE.out]; decide)).2, HE.out]
      clear he
      go_enter Try.func13, Try.ntmps13
      go_wp2_with fail
      refine (HCK.out _).mono ?_
      rintro e w1 ⟨rfl, hb1⟩
      have HX1 := Lib.hid (HX0.out.below hb1)
      have HB1 := Lib.hid (HB0.out.trans (hb1.mono HB0.out.size))
      clear hb1 HX0 HB0
      obtain ⟨hr, ⟨_, a0, a1⟩, hz⟩ := HX1.out
      have HZ := Lib.hid hz
      have HR := Lib.hid hr
      obtain ⟨c0, c1, c2, c3, c4, c5, c6, c7⟩ := hr.box.cells
      obtain ⟨g0, g1, g2, g3, g4, g5, g6, g7⟩ := hr.free
      obtain ⟨z0, z1, z2, z3, z4, z5, z6, z7⟩ := hz.box.cells
      obtain ⟨f0, f1, f2, f3, f4, f5, f6, f7⟩ := hz.free
      clear hz hr
      go_wp2_with fail
      obtain ⟨q0, q1, q2, q3, q4, q5, q6, q7⟩ := (HZ.out.set8 R).box.cells
      skip
      refine bodyPost_ret (v := .tuple #[.agg #[.int .i64 (R 0), .int .i64 (R 1), .int .i64 (R 2), .int .i64 (R 3), .int .i64 (R 4), .int .i64 (R 5), .int .i64 (R 6), .int .i64 (R 7)], .int .i64 (7)]) (by simp [results, Try.results13, go_sem, q0, q1, q2, q3, q4, q5, q6, q7]) rfl ⟨rfl, below_set8 HB1.out (by omega) R⟩
    · have haB : decide (a < 1) = false := decide_eq_false ha
      by_cases ha7 : 7 < a
      · have HE := Lib.hid (refE_kind (R := R) (who := who) (.inr ha7))
        rw [(stepE_no he (by rw [HE.out]; decide)).1, (stepE_no he (by rw [HE.out]; decide)).2, HE.out]
        clear he
        go_enter Try.func13, Try.ntmps13
        go_wp2_with fail
        refine (HCK.out _).mono ?_
        rintro e w1 ⟨rfl, hb1⟩
        have HX1 := Lib.hid (HX0.out.below hb1)
        have HB1 := Lib.hid (HB0.out.trans (hb1.mono HB0.out.size))
        clear hb1 HX0 HB0
        obtain ⟨hr, ⟨_, a0, a1⟩, hz⟩ := HX1.out
        have HZ := Lib.hid hz
        have HR := Lib.hid hr
        obtain ⟨c0, c1, c2, c3, c4, c5, c6, c7⟩ := hr.box.cells
        obtain ⟨g0, g1, g2, g3, g4, g5, g6, g7⟩ := hr.free
        obtain ⟨z0, z1, z2, z3, z4, z5, z6, z7⟩ := hz.box.cells
        obtain ⟨f0, f1, f2, f3, f4, f5, f6, f7⟩ := hz.free
        clear hz hr
        go_wp2_with fail
        obtain ⟨q0, q1, q2, q3, q4, q5, q6, q7⟩ := (HZ.out.set8 R).box.cells
        skip
        refine bodyPost_ret (v := .tuple #[.agg #[.int .i64 (R 0), .int .i64 (R 1), .int .i64 (R 2), .int .i64 (R 3), .int .i64 (R 4), .int .i64 (R 5), .int .i64 (R 6), .int .i64 (R 7)], .int .i64 (7)]) (by simp [results, Try.results13, go_sem, q0, q1, q2, q3, q4, q5, q6, q7]) rfl ⟨rfl, below_set8 HB1.out (by omega) R⟩
      · have ha7B : decide (7 < a) = false := decide_eq_false ha7
        have HN : Hid (¬ (a < 1 ∨ 7 < a)) := by unfold Hid; omega
        cases hp : perB who
        · have HE := Lib.hid (refE_range (R := R) HN.out hp)
          rw [(stepE_no he (by rw [HE.out]; decide)).1, (stepE_no he (by rw [HE.out]; decide)).2, HE.out]
          clear he
          go_enter Try.func13, Try.ntmps13
          go_wp2_with fail
          refine (HCK.out _).mono ?_
          rintro e w1 ⟨rfl, hb1⟩
          have HX1 := Lib.hid (HX0.out.below hb1)
          have HB1 := Lib.hid (HB0.out.trans (hb1.mono HB0.out.size))
          clear hb1 HX0 HB0
          obtain ⟨hr, ⟨_, a0, a1⟩, hz⟩ := HX1.out
          have HZ := Lib.hid hz
          have HR := Lib.hid hr
          obtain ⟨c0, c1, c2, c3, c4, c5, c6, c7⟩ := hr.box.cells
          obtain ⟨g0, g1, g2, g3, g4, g5, g6, g7⟩ := hr.free
          obtain ⟨z0, z1, z2, z3, z4, z5, z6, z7⟩ := hz.box.cells
          obtain ⟨f0, f1, f2, f3, f4, f5, f6, f7⟩ := hz.free
          clear hz hr
          go_wp2_with (go_at_call 15; refine (isPerson_ref _ _).mono ?_; rintro e w' ⟨rfl, h'⟩; subst w'; rw [hp])
          obtain ⟨q0, q1, q2, q3, q4, q5, q6, q7⟩ := (HZ.out.set8 R).box.cells
          skip
          refine bodyPost_ret (v := .tuple #[.agg #[.int .i64 (R 0), .int .i64 (R 1), .int .i64 (R 2), .int .i64 (R 3), .int .i64 (R 4), .int .i64 (R 5), .int .i64 (R 6), .int .i64 (R 7)], .int .i64 (3)]) (by simp [results, Try.results13, go_sem, q0, q1, q2, q3, q4, q5, q6, q7]) rfl ⟨rfl, below_set8 HB1.out (by omega) R⟩
        · by_cases h7 : a = 7
          · subst h7
            by_cases hs1 : R 0 < 1
            · have HE := Lib.hid (refE_state (R := R) HN.out hp (by rw [leads_7]; exact decide_eq_false (by omega)))
              rw [(stepE_no he (by rw [HE.out]; decide)).1, (stepE_no he (by rw [HE.out]; decide)).2, HE.out]
              clear he
              go_enter Try.func13, Try.ntmps13
              go_wp2_with fail
              refine (HCK.out _).mono ?_
              rintro e w1 ⟨rfl, hb1⟩
              have HX1 := Lib.hid (HX0.out.below hb1)
              have HB1 := Lib.hid (HB0.out.trans (hb1.mono HB0.out.size))
              clear hb1 HX0 HB0
              obtain ⟨hr, ⟨_, a0, a1⟩, hz⟩ := HX1.out
              have HZ := Lib.hid hz
              have HR := Lib.hid hr
              obtain ⟨c0, c1, c2, c3, c4, c5, c6, c7⟩ := hr.box.cells
              obtain ⟨g0, g1, g2, g3, g4, g5, g6, g7⟩ := hr.free
              obtain ⟨z0, z1, z2, z3, z4, z5, z6, z7⟩ := hz.box.cells
              obtain ⟨f0, f1, f2, f3, f4, f5, f6, f7⟩ := hz.free
              clear hz hr
              go_wp2_with (go_at_call 15; refine (isPerson_ref _ _).mono ?_; rintro e w' ⟨rfl, h'⟩; subst w'; rw [hp])
              obtain ⟨q0, q1, q2, q3, q4, q5, q6, q7⟩ := (HZ.out.set8 R).box.cells
              skip
              refine bodyPost_ret (v := .tuple #[.agg #[.int .i64 (R 0), .int .i64 (R 1), .int .i64 (R 2), .int .i64 (R 3), .int .i64 (R 4), .int .i64 (R 5), .int .i64 (R 6), .int .i64 (R 7)], .int .i64 (4)]) (by simp [results, Try.results13, go_sem, q0, q1, q2, q3, q4, q5, q6, q7]) rfl ⟨rfl, below_set8 HB1.out (by omega) R⟩
            · have hs1B : decide (R 0 < 1) = false := decide_eq_false hs1
              by_cases hs4 : 4 < R 0
              · have HE := Lib.hid (refE_state (R := R) HN.out hp (by rw [leads_7]; exact decide_eq_false (by omega)))
                rw [(stepE_no he (by rw [HE.out]; decide)).1, (stepE_no he (by rw [HE.out]; decide)).2, HE.out]
                clear he
                go_enter Try.func13, Try.ntmps13
                go_wp2_with fail
                refine (HCK.out _).mono ?_
                rintro e w1 ⟨rfl, hb1⟩
                have HX1 := Lib.hid (HX0.out.below hb1)
                have HB1 := Lib.hid (HB0.out.trans (hb1.mono HB0.out.size))
                clear hb1 HX0 HB0
                obtain ⟨hr, ⟨_, a0, a1⟩, hz⟩ := HX1.out
                have HZ := Lib.hid hz
                have HR := Lib.hid hr
                obtain ⟨c0, c1, c2, c3, c4, c5, c6, c7⟩ := hr.box.cells
                obtain ⟨g0, g1, g2, g3, g4, g5, g6, g7⟩ := hr.free
                obtain ⟨z0, z1, z2, z3, z4, z5, z6, z7⟩ := hz.box.cells
                obtain ⟨f0, f1, f2, f3, f4, f5, f6, f7⟩ := hz.free
                clear hz hr
                go_wp2_with (go_at_call 15; refine (isPerson_ref _ _).mono ?_; rintro e w' ⟨rfl, h'⟩; subst w'; rw [hp])
                obtain ⟨q0, q1, q2, q3, q4, q5, q6, q7⟩ := (HZ.out.set8 R).box.cells
                skip
                refine bodyPost_ret (v := .tuple #[.agg #[.int .i64 (R 0), .int .i64 (R 1), .int .i64 (R 2), .int .i64 (R 3), .int .i64 (R 4), .int .i64 (R 5), .int .i64 (R 6), .int .i64 (R 7)], .int .i64 (4)]) (by simp [results, Try.results13, go_sem, q0, q1, q2, q3, q4, q5, q6, q7]) rfl ⟨rfl, below_set8 HB1.out (by omega) R⟩
              · have hs4B : decide (4 < R 0) = false := decide_eq_false hs4
                have HE := Lib.hid (refE_ok (R := R) HN.out hp (by rw [leads_7]; exact decide_eq_true (by omega)) (barB_other (by omega) (by omega) (by omega)))
                rw [(stepE_do he HE.out).1, (stepE_do he HE.out).2]
                clear he
                go_enter Try.func13, Try.ntmps13
                go_wp2_with fail
                refine (HCK.out _).mono ?_
                rintro e w1 ⟨rfl, hb1⟩
                have HX1 := Lib.hid (HX0.out.below hb1)
                have HB1 := Lib.hid (HB0.out.trans (hb1.mono HB0.out.size))
                clear hb1 HX0 HB0
                obtain ⟨hr, ⟨_, a0, a1⟩, hz⟩ := HX1.out
                have HZ := Lib.hid hz
                have HR := Lib.hid hr
                obtain ⟨c0, c1, c2, c3, c4, c5, c6, c7⟩ := hr.box.cells
                obtain ⟨g0, g1, g2, g3, g4, g5, g6, g7⟩ := hr.free
                obtain ⟨z0, z1, z2, z3, z4, z5, z6, z7⟩ := hz.box.cells
                obtain ⟨f0, f1, f2, f3, f4, f5, f6, f7⟩ := hz.free
                clear hz hr
                go_wp2_with (go_at_call 15; refine (isPerson_ref _ _).mono ?_; rintro e w' ⟨rfl, h'⟩; subst w'; rw [hp])
                obtain ⟨q0, q1, q2, q3, q4, q5, q6, q7⟩ := (HZ.out.set8 zeroR).box.cells
                simp only [zeroR] at q0 q1 q2 q3 q4 q5 q6 q7
                refine bodyPost_ret (v := .tuple #[.agg #[.int .i64 (zeroR 0), .int .i64 (zeroR 1), .int .i64 (zeroR 2), .int .i64 (zeroR 3), .int .i64 (zeroR 4), .int .i64 (zeroR 5), .int .i64 (zeroR 6), .int .i64 (zeroR 7)], .int .i64 (0)]) (by simp [results, Try.results13, go_sem,zeroR, q0, q1, q2, q3, q4, q5, q6, q7]) rfl ⟨rfl, below_set8 HB1.out (by omega) zeroR⟩
          · have h7B : (a == 7) = false := by simpa using h7
            have h7D : decide (a = 7) = false := decide_eq_false h7
            cases hl : leads (R 0) a
            · have HE := Lib.hid (refE_state (R := R) HN.out hp hl)
              have hne : a ≠ R 0 + 1 ∧ (a = 1 → R 0 ≠ 1) := by
                by_cases h1 : a = 1
                · subst h1; rw [leads_1, decide_eq_false_iff_not] at hl; exact ⟨by omega, fun _ h => hl (.inr h)⟩
                · rw [leads_other h7 h1, decide_eq_false_iff_not] at hl; exact ⟨hl, fun h => absurd h h1⟩
              have hnB : (a != R 0 + 1) = true := by simpa using hne.1
              have hnD : decide (a = R 0 + 1) = false := decide_eq_false hne.1
              by_cases h1 : a = 1
              · have h1B : (a == 1) = true := by simpa using h1
                have h1D : decide (a = 1) = true := decide_eq_true h1
                have h2B : (R 0 == 1) = false := by simpa using hne.2 h1
                have h2D : decide (R 0 = 1) = false := decide_eq_false (hne.2 h1)
                clear h1 hne
                rw [(stepE_no he (by rw [HE.out]; decide)).1, (stepE_no he (by rw [HE.out]; decide)).2, HE.out]
                clear he
                go_enter Try.func13, Try.ntmps13
                go_wp2_with fail
                refine (HCK.out _).mono ?_
                rintro e w1 ⟨rfl, hb1⟩
                have HX1 := Lib.hid (HX0.out.below hb1)
                have HB1 := Lib.hid (HB0.out.trans (hb1.mono HB0.out.size))
                clear hb1 HX0 HB0
                obtain ⟨hr, ⟨_, a0, a1⟩, hz⟩ := HX1.out
                have HZ := Lib.hid hz
                have HR := Lib.hid hr
                obtain ⟨c0, c1, c2, c3, c4, c5, c6, c7⟩ := hr.box.cells
                obtain ⟨g0, g1, g2, g3, g4, g5, g6, g7⟩ := hr.free
                obtain ⟨z0, z1, z2, z3, z4, z5, z6, z7⟩ := hz.box.cells
                obtain ⟨f0, f1, f2, f3, f4, f5, f6, f7⟩ := hz.free
                clear hz hr
                go_wp2_with (go_at_call 15; refine (isPerson_ref _ _).mono ?_; rintro e w' ⟨rfl, h'⟩; subst w'; rw [hp])
                obtain ⟨q0, q1, q2, q3, q4, q5, q6, q7⟩ := (HZ.out.set8 R).box.cells
                skip
                refine bodyPost_ret (v := .tuple #[.agg #[.int .i64 (R 0), .int .i64 (R 1), .int .i64 (R 2), .int .i64 (R 3), .int .i64 (R 4), .int .i64 (R 5), .int .i64 (R 6), .int .i64 (R 7)], .int .i64 (4)]) (by simp [results, Try.results13, go_sem, q0, q1, q2, q3, q4, q5, q6, q7]) rfl ⟨rfl, below_set8 HB1.out (by omega) R⟩
              · have h1B : (a == 1) = false := by simpa using h1
                have h1D : decide (a = 1) = false := decide_eq_false h1
                clear h1 hne
                rw [(stepE_no he (by rw [HE.out]; decide)).1, (stepE_no he (by rw [HE.out]; decide)).2, HE.out]
                clear he
                go_enter Try.func13, Try.ntmps13
                go_wp2_with fail
                refine (HCK.out _).mono ?_
                rintro e w1 ⟨rfl, hb1⟩
                have HX1 := Lib.hid (HX0.out.below hb1)
                have HB1 := Lib.hid (HB0.out.trans (hb1.mono HB0.out.size))
                clear hb1 HX0 HB0
                obtain ⟨hr, ⟨_, a0, a1⟩, hz⟩ := HX1.out
                have HZ := Lib.hid hz
                have HR := Lib.hid hr
                obtain ⟨c0, c1, c2, c3, c4, c5, c6, c7⟩ := hr.box.cells
                obtain ⟨g0, g1, g2, g3, g4, g5, g6, g7⟩ := hr.free
                obtain ⟨z0, z1, z2, z3, z4, z5, z6, z7⟩ := hz.box.cells
                obtain ⟨f0, f1, f2, f3, f4, f5, f6, f7⟩ := hz.free
                clear hz hr
                go_wp2_with (go_at_call 15; refine (isPerson_ref _ _).mono ?_; rintro e w' ⟨rfl, h'⟩; subst w'; rw [hp])
                obtain ⟨q0, q1, q2, q3, q4, q5, q6, q7⟩ := (HZ.out.set8 R).box.cells
                skip
                refine bodyPost_ret (v := .tuple #[.agg #[.int .i64 (R 0), .int .i64 (R 1), .int .i64 (R 2), .int .i64 (R 3), .int .i64 (R 4), .int .i64 (R 5), .int .i64 (R 6), .int .i64 (R 7)], .int .i64 (4)]) (by simp [results, Try.results13, go_sem, q0, q1, q2, q3, q4, q5, q6, q7]) rfl ⟨rfl, below_set8 HB1.out (by omega) R⟩
            · have hA : a = 1 ∨ a = 2 ∨ a = 3 ∨ a = 4 ∨ a = 5 ∨ a = 6 := by omega
              have HA := Lib.hid hA
              clear hA
              by_cases h1 : a = 1
              · have h1B : (a == 1) = true := by simpa using h1
                have h1D : decide (a = 1) = true := decide_eq_true h1
                by_cases h2 : R 0 = 1
                · have h2B : (R 0 == 1) = true := by simpa using h2
                  have h2D : decide (R 0 = 1) = true := decide_eq_true h2
                  have hnB : (a != R 0 + 1) = true := by simp; omega
                  have hnD : decide (a = R 0 + 1) = false := decide_eq_false (by omega)
                  clear h1 h2
                  cases hb : barB R a who
                  · have HE := Lib.hid (refE_ok (R := R) HN.out hp hl hb)
                    rw [(stepE_do he HE.out).1, (stepE_do he HE.out).2]
                    clear he
                    go_enter Try.func13, Try.ntmps13
                    go_wp2_with fail
                    refine (HCK.out _).mono ?_
                    rintro e w1 ⟨rfl, hb1⟩
                    have HX1 := Lib.hid (HX0.out.below hb1)
                    have HB1 := Lib.hid (HB0.out.trans (hb1.mono HB0.out.size))
                    clear hb1 HX0 HB0
                    obtain ⟨hr, ⟨_, a0, a1⟩, hz⟩ := HX1.out
                    have HZ := Lib.hid hz
                    have HR := Lib.hid hr
                    obtain ⟨c0, c1, c2, c3, c4, c5, c6, c7⟩ := hr.box.cells
                    obtain ⟨g0, g1, g2, g3, g4, g5, g6, g7⟩ := hr.free
                    obtain ⟨z0, z1, z2, z3, z4, z5, z6, z7⟩ := hz.box.cells
                    obtain ⟨f0, f1, f2, f3, f4, f5, f6, f7⟩ := hz.free
                    clear hz hr
                    go_wp2_with (go_at_call 15; refine (isPerson_ref _ _).mono ?_; rintro e w' ⟨rfl, h'⟩; subst w'; rw [hp])
                    clear c0 c1 c2 c3 c4 c5 c6 c7 g0 g1 g2 g3 g4 g5 g6 g7 z0 z1 z2 z3 z4 z5 z6 z7 f0 f1 f2 f3 f4 f5 f6 f7 a0 a1 HZ HR
                    refine (barred_ref R a who _).mono ?_
                    rintro e w2 ⟨rfl, hb2⟩
                    rw [hb]
                    have HX2 := Lib.hid (HX1.out.below hb2)
                    have HB2 := Lib.hid (HB1.out.trans (hb2.mono HB1.out.size))
                    clear hb2 HX1 HB1
                    clear haB ha7B ha ha7 h7B h7D h7 HN hl HE h1B h1D hnB hnD hb HCK h0 h6
                    rcases HA.out with rfl | rfl | rfl | rfl | rfl | rfl
                    · obtain ⟨hr, ⟨_, a0, a1⟩, hz⟩ := HX2.out
                      have HZ := Lib.hid hz
                      have HR := Lib.hid hr
                      obtain ⟨c0, c1, c2, c3, c4, c5, c6, c7⟩ := hr.box.cells
                      obtain ⟨g0, g1, g2, g3, g4, g5, g6, g7⟩ := hr.free
                      obtain ⟨z0, z1, z2, z3, z4, z5, z6, z7⟩ := hz.box.cells
                      obtain ⟨f0, f1, f2, f3, f4, f5, f6, f7⟩ := hz.free
                      clear hz hr
                      go_wp2_with fail
                      have HZ2 := Lib.hid ((HZ.out.other (b' := w.heap.size) (by omega) 0 (.int .i64 1)).other (b' := w.heap.size) (by omega) 2 (.int .i64 who))
                      obtain ⟨q0, q1, q2, q3, q4, q5, q6, q7⟩ := (HZ2.out.set8 (doneR R 1 who)).box.cells
                      have HBF := Lib.hid (below_set8 ((HB2.out.setCell (p := ⟨w.heap.size, 0, none⟩) (Nat.le_refl _) (.int .i64 1)).setCell (p := ⟨w.heap.size, 2, none⟩) (Nat.le_refl _) (.int .i64 who)) (b := w.heap.size + 1 + 1) (by omega) (doneR R 1 who))
                      obtain ⟨d0, d1, d2, d3, d4, d5, d6, d7⟩ := doneR_1 R who
                      simp only [d0, d1, d2, d3, d4, d5, d6, d7] at q0 q1 q2 q3 q4 q5 q6 q7
                      rw [d0, d1, d2, d3, d4, d5, d6, d7] at HBF
                      refine bodyPost_ret (v := .tuple #[.agg #[.int .i64 ((doneR R 1 who) 0), .int .i64 ((doneR R 1 who) 1), .int .i64 ((doneR R 1 who) 2), .int .i64 ((doneR R 1 who) 3), .int .i64 ((doneR R 1 who) 4), .int .i64 ((doneR R 1 who) 5), .int .i64 ((doneR R 1 who) 6), .int .i64 ((doneR R 1 who) 7)], .int .i64 0]) (by rw [d0, d1, d2, d3, d4, d5, d6, d7]; simp [results, Try.results13, go_sem, q0, q1, q2, q3, q4, q5, q6, q7]) rfl ⟨rfl, HBF.out⟩
                    · obtain ⟨hr, ⟨_, a0, a1⟩, hz⟩ := HX2.out
                      have HZ := Lib.hid hz
                      have HR := Lib.hid hr
                      obtain ⟨c0, c1, c2, c3, c4, c5, c6, c7⟩ := hr.box.cells
                      obtain ⟨g0, g1, g2, g3, g4, g5, g6, g7⟩ := hr.free
                      obtain ⟨z0, z1, z2, z3, z4, z5, z6, z7⟩ := hz.box.cells
                      obtain ⟨f0, f1, f2, f3, f4, f5, f6, f7⟩ := hz.free
                      clear hz hr
                      go_wp2_with fail
                      have HZ2 := Lib.hid ((HZ.out.other (b' := w.heap.size) (by omega) 0 (.int .i64 2)).other (b' := w.heap.size) (by omega) 3 (.int .i64 who))
                      obtain ⟨q0, q1, q2, q3, q4, q5, q6, q7⟩ := (HZ2.out.set8 (doneR R 2 who)).box.cells
                      have HBF := Lib.hid (below_set8 ((HB2.out.setCell (p := ⟨w.heap.size, 0, none⟩) (Nat.le_refl _) (.int .i64 2)).setCell (p := ⟨w.heap.size, 3, none⟩) (Nat.le_refl _) (.int .i64 who)) (b := w.heap.size + 1 + 1) (by omega) (doneR R 2 who))
                      obtain ⟨d0, d1, d2, d3, d4, d5, d6, d7⟩ := doneR_2 R who
                      simp only [d0, d1, d2, d3, d4, d5, d6, d7] at q0 q1 q2 q3 q4 q5 q6 q7
                      rw [d0, d1, d2, d3, d4, d5, d6, d7] at HBF
                      refine bodyPost_ret (v := .tuple #[.agg #[.int .i64 ((doneR R 2 who) 0), .int .i64 ((doneR R 2 who) 1), .int .i64 ((doneR R 2 who) 2), .int .i64 ((doneR R 2 who) 3), .int .i64 ((doneR R 2 who) 4), .int .i64 ((doneR R 2 who) 5), .int .i64 ((doneR R 2 who) 6), .int .i64 ((doneR R 2 who) 7)], .int .i64 0]) (by rw [d0, d1, d2, d3, d4, d5, d6, d7]; simp [results, Try.results13, go_sem, q0, q1, q2, q3, q4, q5, q6, q7]) rfl ⟨rfl, HBF.out⟩
                    · obtain ⟨hr, ⟨_, a0, a1⟩, hz⟩ := HX2.out
                      have HZ := Lib.hid hz
                      have HR := Lib.hid hr
                      obtain ⟨c0, c1, c2, c3, c4, c5, c6, c7⟩ := hr.box.cells
                      obtain ⟨g0, g1, g2, g3, g4, g5, g6, g7⟩ := hr.free
                      obtain ⟨z0, z1, z2, z3, z4, z5, z6, z7⟩ := hz.box.cells
                      obtain ⟨f0, f1, f2, f3, f4, f5, f6, f7⟩ := hz.free
                      clear hz hr
                      go_wp2_with fail
                      have HZ2 := Lib.hid ((HZ.out.other (b' := w.heap.size) (by omega) 0 (.int .i64 3)).other (b' := w.heap.size) (by omega) 4 (.int .i64 who))
                      obtain ⟨q0, q1, q2, q3, q4, q5, q6, q7⟩ := (HZ2.out.set8 (doneR R 3 who)).box.cells
                      have HBF := Lib.hid (below_set8 ((HB2.out.setCell (p := ⟨w.heap.size, 0, none⟩) (Nat.le_refl _) (.int .i64 3)).setCell (p := ⟨w.heap.size, 4, none⟩) (Nat.le_refl _) (.int .i64 who)) (b := w.heap.size + 1 + 1) (by omega) (doneR R 3 who))
                      obtain ⟨d0, d1, d2, d3, d4, d5, d6, d7⟩ := doneR_3 R who
                      simp only [d0, d1, d2, d3, d4, d5, d6, d7] at q0 q1 q2 q3 q4 q5 q6 q7
                      rw [d0, d1, d2, d3, d4, d5, d6, d7] at HBF
                      refine bodyPost_ret (v := .tuple #[.agg #[.int .i64 ((doneR R 3 who) 0), .int .i64 ((doneR R 3 who) 1), .int .i64 ((doneR R 3 who) 2), .int .i64 ((doneR R 3 who) 3), .int .i64 ((doneR R 3 who) 4), .int .i64 ((doneR R 3 who) 5), .int .i64 ((doneR R 3 who) 6), .int .i64 ((doneR R 3 who) 7)], .int .i64 0]) (by rw [d0, d1, d2, d3, d4, d5, d6, d7]; simp [results, Try.results13, go_sem, q0, q1, q2, q3, q4, q5, q6, q7]) rfl ⟨rfl, HBF.out⟩
                    · obtain ⟨hr, ⟨_, a0, a1⟩, hz⟩ := HX2.out
                      have HZ := Lib.hid hz
                      have HR := Lib.hid hr
                      obtain ⟨c0, c1, c2, c3, c4, c5, c6, c7⟩ := hr.box.cells
                      obtain ⟨g0, g1, g2, g3, g4, g5, g6, g7⟩ := hr.free
                      obtain ⟨z0, z1, z2, z3, z4, z5, z6, z7⟩ := hz.box.cells
                      obtain ⟨f0, f1, f2, f3, f4, f5, f6, f7⟩ := hz.free
                      clear hz hr
                      go_wp2_with fail
                      have HZ2 := Lib.hid ((HZ.out.other (b' := w.heap.size) (by omega) 0 (.int .i64 4)).other (b' := w.heap.size) (by omega) 5 (.int .i64 who))
                      obtain ⟨q0, q1, q2, q3, q4, q5, q6, q7⟩ := (HZ2.out.set8 (doneR R 4 who)).box.cells
                      have HBF := Lib.hid (below_set8 ((HB2.out.setCell (p := ⟨w.heap.size, 0, none⟩) (Nat.le_refl _) (.int .i64 4)).setCell (p := ⟨w.heap.size, 5, none⟩) (Nat.le_refl _) (.int .i64 who)) (b := w.heap.size + 1 + 1) (by omega) (doneR R 4 who))
                      obtain ⟨d0, d1, d2, d3, d4, d5, d6, d7⟩ := doneR_4 R who
                      simp only [d0, d1, d2, d3, d4, d5, d6, d7] at q0 q1 q2 q3 q4 q5 q6 q7
                      rw [d0, d1, d2, d3, d4, d5, d6, d7] at HBF
                      refine bodyPost_ret (v := .tuple #[.agg #[.int .i64 ((doneR R 4 who) 0), .int .i64 ((doneR R 4 who) 1), .int .i64 ((doneR R 4 who) 2), .int .i64 ((doneR R 4 who) 3), .int .i64 ((doneR R 4 who) 4), .int .i64 ((doneR R 4 who) 5), .int .i64 ((doneR R 4 who) 6), .int .i64 ((doneR R 4 who) 7)], .int .i64 0]) (by rw [d0, d1, d2, d3, d4, d5, d6, d7]; simp [results, Try.results13, go_sem, q0, q1, q2, q3, q4, q5, q6, q7]) rfl ⟨rfl, HBF.out⟩
                    · obtain ⟨hr, ⟨_, a0, a1⟩, hz⟩ := HX2.out
                      have HZ := Lib.hid hz
                      have HR := Lib.hid hr
                      obtain ⟨c0, c1, c2, c3, c4, c5, c6, c7⟩ := hr.box.cells
                      obtain ⟨g0, g1, g2, g3, g4, g5, g6, g7⟩ := hr.free
                      obtain ⟨z0, z1, z2, z3, z4, z5, z6, z7⟩ := hz.box.cells
                      obtain ⟨f0, f1, f2, f3, f4, f5, f6, f7⟩ := hz.free
                      clear hz hr
                      go_wp2_with fail
                      have HZ2 := Lib.hid ((HZ.out.other (b' := w.heap.size) (by omega) 0 (.int .i64 5)).other (b' := w.heap.size) (by omega) 6 (.int .i64 who))
                      obtain ⟨q0, q1, q2, q3, q4, q5, q6, q7⟩ := (HZ2.out.set8 (doneR R 5 who)).box.cells
                      have HBF := Lib.hid (below_set8 ((HB2.out.setCell (p := ⟨w.heap.size, 0, none⟩) (Nat.le_refl _) (.int .i64 5)).setCell (p := ⟨w.heap.size, 6, none⟩) (Nat.le_refl _) (.int .i64 who)) (b := w.heap.size + 1 + 1) (by omega) (doneR R 5 who))
                      obtain ⟨d0, d1, d2, d3, d4, d5, d6, d7⟩ := doneR_5 R who
                      simp only [d0, d1, d2, d3, d4, d5, d6, d7] at q0 q1 q2 q3 q4 q5 q6 q7
                      rw [d0, d1, d2, d3, d4, d5, d6, d7] at HBF
                      refine bodyPost_ret (v := .tuple #[.agg #[.int .i64 ((doneR R 5 who) 0), .int .i64 ((doneR R 5 who) 1), .int .i64 ((doneR R 5 who) 2), .int .i64 ((doneR R 5 who) 3), .int .i64 ((doneR R 5 who) 4), .int .i64 ((doneR R 5 who) 5), .int .i64 ((doneR R 5 who) 6), .int .i64 ((doneR R 5 who) 7)], .int .i64 0]) (by rw [d0, d1, d2, d3, d4, d5, d6, d7]; simp [results, Try.results13, go_sem, q0, q1, q2, q3, q4, q5, q6, q7]) rfl ⟨rfl, HBF.out⟩
                    · obtain ⟨hr, ⟨_, a0, a1⟩, hz⟩ := HX2.out
                      have HZ := Lib.hid hz
                      have HR := Lib.hid hr
                      obtain ⟨c0, c1, c2, c3, c4, c5, c6, c7⟩ := hr.box.cells
                      obtain ⟨g0, g1, g2, g3, g4, g5, g6, g7⟩ := hr.free
                      obtain ⟨z0, z1, z2, z3, z4, z5, z6, z7⟩ := hz.box.cells
                      obtain ⟨f0, f1, f2, f3, f4, f5, f6, f7⟩ := hz.free
                      clear hz hr
                      go_wp2_with fail
                      have HZ2 := Lib.hid ((HZ.out.other (b' := w.heap.size) (by omega) 0 (.int .i64 6)).other (b' := w.heap.size) (by omega) 7 (.int .i64 who))
                      obtain ⟨q0, q1, q2, q3, q4, q5, q6, q7⟩ := (HZ2.out.set8 (doneR R 6 who)).box.cells
                      have HBF := Lib.hid (below_set8 ((HB2.out.setCell (p := ⟨w.heap.size, 0, none⟩) (Nat.le_refl _) (.int .i64 6)).setCell (p := ⟨w.heap.size, 7, none⟩) (Nat.le_refl _) (.int .i64 who)) (b := w.heap.size + 1 + 1) (by omega) (doneR R 6 who))
                      obtain ⟨d0, d1, d2, d3, d4, d5, d6, d7⟩ := doneR_6 R who
                      simp only [d0, d1, d2, d3, d4, d5, d6, d7] at q0 q1 q2 q3 q4 q5 q6 q7
                      rw [d0, d1, d2, d3, d4, d5, d6, d7] at HBF
                      refine bodyPost_ret (v := .tuple #[.agg #[.int .i64 ((doneR R 6 who) 0), .int .i64 ((doneR R 6 who) 1), .int .i64 ((doneR R 6 who) 2), .int .i64 ((doneR R 6 who) 3), .int .i64 ((doneR R 6 who) 4), .int .i64 ((doneR R 6 who) 5), .int .i64 ((doneR R 6 who) 6), .int .i64 ((doneR R 6 who) 7)], .int .i64 0]) (by rw [d0, d1, d2, d3, d4, d5, d6, d7]; simp [results, Try.results13, go_sem, q0, q1, q2, q3, q4, q5, q6, q7]) rfl ⟨rfl, HBF.out⟩
                  · have HE := Lib.hid (refE_right (R := R) HN.out hp hl hb)
                    rw [(stepE_no he (by rw [HE.out]; decide)).1, (stepE_no he (by rw [HE.out]; decide)).2, HE.out]
                    clear he
                    go_enter Try.func13, Try.ntmps13
                    go_wp2_with fail
                    refine (HCK.out _).mono ?_
                    rintro e w1 ⟨rfl, hb1⟩
                    have HX1 := Lib.hid (HX0.out.below hb1)
                    have HB1 := Lib.hid (HB0.out.trans (hb1.mono HB0.out.size))
                    clear hb1 HX0 HB0
                    obtain ⟨hr, ⟨_, a0, a1⟩, hz⟩ := HX1.out
                    have HZ := Lib.hid hz
                    have HR := Lib.hid hr
                    obtain ⟨c0, c1, c2, c3, c4, c5, c6, c7⟩ := hr.box.cells
                    obtain ⟨g0, g1, g2, g3, g4, g5, g6, g7⟩ := hr.free
                    obtain ⟨z0, z1, z2, z3, z4, z5, z6, z7⟩ := hz.box.cells
                    obtain ⟨f0, f1, f2, f3, f4, f5, f6, f7⟩ := hz.free
                    clear hz hr
                    go_wp2_with (go_at_call 15; refine (isPerson_ref _ _).mono ?_; rintro e w' ⟨rfl, h'⟩; subst w'; rw [hp])
                    clear c0 c1 c2 c3 c4 c5 c6 c7 g0 g1 g2 g3 g4 g5 g6 g7 z0 z1 z2 z3 z4 z5 z6 z7 f0 f1 f2 f3 f4 f5 f6 f7 a0 a1 HZ HR
                    refine (barred_ref R a who _).mono ?_
                    rintro e w2 ⟨rfl, hb2⟩
                    rw [hb]
                    have HX2 := Lib.hid (HX1.out.below hb2)
                    have HB2 := Lib.hid (HB1.out.trans (hb2.mono HB1.out.size))
                    clear hb2 HX1 HB1
                    obtain ⟨hr, ⟨_, a0, a1⟩, hz⟩ := HX2.out
                    have HZ := Lib.hid hz
                    have HR := Lib.hid hr
                    obtain ⟨c0, c1, c2, c3, c4, c5, c6, c7⟩ := hr.box.cells
                    obtain ⟨g0, g1, g2, g3, g4, g5, g6, g7⟩ := hr.free
                    obtain ⟨z0, z1, z2, z3, z4, z5, z6, z7⟩ := hz.box.cells
                    obtain ⟨f0, f1, f2, f3, f4, f5, f6, f7⟩ := hz.free
                    clear hz hr
                    go_wp2_with fail
                    obtain ⟨q0, q1, q2, q3, q4, q5, q6, q7⟩ := (HZ.out.set8 R).box.cells
                    skip
                    refine bodyPost_ret (v := .tuple #[.agg #[.int .i64 (R 0), .int .i64 (R 1), .int .i64 (R 2), .int .i64 (R 3), .int .i64 (R 4), .int .i64 (R 5), .int .i64 (R 6), .int .i64 (R 7)], .int .i64 (9)]) (by simp [results, Try.results13, go_sem, q0, q1, q2, q3, q4, q5, q6, q7]) rfl ⟨rfl, below_set8 HB2.out (by omega) R⟩
                · have h2B : (R 0 == 1) = false := by simpa using h2
                  have h2D : decide (R 0 = 1) = false := decide_eq_false h2
                  have h3 : a = R 0 + 1 := by
                    subst h1; rw [leads_1, decide_eq_true_iff] at hl; omega
                  have hnB : (a != R 0 + 1) = false := by simp; omega
                  have hnD : decide (a = R 0 + 1) = true := decide_eq_true h3
                  clear h1 h2 h3
                  cases hb : barB R a who
                  · have HE := Lib.hid (refE_ok (R := R) HN.out hp hl hb)
                    rw [(stepE_do he HE.out).1, (stepE_do he HE.out).2]
                    clear he
                    go_enter Try.func13, Try.ntmps13
                    go_wp2_with fail
                    refine (HCK.out _).mono ?_
                    rintro e w1 ⟨rfl, hb1⟩
                    have HX1 := Lib.hid (HX0.out.below hb1)
                    have HB1 := Lib.hid (HB0.out.trans (hb1.mono HB0.out.size))
                    clear hb1 HX0 HB0
                    obtain ⟨hr, ⟨_, a0, a1⟩, hz⟩ := HX1.out
                    have HZ := Lib.hid hz
                    have HR := Lib.hid hr
                    obtain ⟨c0, c1, c2, c3, c4, c5, c6, c7⟩ := hr.box.cells
                    obtain ⟨g0, g1, g2, g3, g4, g5, g6, g7⟩ := hr.free
                    obtain ⟨z0, z1, z2, z3, z4, z5, z6, z7⟩ := hz.box.cells
                    obtain ⟨f0, f1, f2, f3, f4, f5, f6, f7⟩ := hz.free
                    clear hz hr
                    go_wp2_with (go_at_call 15; refine (isPerson_ref _ _).mono ?_; rintro e w' ⟨rfl, h'⟩; subst w'; rw [hp])
                    clear c0 c1 c2 c3 c4 c5 c6 c7 g0 g1 g2 g3 g4 g5 g6 g7 z0 z1 z2 z3 z4 z5 z6 z7 f0 f1 f2 f3 f4 f5 f6 f7 a0 a1 HZ HR
                    refine (barred_ref R a who _).mono ?_
                    rintro e w2 ⟨rfl, hb2⟩
                    rw [hb]
                    have HX2 := Lib.hid (HX1.out.below hb2)
                    have HB2 := Lib.hid (HB1.out.trans (hb2.mono HB1.out.size))
                    clear hb2 HX1 HB1
                    clear haB ha7B ha ha7 h7B h7D h7 HN hl HE h1B h1D hnB hnD hb HCK h0 h6
                    rcases HA.out with rfl | rfl | rfl | rfl | rfl | rfl
                    · obtain ⟨hr, ⟨_, a0, a1⟩, hz⟩ := HX2.out
                      have HZ := Lib.hid hz
                      have HR := Lib.hid hr
                      obtain ⟨c0, c1, c2, c3, c4, c5, c6, c7⟩ := hr.box.cells
                      obtain ⟨g0, g1, g2, g3, g4, g5, g6, g7⟩ := hr.free
                      obtain ⟨z0, z1, z2, z3, z4, z5, z6, z7⟩ := hz.box.cells
                      obtain ⟨f0, f1, f2, f3, f4, f5, f6, f7⟩ := hz.free
                      clear hz hr
                      go_wp2_with fail
                      have HZ2 := Lib.hid ((HZ.out.other (b' := w.heap.size) (by omega) 0 (.int .i64 1)).other (b' := w.heap.size) (by omega) 2 (.int .i64 who))
                      obtain ⟨q0, q1, q2, q3, q4, q5, q6, q7⟩ := (HZ2.out.set8 (doneR R 1 who)).box.cells
                      have HBF := Lib.hid (below_set8 ((HB2.out.setCell (p := ⟨w.heap.size, 0, none⟩) (Nat.le_refl _) (.int .i64 1)).setCell (p := ⟨w.heap.size, 2, none⟩) (Nat.le_refl _) (.int .i64 who)) (b := w.heap.size + 1 + 1) (by omega) (doneR R 1 who))
                      obtain ⟨d0, d1, d2, d3, d4, d5, d6, d7⟩ := doneR_1 R who
                      simp only [d0, d1, d2, d3, d4, d5, d6, d7] at q0 q1 q2 q3 q4 q5 q6 q7
                      rw [d0, d1, d2, d3, d4, d5, d6, d7] at HBF
                      refine bodyPost_ret (v := .tuple #[.agg #[.int .i64 ((doneR R 1 who) 0), .int .i64 ((doneR R 1 who) 1), .int .i64 ((doneR R 1 who) 2), .int .i64 ((doneR R 1 who) 3), .int .i64 ((doneR R 1 who) 4), .int .i64 ((doneR R 1 who) 5), .int .i64 ((doneR R 1 who) 6), .int .i64 ((doneR R 1 who) 7)], .int .i64 0]) (by rw [d0, d1, d2, d3, d4, d5, d6, d7]; simp [results, Try.results13, go_sem, q0, q1, q2, q3, q4, q5, q6, q7]) rfl ⟨rfl, HBF.out⟩
                    · obtain ⟨hr, ⟨_, a0, a1⟩, hz⟩ := HX2.out
                      have HZ := Lib.hid hz
                      have HR := Lib.hid hr
                      obtain ⟨c0, c1, c2, c3, c4, c5, c6, c7⟩ := hr.box.cells
                      obtain ⟨g0, g1, g2, g3, g4, g5, g6, g7⟩ := hr.free
                      obtain ⟨z0, z1, z2, z3, z4, z5, z6, z7⟩ := hz.box.cells
                      obtain ⟨f0, f1, f2, f3, f4, f5, f6, f7⟩ := hz.free
                      clear hz hr
                      go_wp2_with fail
                      have HZ2 := Lib.hid ((HZ.out.other (b' := w.heap.size) (by omega) 0 (.int .i64 2)).other (b' := w.heap.size) (by omega) 3 (.int .i64 who))
                      obtain ⟨q0, q1, q2, q3, q4, q5, q6, q7⟩ := (HZ2.out.set8 (doneR R 2 who)).box.cells
                      have HBF := Lib.hid (below_set8 ((HB2.out.setCell (p := ⟨w.heap.size, 0, none⟩) (Nat.le_refl _) (.int .i64 2)).setCell (p := ⟨w.heap.size, 3, none⟩) (Nat.le_refl _) (.int .i64 who)) (b := w.heap.size + 1 + 1) (by omega) (doneR R 2 who))
                      obtain ⟨d0, d1, d2, d3, d4, d5, d6, d7⟩ := doneR_2 R who
                      simp only [d0, d1, d2, d3, d4, d5, d6, d7] at q0 q1 q2 q3 q4 q5 q6 q7
                      rw [d0, d1, d2, d3, d4, d5, d6, d7] at HBF
                      refine bodyPost_ret (v := .tuple #[.agg #[.int .i64 ((doneR R 2 who) 0), .int .i64 ((doneR R 2 who) 1), .int .i64 ((doneR R 2 who) 2), .int .i64 ((doneR R 2 who) 3), .int .i64 ((doneR R 2 who) 4), .int .i64 ((doneR R 2 who) 5), .int .i64 ((doneR R 2 who) 6), .int .i64 ((doneR R 2 who) 7)], .int .i64 0]) (by rw [d0, d1, d2, d3, d4, d5, d6, d7]; simp [results, Try.results13, go_sem, q0, q1, q2, q3, q4, q5, q6, q7]) rfl ⟨rfl, HBF.out⟩
                    · obtain ⟨hr, ⟨_, a0, a1⟩, hz⟩ := HX2.out
                      have HZ := Lib.hid hz
                      have HR := Lib.hid hr
                      obtain ⟨c0, c1, c2, c3, c4, c5, c6, c7⟩ := hr.box.cells
                      obtain ⟨g0, g1, g2, g3, g4, g5, g6, g7⟩ := hr.free
                      obtain ⟨z0, z1, z2, z3, z4, z5, z6, z7⟩ := hz.box.cells
                      obtain ⟨f0, f1, f2, f3, f4, f5, f6, f7⟩ := hz.free
                      clear hz hr
                      go_wp2_with fail
                      have HZ2 := Lib.hid ((HZ.out.other (b' := w.heap.size) (by omega) 0 (.int .i64 3)).other (b' := w.heap.size) (by omega) 4 (.int .i64 who))
                      obtain ⟨q0, q1, q2, q3, q4, q5, q6, q7⟩ := (HZ2.out.set8 (doneR R 3 who)).box.cells
                      have HBF := Lib.hid (below_set8 ((HB2.out.setCell (p := ⟨w.heap.size, 0, none⟩) (Nat.le_refl _) (.int .i64 3)).setCell (p := ⟨w.heap.size, 4, none⟩) (Nat.le_refl _) (.int .i64 who)) (b := w.heap.size + 1 + 1) (by omega) (doneR R 3 who))
                      obtain ⟨d0, d1, d2, d3, d4, d5, d6, d7⟩ := doneR_3 R who
                      simp only [d0, d1, d2, d3, d4, d5, d6, d7] at q0 q1 q2 q3 q4 q5 q6 q7
                      rw [d0, d1, d2, d3, d4, d5, d6, d7] at HBF
                      refine bodyPost_ret (v := .tuple #[.agg #[.int .i64 ((doneR R 3 who) 0), .int .i64 ((doneR R 3 who) 1), .int .i64 ((doneR R 3 who) 2), .int .i64 ((doneR R 3 who) 3), .int .i64 ((doneR R 3 who) 4), .int .i64 ((doneR R 3 who) 5), .int .i64 ((doneR R 3 who) 6), .int .i64 ((doneR R 3 who) 7)], .int .i64 0]) (by rw [d0, d1, d2, d3, d4, d5, d6, d7]; simp [results, Try.results13, go_sem, q0, q1, q2, q3, q4, q5, q6, q7]) rfl ⟨rfl, HBF.out⟩
                    · obtain ⟨hr, ⟨_, a0, a1⟩, hz⟩ := HX2.out
                      have HZ := Lib.hid hz
                      have HR := Lib.hid hr
                      obtain ⟨c0, c1, c2, c3, c4, c5, c6, c7⟩ := hr.box.cells
                      obtain ⟨g0, g1, g2, g3, g4, g5, g6, g7⟩ := hr.free
                      obtain ⟨z0, z1, z2, z3, z4, z5, z6, z7⟩ := hz.box.cells
                      obtain ⟨f0, f1, f2, f3, f4, f5, f6, f7⟩ := hz.free
                      clear hz hr
                      go_wp2_with fail
                      have HZ2 := Lib.hid ((HZ.out.other (b' := w.heap.size) (by omega) 0 (.int .i64 4)).other (b' := w.heap.size) (by omega) 5 (.int .i64 who))
                      obtain ⟨q0, q1, q2, q3, q4, q5, q6, q7⟩ := (HZ2.out.set8 (doneR R 4 who)).box.cells
                      have HBF := Lib.hid (below_set8 ((HB2.out.setCell (p := ⟨w.heap.size, 0, none⟩) (Nat.le_refl _) (.int .i64 4)).setCell (p := ⟨w.heap.size, 5, none⟩) (Nat.le_refl _) (.int .i64 who)) (b := w.heap.size + 1 + 1) (by omega) (doneR R 4 who))
                      obtain ⟨d0, d1, d2, d3, d4, d5, d6, d7⟩ := doneR_4 R who
                      simp only [d0, d1, d2, d3, d4, d5, d6, d7] at q0 q1 q2 q3 q4 q5 q6 q7
                      rw [d0, d1, d2, d3, d4, d5, d6, d7] at HBF
                      refine bodyPost_ret (v := .tuple #[.agg #[.int .i64 ((doneR R 4 who) 0), .int .i64 ((doneR R 4 who) 1), .int .i64 ((doneR R 4 who) 2), .int .i64 ((doneR R 4 who) 3), .int .i64 ((doneR R 4 who) 4), .int .i64 ((doneR R 4 who) 5), .int .i64 ((doneR R 4 who) 6), .int .i64 ((doneR R 4 who) 7)], .int .i64 0]) (by rw [d0, d1, d2, d3, d4, d5, d6, d7]; simp [results, Try.results13, go_sem, q0, q1, q2, q3, q4, q5, q6, q7]) rfl ⟨rfl, HBF.out⟩
                    · obtain ⟨hr, ⟨_, a0, a1⟩, hz⟩ := HX2.out
                      have HZ := Lib.hid hz
                      have HR := Lib.hid hr
                      obtain ⟨c0, c1, c2, c3, c4, c5, c6, c7⟩ := hr.box.cells
                      obtain ⟨g0, g1, g2, g3, g4, g5, g6, g7⟩ := hr.free
                      obtain ⟨z0, z1, z2, z3, z4, z5, z6, z7⟩ := hz.box.cells
                      obtain ⟨f0, f1, f2, f3, f4, f5, f6, f7⟩ := hz.free
                      clear hz hr
                      go_wp2_with fail
                      have HZ2 := Lib.hid ((HZ.out.other (b' := w.heap.size) (by omega) 0 (.int .i64 5)).other (b' := w.heap.size) (by omega) 6 (.int .i64 who))
                      obtain ⟨q0, q1, q2, q3, q4, q5, q6, q7⟩ := (HZ2.out.set8 (doneR R 5 who)).box.cells
                      have HBF := Lib.hid (below_set8 ((HB2.out.setCell (p := ⟨w.heap.size, 0, none⟩) (Nat.le_refl _) (.int .i64 5)).setCell (p := ⟨w.heap.size, 6, none⟩) (Nat.le_refl _) (.int .i64 who)) (b := w.heap.size + 1 + 1) (by omega) (doneR R 5 who))
                      obtain ⟨d0, d1, d2, d3, d4, d5, d6, d7⟩ := doneR_5 R who
                      simp only [d0, d1, d2, d3, d4, d5, d6, d7] at q0 q1 q2 q3 q4 q5 q6 q7
                      rw [d0, d1, d2, d3, d4, d5, d6, d7] at HBF
                      refine bodyPost_ret (v := .tuple #[.agg #[.int .i64 ((doneR R 5 who) 0), .int .i64 ((doneR R 5 who) 1), .int .i64 ((doneR R 5 who) 2), .int .i64 ((doneR R 5 who) 3), .int .i64 ((doneR R 5 who) 4), .int .i64 ((doneR R 5 who) 5), .int .i64 ((doneR R 5 who) 6), .int .i64 ((doneR R 5 who) 7)], .int .i64 0]) (by rw [d0, d1, d2, d3, d4, d5, d6, d7]; simp [results, Try.results13, go_sem, q0, q1, q2, q3, q4, q5, q6, q7]) rfl ⟨rfl, HBF.out⟩
                    · obtain ⟨hr, ⟨_, a0, a1⟩, hz⟩ := HX2.out
                      have HZ := Lib.hid hz
                      have HR := Lib.hid hr
                      obtain ⟨c0, c1, c2, c3, c4, c5, c6, c7⟩ := hr.box.cells
                      obtain ⟨g0, g1, g2, g3, g4, g5, g6, g7⟩ := hr.free
                      obtain ⟨z0, z1, z2, z3, z4, z5, z6, z7⟩ := hz.box.cells
                      obtain ⟨f0, f1, f2, f3, f4, f5, f6, f7⟩ := hz.free
                      clear hz hr
                      go_wp2_with fail
                      have HZ2 := Lib.hid ((HZ.out.other (b' := w.heap.size) (by omega) 0 (.int .i64 6)).other (b' := w.heap.size) (by omega) 7 (.int .i64 who))
                      obtain ⟨q0, q1, q2, q3, q4, q5, q6, q7⟩ := (HZ2.out.set8 (doneR R 6 who)).box.cells
                      have HBF := Lib.hid (below_set8 ((HB2.out.setCell (p := ⟨w.heap.size, 0, none⟩) (Nat.le_refl _) (.int .i64 6)).setCell (p := ⟨w.heap.size, 7, none⟩) (Nat.le_refl _) (.int .i64 who)) (b := w.heap.size + 1 + 1) (by omega) (doneR R 6 who))
                      obtain ⟨d0, d1, d2, d3, d4, d5, d6, d7⟩ := doneR_6 R who
                      simp only [d0, d1, d2, d3, d4, d5, d6, d7] at q0 q1 q2 q3 q4 q5 q6 q7
                      rw [d0, d1, d2, d3, d4, d5, d6, d7] at HBF
                      refine bodyPost_ret (v := .tuple #[.agg #[.int .i64 ((doneR R 6 who) 0), .int .i64 ((doneR R 6 who) 1), .int .i64 ((doneR R 6 who) 2), .int .i64 ((doneR R 6 who) 3), .int .i64 ((doneR R 6 who) 4), .int .i64 ((doneR R 6 who) 5), .int .i64 ((doneR R 6 who) 6), .int .i64 ((doneR R 6 who) 7)], .int .i64 0]) (by rw [d0, d1, d2, d3, d4, d5, d6, d7]; simp [results, Try.results13, go_sem, q0, q1, q2, q3, q4, q5, q6, q7]) rfl ⟨rfl, HBF.out⟩
                  · have HE := Lib.hid (refE_right (R := R) HN.out hp hl hb)
                    rw [(stepE_no he (by rw [HE.out]; decide)).1, (stepE_no he (by rw [HE.out]; decide)).2, HE.out]
                    clear he
                    go_enter Try.func13, Try.ntmps13
                    go_wp2_with fail
                    refine (HCK.out _).mono ?_
                    rintro e w1 ⟨rfl, hb1⟩
                    have HX1 := Lib.hid (HX0.out.below hb1)
                    have HB1 := Lib.hid (HB0.out.trans (hb1.mono HB0.out.size))
                    clear hb1 HX0 HB0
                    obtain ⟨hr, ⟨_, a0, a1⟩, hz⟩ := HX1.out
                    have HZ := Lib.hid hz
                    have HR := Lib.hid hr
                    obtain ⟨c0, c1, c2, c3, c4, c5, c6, c7⟩ := hr.box.cells
                    obtain ⟨g0, g1, g2, g3, g4, g5, g6, g7⟩ := hr.free
                    obtain ⟨z0, z1, z2, z3, z4, z5, z6, z7⟩ := hz.box.cells
                    obtain ⟨f0, f1, f2, f3, f4, f5, f6, f7⟩ := hz.free
                    clear hz hr
                    go_wp2_with (go_at_call 15; refine (isPerson_ref _ _).mono ?_; rintro e w' ⟨rfl, h'⟩; subst w'; rw [hp])
                    clear c0 c1 c2 c3 c4 c5 c6 c7 g0 g1 g2 g3 g4 g5 g6 g7 z0 z1 z2 z3 z4 z5 z6 z7 f0 f1 f2 f3 f4 f5 f6 f7 a0 a1 HZ HR
                    refine (barred_ref R a who _).mono ?_
                    rintro e w2 ⟨rfl, hb2⟩
                    rw [hb]
                    have HX2 := Lib.hid (HX1.out.below hb2)
                    have HB2 := Lib.hid (HB1.out.trans (hb2.mono HB1.out.size))
                    clear hb2 HX1 HB1
                    obtain ⟨hr, ⟨_, a0, a1⟩, hz⟩ := HX2.out
                    have HZ := Lib.hid hz
                    have HR := Lib.hid hr
                    obtain ⟨c0, c1, c2, c3, c4, c5, c6, c7⟩ := hr.box.cells
                    obtain ⟨g0, g1, g2, g3, g4, g5, g6, g7⟩ := hr.free
                    obtain ⟨z0, z1, z2, z3, z4, z5, z6, z7⟩ := hz.box.cells
                    obtain ⟨f0, f1, f2, f3, f4, f5, f6, f7⟩ := hz.free
                    clear hz hr
                    go_wp2_with fail
                    obtain ⟨q0, q1, q2, q3, q4, q5, q6, q7⟩ := (HZ.out.set8 R).box.cells
                    skip
                    refine bodyPost_ret (v := .tuple #[.agg #[.int .i64 (R 0), .int .i64 (R 1), .int .i64 (R 2), .int .i64 (R 3), .int .i64 (R 4), .int .i64 (R 5), .int .i64 (R 6), .int .i64 (R 7)], .int .i64 (9)]) (by simp [results, Try.results13, go_sem, q0, q1, q2, q3, q4, q5, q6, q7]) rfl ⟨rfl, below_set8 HB2.out (by omega) R⟩
              · have h1B : (a == 1) = false := by simpa using h1
                have h1D : decide (a = 1) = false := decide_eq_false h1
                have h3 : a = R 0 + 1 := by rw [leads_other h7 h1, decide_eq_true_iff] at hl; exact hl
                have hnB : (a != R 0 + 1) = false := by simp; omega
                have hnD : decide (a = R 0 + 1) = true := decide_eq_true h3
                clear h1 h3
                cases hb : barB R a who
                · have HE := Lib.hid (refE_ok (R := R) HN.out hp hl hb)
                  rw [(stepE_do he HE.out).1, (stepE_do he HE.out).2]
                  clear he
                  go_enter Try.func13, Try.ntmps13
                  go_wp2_with fail
                  refine (HCK.out _).mono ?_
                  rintro e w1 ⟨rfl, hb1⟩
                  have HX1 := Lib.hid (HX0.out.below hb1)
                  have HB1 := Lib.hid (HB0.out.trans (hb1.mono HB0.out.size))
                  clear hb1 HX0 HB0
                  obtain ⟨hr, ⟨_, a0, a1⟩, hz⟩ := HX1.out
                  have HZ := Lib.hid hz
                  have HR := Lib.hid hr
                  obtain ⟨c0, c1, c2, c3, c4, c5, c6, c7⟩ := hr.box.cells
                  obtain ⟨g0, g1, g2, g3, g4, g5, g6, g7⟩ := hr.free
                  obtain ⟨z0, z1, z2, z3, z4, z5, z6, z7⟩ := hz.box.cells
                  obtain ⟨f0, f1, f2, f3, f4, f5, f6, f7⟩ := hz.free
                  clear hz hr
                  go_wp2_with (go_at_call 15; refine (isPerson_ref _ _).mono ?_; rintro e w' ⟨rfl, h'⟩; subst w'; rw [hp])
                  clear c0 c1 c2 c3 c4 c5 c6 c7 g0 g1 g2 g3 g4 g5 g6 g7 z0 z1 z2 z3 z4 z5 z6 z7 f0 f1 f2 f3 f4 f5 f6 f7 a0 a1 HZ HR
                  refine (barred_ref R a who _).mono ?_
                  rintro e w2 ⟨rfl, hb2⟩
                  rw [hb]
                  have HX2 := Lib.hid (HX1.out.below hb2)
                  have HB2 := Lib.hid (HB1.out.trans (hb2.mono HB1.out.size))
                  clear hb2 HX1 HB1
                  clear haB ha7B ha ha7 h7B h7D h7 HN hl HE h1B h1D hnB hnD hb HCK h0 h6
                  rcases HA.out with rfl | rfl | rfl | rfl | rfl | rfl
                  · obtain ⟨hr, ⟨_, a0, a1⟩, hz⟩ := HX2.out
                    have HZ := Lib.hid hz
                    have HR := Lib.hid hr
                    obtain ⟨c0, c1, c2, c3, c4, c5, c6, c7⟩ := hr.box.cells
                    obtain ⟨g0, g1, g2, g3, g4, g5, g6, g7⟩ := hr.free
                    obtain ⟨z0, z1, z2, z3, z4, z5, z6, z7⟩ := hz.box.cells
                    obtain ⟨f0, f1, f2, f3, f4, f5, f6, f7⟩ := hz.free
                    clear hz hr
                    go_wp2_with fail
                    have HZ2 := Lib.hid ((HZ.out.other (b' := w.heap.size) (by omega) 0 (.int .i64 1)).other (b' := w.heap.size) (by omega) 2 (.int .i64 who))
                    obtain ⟨q0, q1, q2, q3, q4, q5, q6, q7⟩ := (HZ2.out.set8 (doneR R 1 who)).box.cells
                    have HBF := Lib.hid (below_set8 ((HB2.out.setCell (p := ⟨w.heap.size, 0, none⟩) (Nat.le_refl _) (.int .i64 1)).setCell (p := ⟨w.heap.size, 2, none⟩) (Nat.le_refl _) (.int .i64 who)) (b := w.heap.size + 1 + 1) (by omega) (doneR R 1 who))
                    obtain ⟨d0, d1, d2, d3, d4, d5, d6, d7⟩ := doneR_1 R who
                    simp only [d0, d1, d2, d3, d4, d5, d6, d7] at q0 q1 q2 q3 q4 q5 q6 q7
                    rw [d0, d1, d2, d3, d4, d5, d6, d7] at HBF
                    refine bodyPost_ret (v := .tuple #[.agg #[.int .i64 ((doneR R 1 who) 0), .int .i64 ((doneR R 1 who) 1), .int .i64 ((doneR R 1 who) 2), .int .i64 ((doneR R 1 who) 3), .int .i64 ((doneR R 1 who) 4), .int .i64 ((doneR R 1 who) 5), .int .i64 ((doneR R 1 who) 6), .int .i64 ((doneR R 1 who) 7)], .int .i64 0]) (by rw [d0, d1, d2, d3, d4, d5, d6, d7]; simp [results, Try.results13, go_sem, q0, q1, q2, q3, q4, q5, q6, q7]) rfl ⟨rfl, HBF.out⟩
                  · obtain ⟨hr, ⟨_, a0, a1⟩, hz⟩ := HX2.out
                    have HZ := Lib.hid hz
                    have HR := Lib.hid hr
                    obtain ⟨c0, c1, c2, c3, c4, c5, c6, c7⟩ := hr.box.cells
                    obtain ⟨g0, g1, g2, g3, g4, g5, g6, g7⟩ := hr.free
                    obtain ⟨z0, z1, z2, z3, z4, z5, z6, z7⟩ := hz.box.cells
                    obtain ⟨f0, f1, f2, f3, f4, f5, f6, f7⟩ := hz.free
                    clear hz hr
                    go_wp2_with fail
                    have HZ2 := Lib.hid ((HZ.out.other (b' := w.heap.size) (by omega) 0 (.int .i64 2)).other (b' := w.heap.size) (by omega) 3 (.int .i64 who))
                    obtain ⟨q0, q1, q2, q3, q4, q5, q6, q7⟩ := (HZ2.out.set8 (doneR R 2 who)).box.cells
                    have HBF := Lib.hid (below_set8 ((HB2.out.setCell (p := ⟨w.heap.size, 0, none⟩) (Nat.le_refl _) (.int .i64 2)).setCell (p := ⟨w.heap.size, 3, none⟩) (Nat.le_refl _) (.int .i64 who)) (b := w.heap.size + 1 + 1) (by omega) (doneR R 2 who))
                    obtain ⟨d0, d1, d2, d3, d4, d5, d6, d7⟩ := doneR_2 R who
                    simp only [d0, d1, d2, d3, d4, d5, d6, d7] at q0 q1 q2 q3 q4 q5 q6 q7
                    rw [d0, d1, d2, d3, d4, d5, d6, d7] at HBF
                    refine bodyPost_ret (v := .tuple #[.agg #[.int .i64 ((doneR R 2 who) 0), .int .i64 ((doneR R 2 who) 1), .int .i64 ((doneR R 2 who) 2), .int .i64 ((doneR R 2 who) 3), .int .i64 ((doneR R 2 who) 4), .int .i64 ((doneR R 2 who) 5), .int .i64 ((doneR R 2 who) 6), .int .i64 ((doneR R 2 who) 7)], .int .i64 0]) (by rw [d0, d1, d2, d3, d4, d5, d6, d7]; simp [results, Try.results13, go_sem, q0, q1, q2, q3, q4, q5, q6, q7]) rfl ⟨rfl, HBF.out⟩
                  · obtain ⟨hr, ⟨_, a0, a1⟩, hz⟩ := HX2.out
                    have HZ := Lib.hid hz
                    have HR := Lib.hid hr
                    obtain ⟨c0, c1, c2, c3, c4, c5, c6, c7⟩ := hr.box.cells
                    obtain ⟨g0, g1, g2, g3, g4, g5, g6, g7⟩ := hr.free
                    obtain ⟨z0, z1, z2, z3, z4, z5, z6, z7⟩ := hz.box.cells
                    obtain ⟨f0, f1, f2, f3, f4, f5, f6, f7⟩ := hz.free
                    clear hz hr
                    go_wp2_with fail
                    have HZ2 := Lib.hid ((HZ.out.other (b' := w.heap.size) (by omega) 0 (.int .i64 3)).other (b' := w.heap.size) (by omega) 4 (.int .i64 who))
                    obtain ⟨q0, q1, q2, q3, q4, q5, q6, q7⟩ := (HZ2.out.set8 (doneR R 3 who)).box.cells
                    have HBF := Lib.hid (below_set8 ((HB2.out.setCell (p := ⟨w.heap.size, 0, none⟩) (Nat.le_refl _) (.int .i64 3)).setCell (p := ⟨w.heap.size, 4, none⟩) (Nat.le_refl _) (.int .i64 who)) (b := w.heap.size + 1 + 1) (by omega) (doneR R 3 who))
                    obtain ⟨d0, d1, d2, d3, d4, d5, d6, d7⟩ := doneR_3 R who
                    simp only [d0, d1, d2, d3, d4, d5, d6, d7] at q0 q1 q2 q3 q4 q5 q6 q7
                    rw [d0, d1, d2, d3, d4, d5, d6, d7] at HBF
                    refine bodyPost_ret (v := .tuple #[.agg #[.int .i64 ((doneR R 3 who) 0), .int .i64 ((doneR R 3 who) 1), .int .i64 ((doneR R 3 who) 2), .int .i64 ((doneR R 3 who) 3), .int .i64 ((doneR R 3 who) 4), .int .i64 ((doneR R 3 who) 5), .int .i64 ((doneR R 3 who) 6), .int .i64 ((doneR R 3 who) 7)], .int .i64 0]) (by rw [d0, d1, d2, d3, d4, d5, d6, d7]; simp [results, Try.results13, go_sem, q0, q1, q2, q3, q4, q5, q6, q7]) rfl ⟨rfl, HBF.out⟩
                  · obtain ⟨hr, ⟨_, a0, a1⟩, hz⟩ := HX2.out
                    have HZ := Lib.hid hz
                    have HR := Lib.hid hr
                    obtain ⟨c0, c1, c2, c3, c4, c5, c6, c7⟩ := hr.box.cells
                    obtain ⟨g0, g1, g2, g3, g4, g5, g6, g7⟩ := hr.free
                    obtain ⟨z0, z1, z2, z3, z4, z5, z6, z7⟩ := hz.box.cells
                    obtain ⟨f0, f1, f2, f3, f4, f5, f6, f7⟩ := hz.free
                    clear hz hr
                    go_wp2_with fail
                    have HZ2 := Lib.hid ((HZ.out.other (b' := w.heap.size) (by omega) 0 (.int .i64 4)).other (b' := w.heap.size) (by omega) 5 (.int .i64 who))
                    obtain ⟨q0, q1, q2, q3, q4, q5, q6, q7⟩ := (HZ2.out.set8 (doneR R 4 who)).box.cells
                    have HBF := Lib.hid (below_set8 ((HB2.out.setCell (p := ⟨w.heap.size, 0, none⟩) (Nat.le_refl _) (.int .i64 4)).setCell (p := ⟨w.heap.size, 5, none⟩) (Nat.le_refl _) (.int .i64 who)) (b := w.heap.size + 1 + 1) (by omega) (doneR R 4 who))
                    obtain ⟨d0, d1, d2, d3, d4, d5, d6, d7⟩ := doneR_4 R who
                    simp only [d0, d1, d2, d3, d4, d5, d6, d7] at q0 q1 q2 q3 q4 q5 q6 q7
                    rw [d0, d1, d2, d3, d4, d5, d6, d7] at HBF
                    refine bodyPost_ret (v := .tuple #[.agg #[.int .i64 ((doneR R 4 who) 0), .int .i64 ((doneR R 4 who) 1), .int .i64 ((doneR R 4 who) 2), .int .i64 ((doneR R 4 who) 3), .int .i64 ((doneR R 4 who) 4), .int .i64 ((doneR R 4 who) 5), .int .i64 ((doneR R 4 who) 6), .int .i64 ((doneR R 4 who) 7)], .int .i64 0]) (by rw [d0, d1, d2, d3, d4, d5, d6, d7]; simp [results, Try.results13, go_sem, q0, q1, q2, q3, q4, q5, q6, q7]) rfl ⟨rfl, HBF.out⟩
                  · obtain ⟨hr, ⟨_, a0, a1⟩, hz⟩ := HX2.out
                    have HZ := Lib.hid hz
                    have HR := Lib.hid hr
                    obtain ⟨c0, c1, c2, c3, c4, c5, c6, c7⟩ := hr.box.cells
                    obtain ⟨g0, g1, g2, g3, g4, g5, g6, g7⟩ := hr.free
                    obtain ⟨z0, z1, z2, z3, z4, z5, z6, z7⟩ := hz.box.cells
                    obtain ⟨f0, f1, f2, f3, f4, f5, f6, f7⟩ := hz.free
                    clear hz hr
                    go_wp2_with fail
                    have HZ2 := Lib.hid ((HZ.out.other (b' := w.heap.size) (by omega) 0 (.int .i64 5)).other (b' := w.heap.size) (by omega) 6 (.int .i64 who))
                    obtain ⟨q0, q1, q2, q3, q4, q5, q6, q7⟩ := (HZ2.out.set8 (doneR R 5 who)).box.cells
                    have HBF := Lib.hid (below_set8 ((HB2.out.setCell (p := ⟨w.heap.size, 0, none⟩) (Nat.le_refl _) (.int .i64 5)).setCell (p := ⟨w.heap.size, 6, none⟩) (Nat.le_refl _) (.int .i64 who)) (b := w.heap.size + 1 + 1) (by omega) (doneR R 5 who))
                    obtain ⟨d0, d1, d2, d3, d4, d5, d6, d7⟩ := doneR_5 R who
                    simp only [d0, d1, d2, d3, d4, d5, d6, d7] at q0 q1 q2 q3 q4 q5 q6 q7
                    rw [d0, d1, d2, d3, d4, d5, d6, d7] at HBF
                    refine bodyPost_ret (v := .tuple #[.agg #[.int .i64 ((doneR R 5 who) 0), .int .i64 ((doneR R 5 who) 1), .int .i64 ((doneR R 5 who) 2), .int .i64 ((doneR R 5 who) 3), .int .i64 ((doneR R 5 who) 4), .int .i64 ((doneR R 5 who) 5), .int .i64 ((doneR R 5 who) 6), .int .i64 ((doneR R 5 who) 7)], .int .i64 0]) (by rw [d0, d1, d2, d3, d4, d5, d6, d7]; simp [results, Try.results13, go_sem, q0, q1, q2, q3, q4, q5, q6, q7]) rfl ⟨rfl, HBF.out⟩
                  · obtain ⟨hr, ⟨_, a0, a1⟩, hz⟩ := HX2.out
                    have HZ := Lib.hid hz
                    have HR := Lib.hid hr
                    obtain ⟨c0, c1, c2, c3, c4, c5, c6, c7⟩ := hr.box.cells
                    obtain ⟨g0, g1, g2, g3, g4, g5, g6, g7⟩ := hr.free
                    obtain ⟨z0, z1, z2, z3, z4, z5, z6, z7⟩ := hz.box.cells
                    obtain ⟨f0, f1, f2, f3, f4, f5, f6, f7⟩ := hz.free
                    clear hz hr
                    go_wp2_with fail
                    have HZ2 := Lib.hid ((HZ.out.other (b' := w.heap.size) (by omega) 0 (.int .i64 6)).other (b' := w.heap.size) (by omega) 7 (.int .i64 who))
                    obtain ⟨q0, q1, q2, q3, q4, q5, q6, q7⟩ := (HZ2.out.set8 (doneR R 6 who)).box.cells
                    have HBF := Lib.hid (below_set8 ((HB2.out.setCell (p := ⟨w.heap.size, 0, none⟩) (Nat.le_refl _) (.int .i64 6)).setCell (p := ⟨w.heap.size, 7, none⟩) (Nat.le_refl _) (.int .i64 who)) (b := w.heap.size + 1 + 1) (by omega) (doneR R 6 who))
                    obtain ⟨d0, d1, d2, d3, d4, d5, d6, d7⟩ := doneR_6 R who
                    simp only [d0, d1, d2, d3, d4, d5, d6, d7] at q0 q1 q2 q3 q4 q5 q6 q7
                    rw [d0, d1, d2, d3, d4, d5, d6, d7] at HBF
                    refine bodyPost_ret (v := .tuple #[.agg #[.int .i64 ((doneR R 6 who) 0), .int .i64 ((doneR R 6 who) 1), .int .i64 ((doneR R 6 who) 2), .int .i64 ((doneR R 6 who) 3), .int .i64 ((doneR R 6 who) 4), .int .i64 ((doneR R 6 who) 5), .int .i64 ((doneR R 6 who) 6), .int .i64 ((doneR R 6 who) 7)], .int .i64 0]) (by rw [d0, d1, d2, d3, d4, d5, d6, d7]; simp [results, Try.results13, go_sem, q0, q1, q2, q3, q4, q5, q6, q7]) rfl ⟨rfl, HBF.out⟩
                · have HE := Lib.hid (refE_right (R := R) HN.out hp hl hb)
                  rw [(stepE_no he (by rw [HE.out]; decide)).1, (stepE_no he (by rw [HE.out]; decide)).2, HE.out]
                  clear he
                  go_enter Try.func13, Try.ntmps13
                  go_wp2_with fail
                  refine (HCK.out _).mono ?_
                  rintro e w1 ⟨rfl, hb1⟩
                  have HX1 := Lib.hid (HX0.out.below hb1)
                  have HB1 := Lib.hid (HB0.out.trans (hb1.mono HB0.out.size))
                  clear hb1 HX0 HB0
                  obtain ⟨hr, ⟨_, a0, a1⟩, hz⟩ := HX1.out
                  have HZ := Lib.hid hz
                  have HR := Lib.hid hr
                  obtain ⟨c0, c1, c2, c3, c4, c5, c6, c7⟩ := hr.box.cells
                  obtain ⟨g0, g1, g2, g3, g4, g5, g6, g7⟩ := hr.free
                  obtain ⟨z0, z1, z2, z3, z4, z5, z6, z7⟩ := hz.box.cells
                  obtain ⟨f0, f1, f2, f3, f4, f5, f6, f7⟩ := hz.free
                  clear hz hr
                  go_wp2_with (go_at_call 15; refine (isPerson_ref _ _).mono ?_; rintro e w' ⟨rfl, h'⟩; subst w'; rw [hp])
                  clear c0 c1 c2 c3 c4 c5 c6 c7 g0 g1 g2 g3 g4 g5 g6 g7 z0 z1 z2 z3 z4 z5 z6 z7 f0 f1 f2 f3 f4 f5 f6 f7 a0 a1 HZ HR
                  refine (barred_ref R a who _).mono ?_
                  rintro e w2 ⟨rfl, hb2⟩
                  rw [hb]
                  have HX2 := Lib.hid (HX1.out.below hb2)
                  have HB2 := Lib.hid (HB1.out.trans (hb2.mono HB1.out.size))
                  clear hb2 HX1 HB1
                  obtain ⟨hr, ⟨_, a0, a1⟩, hz⟩ := HX2.out
                  have HZ := Lib.hid hz
                  have HR := Lib.hid hr
                  obtain ⟨c0, c1, c2, c3, c4, c5, c6, c7⟩ := hr.box.cells
                  obtain ⟨g0, g1, g2, g3, g4, g5, g6, g7⟩ := hr.free
                  obtain ⟨z0, z1, z2, z3, z4, z5, z6, z7⟩ := hz.box.cells
                  obtain ⟨f0, f1, f2, f3, f4, f5, f6, f7⟩ := hz.free
                  clear hz hr
                  go_wp2_with fail
                  obtain ⟨q0, q1, q2, q3, q4, q5, q6, q7⟩ := (HZ.out.set8 R).box.cells
                  skip
                  refine bodyPost_ret (v := .tuple #[.agg #[.int .i64 (R 0), .int .i64 (R 1), .int .i64 (R 2), .int .i64 (R 3), .int .i64 (R 4), .int .i64 (R 5), .int .i64 (R 6), .int .i64 (R 7)], .int .i64 (9)]) (by simp [results, Try.results13, go_sem, q0, q1, q2, q3, q4, q5, q6, q7]) rfl ⟨rfl, below_set8 HB2.out (by omega) R⟩
  · obtain ⟨s1, s2⟩ := stepE_bad (a := a) (who := who) he
    rw [s1, s2]
    clear s1 s2
    have heB : (runE R != 0) = true := by simpa using he
    have heD : decide (runE R = 0) = false := decide_eq_false he
    go_enter Try.func13, Try.ntmps13
    go_wp2_with fail
    refine (checkRun_ref R _).mono ?_
    rintro e w1 ⟨rfl, hb1⟩
    have HX1 := Lib.hid (HX0.out.below hb1)
    have HB1 := Lib.hid (HB0.out.trans (hb1.mono HB0.out.size))
    clear hb1 HX0 HB0
    obtain ⟨hr, ⟨_, a0, a1⟩, hz⟩ := HX1.out
    have HZ := Lib.hid hz
    have HR := Lib.hid hr
    obtain ⟨c0, c1, c2, c3, c4, c5, c6, c7⟩ := hr.box.cells
    obtain ⟨g0, g1, g2, g3, g4, g5, g6, g7⟩ := hr.free
    obtain ⟨z0, z1, z2, z3, z4, z5, z6, z7⟩ := hz.box.cells
    obtain ⟨f0, f1, f2, f3, f4, f5, f6, f7⟩ := hz.free
    clear hz hr
    go_wp2_with fail
    obtain ⟨q0, q1, q2, q3, q4, q5, q6, q7⟩ := (HZ.out.set8 zeroR).box.cells
    simp only [zeroR] at q0 q1 q2 q3 q4 q5 q6 q7
    refine bodyPost_ret (v := .tuple #[.agg #[.int .i64 (zeroR 0), .int .i64 (zeroR 1), .int .i64 (zeroR 2), .int .i64 (zeroR 3), .int .i64 (zeroR 4), .int .i64 (zeroR 5), .int .i64 (zeroR 6), .int .i64 (zeroR 7)], .int .i64 (runE R)]) (by simp [results, Try.results13, go_sem,zeroR, q0, q1, q2, q3, q4, q5, q6, q7]) rfl ⟨rfl, below_set8 HB1.out (by omega) zeroR⟩
end Go.Proofs.Ytfdhjdbefikjmaa
