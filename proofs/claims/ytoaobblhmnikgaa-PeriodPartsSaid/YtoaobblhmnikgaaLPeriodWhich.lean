/-
  The walk of the reference's PeriodOf, and of the law PeriodWhich: it answers true at every schedule and every int.
-/
import Derived.Test.YtoaobblhmnikgaaPWhichW
namespace Go.Proofs.Ytoaobblhmnikgaa
open Go.RowKit Go.Maps

set_option maxRecDepth 100000 in
set_option maxHeartbeats 4000000 in
theorem which_ref (K A L x : Int) (w : World) : Calls Try.prog 18 #[.agg #[.int .i64 K, .int .i64 A, .int .i64 L], .int .i64 x] w fun e w' => ∃ r er : Int, e = .returned (.tuple #[.int .i64 r, .int .i64 er]) ∧ WhichIs K A L x r er ∧ Below w.heap.size w w' := by
  have HB0 := Lib.hid ((Below.refl w.heap.size w).alloc (Nat.le_refl _) (.cells #[.int .i64 K, .int .i64 A, .int .i64 L] 23))
  have HS0 := Lib.hid (SchIs.made w K A L 23)
  go_enter Try.func18, Try.ntmps18
  go_wp2_with fail
  refine (check_ref K A L _).mono ?_
  rintro e w1 ⟨rfl, hb1⟩
  have HB1 := Lib.hid (HB0.out.trans (hb1.mono HB0.out.size))
  have HS1 := Lib.hid (HS0.out.below hb1)
  clear hb1 HB0 HS0
  by_cases hz : schedE K A L = 0
  · obtain ⟨h1, h4, hdA, _, _⟩ := schedE_ok hz
    obtain ⟨hA0, hA1⟩ := dayB_iff.1 hdA
    cases hdx : dayB x
    · have HP : Hid (WhichIs K A L x 0 3) := .inr ⟨hz, .inl ⟨hdx, rfl, rfl⟩⟩
      go_wp2_with (go_at_call 32; refine (isDay_ref _ _).mono ?_; rintro e w' ⟨rfl, h'⟩; subst w')
      go_ret2
      exact ⟨_, _, rfl, HP.out, HB1.out⟩
    · obtain ⟨hx0, hx1⟩ := dayB_iff.1 hdx
      have HW : Hid (∀ r e, ((K ≤ 2 ∧ WeekW (7 * K) A x r e) ∨ (¬ K ≤ 2 ∧ ∃ (k m : Nat) (d : Int) (k' m' : Nat) (d' : Int), IsCivil A k m d ∧ IsCivil x k' m' d' ∧ MonW K (idx K k m d) (idx K k' m' d') r e)) → WhichIs K A L x r e) := fun r e h => .inr ⟨hz, .inr ⟨hdx, h⟩⟩
      by_cases hK2 : K ≤ 2
      · have hKK : K = 1 ∨ K = 2 := by omega
        rcases hKK with rfl | rfl
        · obtain ⟨x0, x1, x2⟩ := HS1.out
          by_cases hxA : x < A
          · have HP := Lib.hid (HW.out 0 3 (.inl ⟨by omega, .inl ⟨hxA, rfl, rfl⟩⟩))
            go_wp2_with (go_at_call 32; refine (isDay_ref _ _).mono ?_; rintro e w' ⟨rfl, h'⟩; subst w')
            go_ret2
            exact ⟨_, _, rfl, HP.out, HB1.out⟩
          · have hxB : decide (x < A) = false := decide_eq_false hxA
            have hq0 : 0 ≤ (x - A) / 7 := by omega
            have hq1 : (x - A) / 7 ≤ 73048 := by omega
            have hdn : 0 ≤ x - A := by omega
            have hmul : 7 * ((x - A) / 7 + 1) = 7 * ((x - A) / 7) + 7 := by omega
            by_cases hb1 : 73048 < A + 7 * ((x - A) / 7 + 1) - 1
            · have HP := Lib.hid (HW.out 0 3 (.inl ⟨by omega, .inr ⟨by omega, .inl ⟨.inl (by omega), rfl, rfl⟩⟩⟩))
              have hdy : dayB (A + 7 * ((x - A) / 7 + 1) - 1) = false := dayB_not.2 (by omega)
              clear hmul
              go_wp2_with (first
                | (have := HSEC; go_at_call 32; refine (isDay_ref _ _).mono ?_; rintro e w' ⟨rfl, h'⟩; subst w'; rw [hdy])
                | (go_at_call 32; refine (isDay_ref _ _).mono ?_; rintro e w' ⟨rfl, h'⟩; subst w'; have HSEC := Lib.hid hq0))
              go_ret2
              exact ⟨_, _, rfl, HP.out, HB1.out⟩
            · have hdy : dayB (A + 7 * ((x - A) / 7 + 1) - 1) = true := dayB_iff.2 (by omega)
              by_cases h5 : 5000 ≤ (x - A) / 7
              · have HP := Lib.hid (HW.out 0 3 (.inl ⟨by omega, .inr ⟨by omega, .inl ⟨.inr h5, rfl, rfl⟩⟩⟩))
                clear hmul
                go_wp2_with (first
                  | (have := HSEC; go_at_call 32; refine (isDay_ref _ _).mono ?_; rintro e w' ⟨rfl, h'⟩; subst w'; rw [hdy])
                  | (go_at_call 32; refine (isDay_ref _ _).mono ?_; rintro e w' ⟨rfl, h'⟩; subst w'; have HSEC := Lib.hid hq0))
                go_ret2
                exact ⟨_, _, rfl, HP.out, HB1.out⟩
              · have h5B : decide (5000 ≤ (x - A) / 7) = false := decide_eq_false h5
                have HP := Lib.hid (HW.out ((x - A) / 7) 0 (.inl ⟨by omega, .inr ⟨by omega, .inr ⟨by omega, rfl, rfl⟩⟩⟩))
                clear hmul
                go_wp2_with (first
                  | (have := HSEC; go_at_call 32; refine (isDay_ref _ _).mono ?_; rintro e w' ⟨rfl, h'⟩; subst w'; rw [hdy])
                  | (go_at_call 32; refine (isDay_ref _ _).mono ?_; rintro e w' ⟨rfl, h'⟩; subst w'; have HSEC := Lib.hid hq0))
                go_ret2
                exact ⟨_, _, rfl, HP.out, HB1.out⟩
        · obtain ⟨x0, x1, x2⟩ := HS1.out
          by_cases hxA : x < A
          · have HP := Lib.hid (HW.out 0 3 (.inl ⟨by omega, .inl ⟨hxA, rfl, rfl⟩⟩))
            go_wp2_with (go_at_call 32; refine (isDay_ref _ _).mono ?_; rintro e w' ⟨rfl, h'⟩; subst w')
            go_ret2
            exact ⟨_, _, rfl, HP.out, HB1.out⟩
          · have hxB : decide (x < A) = false := decide_eq_false hxA
            have hq0 : 0 ≤ (x - A) / 14 := by omega
            have hq1 : (x - A) / 14 ≤ 73048 := by omega
            have hdn : 0 ≤ x - A := by omega
            have hmul : 14 * ((x - A) / 14 + 1) = 14 * ((x - A) / 14) + 14 := by omega
            by_cases hb1 : 73048 < A + 14 * ((x - A) / 14 + 1) - 1
            · have HP := Lib.hid (HW.out 0 3 (.inl ⟨by omega, .inr ⟨by omega, .inl ⟨.inl (by omega), rfl, rfl⟩⟩⟩))
              have hdy : dayB (A + 14 * ((x - A) / 14 + 1) - 1) = false := dayB_not.2 (by omega)
              clear hmul
              go_wp2_with (first
                | (have := HSEC; go_at_call 32; refine (isDay_ref _ _).mono ?_; rintro e w' ⟨rfl, h'⟩; subst w'; rw [hdy])
                | (go_at_call 32; refine (isDay_ref _ _).mono ?_; rintro e w' ⟨rfl, h'⟩; subst w'; have HSEC := Lib.hid hq0))
              go_ret2
              exact ⟨_, _, rfl, HP.out, HB1.out⟩
            · have hdy : dayB (A + 14 * ((x - A) / 14 + 1) - 1) = true := dayB_iff.2 (by omega)
              by_cases h5 : 5000 ≤ (x - A) / 14
              · have HP := Lib.hid (HW.out 0 3 (.inl ⟨by omega, .inr ⟨by omega, .inl ⟨.inr h5, rfl, rfl⟩⟩⟩))
                clear hmul
                go_wp2_with (first
                  | (have := HSEC; go_at_call 32; refine (isDay_ref _ _).mono ?_; rintro e w' ⟨rfl, h'⟩; subst w'; rw [hdy])
                  | (go_at_call 32; refine (isDay_ref _ _).mono ?_; rintro e w' ⟨rfl, h'⟩; subst w'; have HSEC := Lib.hid hq0))
                go_ret2
                exact ⟨_, _, rfl, HP.out, HB1.out⟩
              · have h5B : decide (5000 ≤ (x - A) / 14) = false := decide_eq_false h5
                have HP := Lib.hid (HW.out ((x - A) / 14) 0 (.inl ⟨by omega, .inr ⟨by omega, .inr ⟨by omega, rfl, rfl⟩⟩⟩))
                clear hmul
                go_wp2_with (first
                  | (have := HSEC; go_at_call 32; refine (isDay_ref _ _).mono ?_; rintro e w' ⟨rfl, h'⟩; subst w'; rw [hdy])
                  | (go_at_call 32; refine (isDay_ref _ _).mono ?_; rintro e w' ⟨rfl, h'⟩; subst w'; have HSEC := Lib.hid hq0))
                go_ret2
                exact ⟨_, _, rfl, HP.out, HB1.out⟩
      · have hK2B : decide (K ≤ 2) = false := decide_eq_false hK2
        have hK34 : K = 3 ∨ K = 4 := by omega
        have HK34 := Lib.hid hK34
        obtain ⟨k, m, d, hcA⟩ := civil_ex hdA
        obtain ⟨k', m', d', hcX⟩ := civil_ex hdx
        obtain ⟨hN0, hN1, _, _⟩ := idx_in hK34 hcA
        obtain ⟨hX0, hX1, hX2, hX3⟩ := idx_in hK34 hcX
        obtain ⟨hAe, hM0, hM1, hdM⟩ := civil_fm hcA
        have hd1 := hcA.d1
        have HAE := Lib.hid hAe
        have HST : Hid (fm (12 * (k : Int) + (m : Int) - 1) + offB K d = stt K (idx K k m d)) := off_stt hK34
        have HWM : Hid (∀ r e, MonW K (idx K k m d) (idx K k' m' d') r e → WhichIs K A L x r e) := fun r e h => HW.out r e (.inr ⟨hK2, k, m, d, k', m', d', hcA, hcX, h⟩)
        have HCV := Lib.hid (fun j => civil_at (M := 12 * (k : Int) + (m : Int) - 1) (j := j) hM0 hM1)
        clear hAe hcA hcX hK34
        generalize idx K k m d = N at *
        generalize idx K k' m' d' = Nx at *
        generalize 12 * (k : Int) + (m : Int) - 1 = M0 at *
        obtain ⟨hfb1, hfb2⟩ := fm_bd (M := M0) hM0 (by omega)
        have hmd31 := (md_bd (2000 + M0 / 12) (M0 % 12 + 1)).2
        have hd31 : d ≤ 31 := by omega
        have hof : 0 ≤ offB K d ∧ offB K d ≤ d - 1 := by unfold offB; split <;> omega
        obtain ⟨x0, x1, x2⟩ := HS1.out
        go_wp2_with (go_at_call 32; refine (isDay_ref _ _).mono ?_; rintro e w' ⟨rfl, h'⟩; subst w')
        clear x0 x1 x2
        go_loopw [8] (fun fv wr => ∃ j : Int, fv = .int .i64 (fm M0 + j) ∧ offB K d ≤ j ∧ j ≤ d - 1 ∧ SchIs wr w.heap.size K A L ∧ Below w.heap.size w wr) (fun fv _ => (intOf fv).toNat)
        case atStart => exact ⟨d - 1, by rw [← HAE.out], hof.2, Int.le_refl _, HS1.out, HB1.out⟩
        case round =>
          obtain ⟨j, rfl, hj0, hj1, hs, hb⟩ := hrel
          have HS := Lib.hid hs
          have HB := Lib.hid hb
          obtain ⟨x0, x1, x2⟩ := hs
          clear hb
          have hcj := HCV.out j (by omega) (by omega)
          have hdj := civil_dayB hcj
          have HBG := Lib.hid (fun w => begins_ref K A L (fm M0 + j) w hdj HK34.out)
          have HEQ : Hid (∀ k' m' d', IsCivil (fm M0 + j) k' m' d' → begB K d' = decide (j = offB K d)) := fun k' m' d' hc => by rw [(hc.unique hcj).2.2]; exact off_beg hj0 hj1
          clear hcj hdj
          go_wp2_with fail
          refine (HBG.out _).mono ?_
          rintro e w3 ⟨k3, m3, d3, rfl, hc3, hb3⟩
          rw [HEQ.out _ _ _ hc3]
          have HB3 := Lib.hid (HB.out.trans (hb3.mono HB.out.size))
          have HS3 := Lib.hid (HS.out.below hb3)
          clear hb3 hc3 HBG HEQ x0 x1 x2
          by_cases hjo : j = offB K d
          · have hjB : decide (j = offB K d) = true := decide_eq_true hjo
            rw [hjB]
            have hxe : fm M0 + j = stt K N := by rw [hjo]; exact HST.out
            rw [hxe]
            clear hxe hjo hjB hj0 hj1 HS HB HCV
            by_cases hlt : x < stt K N
            · have HP := Lib.hid (HWM.out 0 3 (.inl ⟨by
                by_cases e : N ≤ Nx
                · have := stt_le HK34.out hN0 e; omega
                · omega, rfl, rfl⟩))
              go_wp2_with fail
              go_ret2
              exact ⟨_, _, rfl, HP.out, HB3.out⟩
            · have hltB : decide (x < stt K N) = false := decide_eq_false hlt
              have hle : N ≤ Nx := by
                by_cases e : N ≤ Nx
                · exact e
                · have := stt_le HK34.out (a := Nx + 1) (b := N) (by omega) (by omega); omega
              have HAF0 := Lib.hid (fun w => after_ref K A L N w HK34.out hN0 hN1)
              obtain ⟨x0, x1, x2⟩ := HS3.out
              generalize hsN : stt K N = sN at *
              go_wp2_with fail
              refine (HAF0.out _).mono ?_
              rintro e w4 ⟨rfl, hb4⟩
              have HB4 := Lib.hid (HB3.out.trans (hb4.mono HB3.out.size))
              have HS4 := Lib.hid (HS3.out.below hb4)
              clear hb4 x0 x1 x2 HB3 HS3 HAF0
              go_wp2_with fail
              go_loopw [7, 9] (fun kv dv wr => ∃ q : Int, kv = .int .i64 q ∧ 0 ≤ q ∧ N + q ≤ Nx ∧ dv = .int .i64 (stt K (N + q + 1)) ∧ SchIs wr w.heap.size K A L ∧ Below w.heap.size w wr) (fun kv _ _ => (Nx - N - intOf kv).toNat)
              case atStart => exact ⟨0, rfl, by omega, by omega, by rw [show N + 0 + 1 = N + 1 from by omega], HS4.out, HB4.out⟩
              case round =>
                obtain ⟨q, rfl, hq0, hq1, rfl, hs, hb⟩ := hrel
                have HS := Lib.hid hs
                have HB := Lib.hid hb
                obtain ⟨x0, x1, x2⟩ := hs
                clear hb
                have hlimb : lim K ≤ 4800 := by unfold lim; split <;> omega
                by_cases hlt2 : N + q < Nx
                · have hd2 : stt K (N + q + 1) ≤ x := by have := stt_le HK34.out (a := N + q + 1) (b := Nx) (by omega) (by omega); omega
                  have HAF := Lib.hid (fun w => after_ref K A L (N + q + 1) w HK34.out (by omega) (by omega))
                  have HREL : Hid (stt K (N + q + 1 + 1) = stt K (N + (q + 1) + 1)) := by unfold Hid; rw [show N + q + 1 + 1 = N + (q + 1) + 1 from by omega]
                  generalize stt K (N + q + 1) = d1 at *
                  go_wp2_with fail
                  refine (HAF.out _).mono ?_
                  rintro e w6 ⟨rfl, hb6⟩
                  have HB6 := Lib.hid (HB.out.trans (hb6.mono HB.out.size))
                  have HS6 := Lib.hid (HS.out.below hb6)
                  clear hb6
                  rw [HREL.out]
                  go_wp2_with fail
                  go_roundw
                  case rel => exact ⟨q + 1, by go_num, by omega, by omega, rfl, HS6.out, HB6.out⟩
                  case measure => simp [intOf] <;> omega
                · obtain rfl : Nx = N + q := by omega
                  have hd2 : ¬ stt K (N + q + 1) ≤ x := by omega
                  have hd2B : decide (stt K (N + q + 1) ≤ x) = false := decide_eq_false hd2
                  generalize stt K (N + q + 1) = d1 at *
                  by_cases h5 : 5000 ≤ q
                  · exfalso; omega
                  · have h5B : decide (5000 ≤ q) = false := decide_eq_false h5
                    have HP := Lib.hid (HWM.out q 0 (.inr ⟨⟨hle, .inr ⟨by omega, by omega, rfl⟩⟩, HK34.out⟩))
                    go_wp2_with fail
                    go_ret2
                    exact ⟨_, _, rfl, HP.out, HB.out⟩
          · have hjB : decide (j = offB K d) = false := decide_eq_false hjo
            rw [hjB]
            go_wp2_with fail
            go_roundw
            case rel => exact ⟨j - 1, by rw [show fm M0 + (j - 1) = fm M0 + j - 1 from by omega], by omega, by omega, HS3.out, HB3.out⟩
            case measure => simp [intOf] <;> omega
  · have hzB : decide (schedE K A L = 0) = false := decide_eq_false hz
    have hsb := schedE_bd K A L
    have HP : Hid (WhichIs K A L x 0 (schedE K A L)) := .inl ⟨hz, rfl, rfl⟩
    go_wp2_with fail
    go_ret2
    exact ⟨_, _, rfl, HP.out, HB1.out⟩
theorem WhichIs.zero {K A L x r e : Int} (h : WhichIs K A L x r e) (he : e ≠ 0) : r = 0 := by
  rcases h with ⟨_, h, _⟩ | ⟨_, ⟨_, h, _⟩ | ⟨_, ⟨_, h⟩ | ⟨_, _, _, _, _, _, _, _, _, h⟩⟩⟩
  · exact h
  · exact h
  · rcases h with ⟨_, h, _⟩ | ⟨_, ⟨_, h, _⟩ | ⟨_, _, h⟩⟩
    · exact h
    · exact h
    · exact absurd h he
  · rcases h with ⟨_, h, _⟩ | ⟨⟨_, ⟨_, h, _⟩ | ⟨_, _, h⟩⟩, _⟩
    · exact h
    · exact h
    · exact absurd h he
set_option maxRecDepth 100000 in
set_option maxHeartbeats 1000000 in
theorem walk_periodWhich (K A L : Int) (_ : (Lit.int .i64 K).wf = true) (_ : (Lit.int .i64 A).wf = true) (_ : (Lit.int .i64 L).wf = true) (x : Int) (_ : (Lit.int .i64 x).wf = true) (w : World) :
    Calls Try.prog 5 #[.agg #[.int .i64 K, .int .i64 A, .int .i64 L], .int .i64 x] w fun e w' => e = .returned (.bool true) ∧ Below w.heap.size w w' := by
  have HB0 := Lib.hid ((Below.refl w.heap.size w).alloc (Nat.le_refl _) (.cells #[.int .i64 K, .int .i64 A, .int .i64 L] 23))
  have HS0 := Lib.hid (SchIs.made w K A L 23)
  go_enter Try.func5, Try.ntmps5
  go_wp2_with fail
  refine (Which_any K A L x _).mono ?_
  rintro e w1 ⟨r, er, rfl, hE, hb1⟩
  obtain ⟨x0, x1, x2⟩ := HS0.out.below hb1
  have HB1 := Lib.hid (HB0.out.trans (hb1.mono HB0.out.size))
  have HE := Lib.hid hE
  have hl := rlt x0
  clear hb1 hE HB0 HS0
  go_wp2_with fail
  refine (which_ref K A L x _).mono ?_
  rintro e w2 ⟨r', er', rfl, hE', hb2⟩
  obtain ⟨rfl, rfl⟩ := hE'.unique HE.out
  have HB2 := Lib.hid (HB1.out.trans (hb2.mono HB1.out.size))
  clear hb2 hE' x0 x1 x2 hl
  go_wp2_with fail
  refine (begun_any _).mono ?_
  rintro e w3 ⟨rfl, hb3⟩
  have HB3 := Lib.hid (HB2.out.trans (hb3.mono HB2.out.size))
  clear hb3
  go_wp2_with fail
  refine (numberIs_same _ _ _ (fun h => HE.out.zero h)).mono ?_
  rintro e w4 ⟨rfl, h4⟩
  subst w4
  go_wp2_with fail
  go_ret
  exact ⟨rfl, HB3.out⟩
end Go.Proofs.Ytoaobblhmnikgaa
