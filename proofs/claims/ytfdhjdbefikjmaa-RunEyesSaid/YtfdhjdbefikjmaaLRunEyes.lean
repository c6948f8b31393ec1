/-
  The walk of the law RunEyes: it answers true at every input. A run that is played passes Check, and who may not bring it to a state did not.
-/
import Derived.Test.YtfdhjdbefikjmaaLRunPlays
namespace Go.Proofs.Ytfdhjdbefikjmaa
open Go.RowKit

theorem allN_all {f : Nat → Bool} : ∀ {m : Nat}, (∀ j, j < m → f j = true) → allN f m = true
  | 0, _ => rfl
  | m + 1, h => by rw [allN, allN_all (fun j hj => h j (by omega)), h m (by omega)]; rfl
theorem metN_congr {R R' : Nat → Int} {L : List Int} {who : Int} : ∀ k, (∀ j, j < k → R (1 + (nth L j).toNat) = R' (1 + (nth L j).toNat)) → metN R L who k = metN R' L who k
  | 0, _ => rfl
  | k + 1, h => by rw [metN, metN, metN_congr k (fun j hj => h j (by omega)), h k (by omega)]
theorem apL_lt {i : Nat} : ∀ j, j < (apL (i : Int)).length → (nth (apL (i : Int)) j).toNat < i := by
  intro j hj
  by_cases h2 : i = 2
  · subst h2
    match j, hj with
    | 0, _ => decide
  · by_cases h3 : i = 3
    · subst h3
      match j, hj with
      | 0, _ => decide
      | 1, _ => decide
    · by_cases h5 : i = 5
      · subst h5
        match j, hj with
        | 0, _ => decide
        | 1, _ => decide
      · rw [apL_other (by omega) (by omega) (by omega)] at hj
        simp at hj
theorem barB_congr {R R' : Nat → Int} {i : Nat} {x : Int} (h : ∀ e, e < i → R (1 + e) = R' (1 + e)) : barB R i x = barB R' i x := by
  unfold barB
  exact metN_congr _ fun j hj => h _ (apL_lt j hj)
theorem done_lt {R : Nat → Int} {A i : Nat} {who : Int} (h7 : A ≠ 7) (h : i < A) : doneR R A who (1 + i) = R (1 + i) := by
  unfold doneR
  rw [if_neg (by omega)]
  show (if 1 + i = 0 then (A : Int) else if ((1 + i : Nat) : Int) = A + 1 then who else R (1 + i)) = _
  rw [if_neg (by omega), if_neg (by omega)]
theorem done_gt {R : Nat → Int} {A i : Nat} {who : Int} (h7 : A ≠ 7) (h : i ≠ A) : doneR R A who (1 + i) = R (1 + i) := by
  unfold doneR
  rw [if_neg (by omega)]
  show (if 1 + i = 0 then (A : Int) else if ((1 + i : Nat) : Int) = A + 1 then who else R (1 + i)) = _
  rw [if_neg (by omega), if_neg (by omega)]
theorem done_at {R : Nat → Int} {A : Nat} {who : Int} (h7 : A ≠ 7) : doneR R A who (1 + A) = who := by
  unfold doneR
  rw [if_neg (by omega)]
  show (if 1 + A = 0 then (A : Int) else if ((1 + A : Nat) : Int) = A + 1 then who else R (1 + A)) = _
  rw [if_neg (by omega), if_pos (by omega)]
theorem done_0 {R : Nat → Int} {A : Nat} {who : Int} (h7 : A ≠ 7) : doneR R A who 0 = A := by
  unfold doneR
  rw [if_neg (by omega)]
  rfl
theorem runE_zero : runE zeroR = 0 := by decide
theorem runE_done {R : Nat → Int} {a who : Int} (h : runE R = 0) (hr : refE R a who = 0) : runE (doneR R a who) = 0 := by
  obtain ⟨hk, hp, hl, hb⟩ := refE_zero hr
  by_cases h7 : a = 7
  · subst h7; exact runE_zero
  · obtain ⟨hs0, hs6⟩ := runE_state h
    obtain ⟨s, hs⟩ : ∃ s : Nat, R 0 = (s : Int) := ⟨(R 0).toNat, by omega⟩
    obtain ⟨A, hA⟩ : ∃ A : Nat, a = (A : Int) := ⟨a.toNat, by omega⟩
    subst hA
    rw [runE_in hs (by omega)] at h
    obtain ⟨h1, h2, h3⟩ := runS_zero h
    have hA7 : A ≠ 7 := by omega
    have hsA : A = s + 1 ∨ (A = 1 ∧ s = 1) := by
      by_cases e1 : (A : Int) = 1
      · rw [e1, leads_1, decide_eq_true_iff, hs] at hl
        omega
      · rw [leads_other h7 e1, decide_eq_true_iff, hs] at hl
        omega
    rw [runE_in (done_0 hA7) (by omega)]
    refine runS_ok (allN_all fun i hi => ?_) (allN_all fun i hi => ?_) (allN_all fun i hi => ?_)
    · by_cases hin : 0 < i ∧ i ≤ A
      · rw [pB_in hin.1 hin.2]
        by_cases e : i = A
        · subst e; rw [done_at hA7]; exact hp
        · rw [done_gt hA7 e]
          have := allN_at h1 hi
          rw [pB_in hin.1 (by omega)] at this
          exact this
      · exact pB_out hin
    · by_cases hin : 0 < i ∧ i ≤ A
      · exact zB_in hin.1 hin.2
      · rw [zB_out hin, done_gt hA7 (by omega)]
        have := allN_at h2 hi
        rw [zB_out (by omega)] at this
        exact this
    · by_cases hin : 0 < i ∧ i ≤ A
      · rw [rB_in hin.1 hin.2]
        by_cases e : i = A
        · subst e
          rw [done_at hA7, barB_congr (R' := R) (fun e he => done_lt hA7 he), hb]
          rfl
        · rw [done_gt hA7 e, barB_congr (R' := R) (fun e he => done_lt hA7 (by omega))]
          have := allN_at h3 hi
          rw [rB_in hin.1 (by omega)] at this
          exact this
      · exact rB_out hin
theorem runE_play (l : List Ac) : ∀ k, runE (playR l k) = 0
  | 0 => runE_zero
  | k + 1 => by
    have ih := runE_play l k
    rw [playR]
    by_cases hr : refE (playR l k) (acnth l k).act (acnth l k).who = 0
    · rw [(stepE_do ih hr).1]; exact runE_done ih hr
    · rw [(stepE_no ih hr).1]; exact ih
/-- What four eyes and more have seen. -/
theorem eyes {R : Nat → Int} (h : runE R = 0) : (2 ≤ R 0 → R 2 ≠ R 3) ∧ (3 ≤ R 0 → R 4 ≠ R 2 ∧ R 4 ≠ R 3) ∧ (5 ≤ R 0 → R 6 ≠ R 4 ∧ R 6 ≠ R 5) := by
  obtain ⟨hs0, hs6⟩ := runE_state h
  obtain ⟨s, hs⟩ : ∃ s : Nat, R 0 = (s : Int) := ⟨(R 0).toNat, by omega⟩
  rw [runE_in hs (by omega)] at h
  obtain ⟨_, _, h3⟩ := runS_zero h
  refine ⟨fun h2 => ?_, fun h2 => ?_, fun h2 => ?_⟩
  · have := allN_at h3 (j := 2) (by omega)
    rw [rB_in (by omega) (by omega)] at this
    have e : barB R 2 (R 3) = false := by simpa using this
    rw [barB_2] at e
    simpa using e
  · have := allN_at h3 (j := 3) (by omega)
    rw [rB_in (by omega) (by omega)] at this
    have e : barB R 3 (R 4) = false := by simpa using this
    rw [barB_3] at e
    simp at e
    exact ⟨fun q => e.1 q.symm, fun q => e.2 q.symm⟩
  · have := allN_at h3 (j := 5) (by omega)
    rw [rB_in (by omega) (by omega)] at this
    have e : barB R 5 (R 6) = false := by simpa using this
    rw [barB_5] at e
    simp at e
    exact ⟨fun q => e.1 q.symm, fun q => e.2 q.symm⟩
theorem WBox.cells (w : World) (R : Nat → Int) (t : TypeId) : ∀ j, j < 7 → (w.alloc (.cells #[.int .i64 (R 1), .int .i64 (R 2), .int .i64 (R 3), .int .i64 (R 4), .int .i64 (R 5), .int .i64 (R 6), .int .i64 (R 7)] t)).cell? ⟨w.heap.size, j, none⟩ = some (.int .i64 (R (j + 1))) := by
  intro j hj
  rw [World.cell?_alloc_at (w := w) _ _ _ _ rfl]
  match j, hj with
  | 0, _ => rfl
  | 1, _ => rfl
  | 2, _ => rfl
  | 3, _ => rfl
  | 4, _ => rfl
  | 5, _ => rfl
  | 6, _ => rfl
set_option maxRecDepth 100000 in
set_option maxHeartbeats 2000000 in
theorem walk_runEyes (a : Option Addr) (n cap : Nat) (l : List Ac) {w : World} (hc : CameAc w a l) (hn : l.length = n) (_ : n ≤ maxLen) (hwf : ∀ j, j < n → WfA (acnth l j)) (hm : n * 16 ≤ 140737488351232) :
    Calls Try.prog 7 #[.slice a n cap] w fun e w' => e = .returned (.bool true) ∧ Below w.heap.size w w' := by
  have HC := Lib.hid hc
  have HP := Lib.hid (fun w hc => Play_any a n cap l w hc hn hm hwf)
  have HRE := Lib.hid (runE_play l n)
  have HWR := Lib.hid (wf_play hwf n (Nat.le_refl _))
  clear hc hwf hn
  go_enter Try.func7, Try.ntmps7
  go_wp2_with fail
  refine (begun_any _).mono ?_
  rintro e w1 ⟨rfl, hb1⟩
  have HB1 := Lib.hid hb1
  have HC1 := Lib.hid (HC.out.below hb1)
  clear hb1
  go_wp2_with fail
  refine (HP.out _ HC1.out).mono ?_
  rintro e w2 ⟨g, rfl, _, hb2⟩
  have HB2 := Lib.hid (HB1.out.trans (hb2.mono HB1.out.size))
  clear hb2 HP HC1
  generalize playR l n = R at *
  have HB3 := Lib.hid (HB2.out.alloc HB2.out.size (.cells #[.int .i64 (R 0), .int .i64 (R 1), .int .i64 (R 2), .int .i64 (R 3), .int .i64 (R 4), .int .i64 (R 5), .int .i64 (R 6), .int .i64 (R 7)] 24))
  have HX3 := Lib.hid (RBox.made w2 R 24)
  have HCK := Lib.hid (fun w => Check_any R w HWR.out)
  rw [HRE.out] at HCK
  go_wp2_with fail
  refine (HCK.out _).mono ?_
  rintro e w3 ⟨rfl, hb3⟩
  have HB4 := Lib.hid (HB3.out.trans (hb3.mono HB3.out.size))
  have HB5 := Lib.hid (HB4.out.alloc HB4.out.size (.cells #[.int .i64 (R 1), .int .i64 (R 2), .int .i64 (R 3), .int .i64 (R 4), .int .i64 (R 5), .int .i64 (R 6), .int .i64 (R 7)] 22))
  have HX4 := Lib.hid (HX3.out.below hb3)
  have HX5 := Lib.hid (HX4.out.below (gbelow_box w3 (.cells #[.int .i64 (R 1), .int .i64 (R 2), .int .i64 (R 3), .int .i64 (R 4), .int .i64 (R 5), .int .i64 (R 6), .int .i64 (R 7)] 22)))
  have HW5 := Lib.hid (WBox.cells w3 R 22)
  clear hb3
  obtain ⟨c0, c1, c2, c3, c4, c5, c6, c7⟩ := HX4.out.cells
  have e0 := HX5.out.2 0 (by omega)
  have u1 := HW5.out 1 (by omega)
  have u2 := HW5.out 2 (by omega)
  have u3 := HW5.out 3 (by omega)
  have u4 := HW5.out 4 (by omega)
  have u5 := HW5.out 5 (by omega)
  obtain ⟨y2, y3, y5⟩ := eyes HRE.out
  by_cases h2 : 2 ≤ R 0
  · have h2B : decide (2 ≤ R 0) = true := decide_eq_true h2
    have b23 : (R 2 == R 3) = false := by simpa using y2 h2
    have n23 : (R 2 != R 3) = true := by simpa using y2 h2
    have d23 : decide (R 2 = R 3) = false := decide_eq_false (y2 h2)
    by_cases h3 : 3 ≤ R 0
    · have h3B : decide (3 ≤ R 0) = true := decide_eq_true h3
      have b42 : (R 4 == R 2) = false := by simpa using (y3 h3).1
      have n42 : (R 4 != R 2) = true := by simpa using (y3 h3).1
      have d42 : decide (R 4 = R 2) = false := decide_eq_false ((y3 h3).1)
      have b43 : (R 4 == R 3) = false := by simpa using (y3 h3).2
      have n43 : (R 4 != R 3) = true := by simpa using (y3 h3).2
      have d43 : decide (R 4 = R 3) = false := decide_eq_false ((y3 h3).2)
      by_cases h5 : 5 ≤ R 0
      · have h5B : decide (R 0 < 5) = false := decide_eq_false (by omega)
        have b64 : (R 6 == R 4) = false := by simpa using (y5 h5).1
        have n64 : (R 6 != R 4) = true := by simpa using (y5 h5).1
        have d64 : decide (R 6 = R 4) = false := decide_eq_false ((y5 h5).1)
        have b65 : (R 6 == R 5) = false := by simpa using (y5 h5).2
        have n65 : (R 6 != R 5) = true := by simpa using (y5 h5).2
        have d65 : decide (R 6 = R 5) = false := decide_eq_false ((y5 h5).2)
        clear y2 y3 y5
        go_wp2_with fail
        go_ret
        exact ⟨gret_bool (by simp [*]), HB5.out⟩
      · have h5B : decide (R 0 < 5) = true := decide_eq_true (by omega)
        clear y2 y3 y5
        go_wp2_with fail
        go_ret
        exact ⟨gret_bool (by simp [*]), HB5.out⟩
    · have h3B : decide (3 ≤ R 0) = false := decide_eq_false h3
      have h5B : decide (R 0 < 5) = true := decide_eq_true (by omega)
      clear y2 y3 y5
      go_wp2_with fail
      go_ret
      exact ⟨gret_bool (by simp [*]), HB5.out⟩
  · have h2B : decide (2 ≤ R 0) = false := decide_eq_false h2
    have h3B : decide (3 ≤ R 0) = false := decide_eq_false (by omega)
    have h5B : decide (R 0 < 5) = true := decide_eq_true (by omega)
    clear y2 y3 y5
    go_wp2_with fail
    go_ret
    exact ⟨gret_bool (by simp [*]), HB5.out⟩
end Go.Proofs.Ytfdhjdbefikjmaa
