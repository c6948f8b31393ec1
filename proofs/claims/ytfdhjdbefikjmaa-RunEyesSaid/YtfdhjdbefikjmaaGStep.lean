/-
  Promise O2: why an action is not done, and what becomes of a run; the walks of leadsOn, refusal, Step.
-/
import Derived.Test.YtfdhjdbefikjmaaGRef
namespace Go.Proofs.Ytfdhjdbefikjmaa
open Go.RowKit

/-- Does an action lead on from a state? -/
def leads (s a : Int) : Bool := if a = 7 then decide (0 < s ∧ s < 5) else if a = 1 then decide (s = 0 ∨ s = 1) else decide (a = s + 1)
theorem leads_7 {s : Int} : leads s 7 = decide (0 < s ∧ s < 5) := rfl
theorem leads_1 {s : Int} : leads s 1 = decide (s = 0 ∨ s = 1) := rfl
theorem leads_other {s a : Int} (h7 : a ≠ 7) (h1 : a ≠ 1) : leads s a = decide (a = s + 1) := by unfold leads; rw [if_neg h7, if_neg h1]
/-- Why an action is not done with a run that is as it must be. -/
def refE (R : Nat → Int) (a who : Int) : Int := if a < 1 ∨ 7 < a then 7 else if perB who = false then 3 else if leads (R 0) a = false then 4 else if barB R a who = true then 9 else 0
theorem refE_kind {R : Nat → Int} {a who : Int} (h : a < 1 ∨ 7 < a) : refE R a who = 7 := if_pos h
theorem refE_range {R : Nat → Int} {a who : Int} (h : ¬ (a < 1 ∨ 7 < a)) (h2 : perB who = false) : refE R a who = 3 := by unfold refE; rw [if_neg h, if_pos h2]
theorem refE_state {R : Nat → Int} {a who : Int} (h : ¬ (a < 1 ∨ 7 < a)) (h2 : perB who = true) (h3 : leads (R 0) a = false) : refE R a who = 4 := by unfold refE; rw [if_neg h, if_neg (by rw [h2]; simp), if_pos h3]
theorem refE_right {R : Nat → Int} {a who : Int} (h : ¬ (a < 1 ∨ 7 < a)) (h2 : perB who = true) (h3 : leads (R 0) a = true) (h4 : barB R a who = true) : refE R a who = 9 := by unfold refE; rw [if_neg h, if_neg (by rw [h2]; simp), if_neg (by rw [h3]; simp), if_pos h4]
theorem refE_ok {R : Nat → Int} {a who : Int} (h : ¬ (a < 1 ∨ 7 < a)) (h2 : perB who = true) (h3 : leads (R 0) a = true) (h4 : barB R a who = false) : refE R a who = 0 := by unfold refE; rw [if_neg h, if_neg (by rw [h2]; simp), if_neg (by rw [h3]; simp), if_neg (by rw [h4]; simp)]
theorem refE_zero {R : Nat → Int} {a who : Int} (h : refE R a who = 0) : ¬ (a < 1 ∨ 7 < a) ∧ perB who = true ∧ leads (R 0) a = true ∧ barB R a who = false := by
  by_cases h1 : a < 1 ∨ 7 < a
  · rw [refE_kind h1] at h; omega
  · cases h2 : perB who
    · rw [refE_range h1 h2] at h; omega
    · cases h3 : leads (R 0) a
      · rw [refE_state h1 h2 h3] at h; omega
      · cases h4 : barB R a who
        · exact ⟨h1, rfl, rfl, rfl⟩
        · rw [refE_right h1 h2 h3 h4] at h; omega
def zeroR : Nat → Int := fun _ => 0
/-- What an action that is done makes of a run. -/
def doneR (R : Nat → Int) (a who : Int) : Nat → Int := if a = 7 then zeroR else fun j => if j = 0 then a else if (j : Int) = a + 1 then who else R j
def stepR (R : Nat → Int) (a who : Int) : Nat → Int := if runE R = 0 then (if refE R a who = 0 then doneR R a who else R) else zeroR
def stepE (R : Nat → Int) (a who : Int) : Int := if runE R = 0 then refE R a who else runE R
theorem stepE_bad {R : Nat → Int} {a who : Int} (h : runE R ≠ 0) : stepR R a who = zeroR ∧ stepE R a who = runE R := ⟨if_neg h, if_neg h⟩
theorem stepE_no {R : Nat → Int} {a who : Int} (h : runE R = 0) (h2 : refE R a who ≠ 0) : stepR R a who = R ∧ stepE R a who = refE R a who := ⟨by unfold stepR; rw [if_pos h, if_neg h2], if_pos h⟩
theorem stepE_do {R : Nat → Int} {a who : Int} (h : runE R = 0) (h2 : refE R a who = 0) : stepR R a who = doneR R a who ∧ stepE R a who = 0 := ⟨by unfold stepR; rw [if_pos h, if_pos h2], by unfold stepE; rw [if_pos h, h2]⟩
theorem runE_state {R : Nat → Int} (h : runE R = 0) : 0 ≤ R 0 ∧ R 0 ≤ 6 := by
  by_cases h1 : R 0 < 0 ∨ 6 < R 0
  · rw [runE_kind h1] at h; omega
  · omega
set_option maxHeartbeats 1000000 in
theorem leadsOn_any (s a : Int) (w : World) (hs : 0 ≤ s) (hs6 : s ≤ 6) : Calls Try.prog 25 #[.int .i64 s, .int .i64 a] w fun e w' => e = .returned (.bool (leads s a)) ∧ w' = w := by
  by_cases h : a = 7
  · subst h
    by_cases h1 : 0 < s
    · have h1B : decide (0 < s) = true := decide_eq_true h1
      have HF : Hid (leads s 7 = decide (s < 5)) := by unfold Hid; rw [leads_7, Bool.eq_iff_iff]; simp [h1]
      go_enter Try.func25, Try.ntmps25
      go_wp2_with fail
      go_ret
      exact ⟨gret_bool HF.out.symm, rfl⟩
    · have h1B : decide (0 < s) = false := decide_eq_false h1
      have HF : Hid (leads s 7 = false) := by unfold Hid; rw [leads_7]; exact decide_eq_false (by omega)
      go_enter Try.func25, Try.ntmps25
      go_wp2_with fail
      go_ret
      exact ⟨gret_bool HF.out.symm, rfl⟩
  · have h7B : decide (a = 7) = false := decide_eq_false h
    have h7E : (a == 7) = false := by simpa using h
    have H7 := Lib.hid h
    clear h
    by_cases h : a = 1
    · subst h
      by_cases h1 : s = 0
      · have HF : Hid (leads s 1 = true) := by unfold Hid; rw [leads_1]; exact decide_eq_true (.inl h1)
        have h1B : (s == 0) = true := by simpa using h1
        have h1D : decide (s = 0) = true := decide_eq_true h1
        clear h1
        go_enter Try.func25, Try.ntmps25
        go_wp2_with fail
        go_ret
        exact ⟨gret_bool (by rw [HF.out]), rfl⟩
      · have HF : Hid (leads s 1 = (s == 1)) := by unfold Hid; rw [leads_1, Bool.eq_iff_iff]; simp [h1]
        have h1B : (s == 0) = false := by simpa using h1
        have h1D : decide (s = 0) = false := decide_eq_false h1
        clear h1
        go_enter Try.func25, Try.ntmps25
        go_wp2_with fail
        go_ret
        exact ⟨gret_bool HF.out.symm, rfl⟩
    · have h1B : decide (a = 1) = false := decide_eq_false h
      have h1E : (a == 1) = false := by simpa using h
      have HF : Hid (leads s a = (a == s + 1)) := by unfold Hid; rw [leads_other H7.out h, Bool.eq_iff_iff]; simp
      clear h
      go_enter Try.func25, Try.ntmps25
      go_wp2_with fail
      go_ret
      exact ⟨gret_bool HF.out.symm, rfl⟩
set_option maxRecDepth 100000 in
set_option maxHeartbeats 1000000 in
theorem refusal_any (R : Nat → Int) (a who : Int) (w : World) (hwf : WfR R) (h0 : 0 ≤ R 0) (h6 : R 0 ≤ 6) :
    Calls Try.prog 23 #[.agg #[.int .i64 (R 0), .int .i64 (R 1), .int .i64 (R 2), .int .i64 (R 3), .int .i64 (R 4), .int .i64 (R 5), .int .i64 (R 6), .int .i64 (R 7)], .agg #[.int .i64 a, .int .i64 who]] w fun e w' => e = .returned (.int .i64 (refE R a who)) ∧ Below w.heap.size w w' := by
  have HWF := Lib.hid hwf
  have HB0 := Lib.hid (gbelow_box w (.cells #[.int .i64 (R 0), .int .i64 (R 1), .int .i64 (R 2), .int .i64 (R 3), .int .i64 (R 4), .int .i64 (R 5), .int .i64 (R 6), .int .i64 (R 7)] 24))
  have HB := Lib.hid (HB0.out.alloc HB0.out.size (.cells #[.int .i64 a, .int .i64 who] 30))
  clear hwf HB0
  by_cases ha : a < 1
  · have HE := Lib.hid (refE_kind (R := R) (who := who) (.inl ha))
    go_enter Try.func23, Try.ntmps23
    go_wp2_with fail
    go_ret
    exact ⟨gret_int HE.out.symm, HB.out⟩
  · have haB : decide (a < 1) = false := decide_eq_false ha
    by_cases ha7 : 7 < a
    · have HE := Lib.hid (refE_kind (R := R) (who := who) (.inr ha7))
      go_enter Try.func23, Try.ntmps23
      go_wp2_with fail
      go_ret
      exact ⟨gret_int HE.out.symm, HB.out⟩
    · have ha7B : decide (7 < a) = false := decide_eq_false ha7
      have HN : Hid (¬ (a < 1 ∨ 7 < a)) := by unfold Hid; omega
      cases hp : perB who
      · have HE := Lib.hid (refE_range (R := R) HN.out hp)
        go_enter Try.func23, Try.ntmps23
        go_wp2_with (first
          | (go_at_call 20; refine (isPerson_any _ _).mono ?_; rintro e w' ⟨rfl, h'⟩; subst w'; rw [hp])
          | (go_at_call 25; refine (leadsOn_any _ _ _ h0 h6).mono ?_; rintro e w' ⟨rfl, h'⟩; subst w'; rw [hl]))
        go_ret
        exact ⟨gret_int HE.out.symm, HB.out⟩
      · cases hl : leads (R 0) a
        · have HE := Lib.hid (refE_state (R := R) HN.out hp hl)
          go_enter Try.func23, Try.ntmps23
          go_wp2_with (first
            | (go_at_call 20; refine (isPerson_any _ _).mono ?_; rintro e w' ⟨rfl, h'⟩; subst w'; rw [hp])
            | (go_at_call 25; refine (leadsOn_any _ _ _ h0 h6).mono ?_; rintro e w' ⟨rfl, h'⟩; subst w'; rw [hl]))
          go_ret
          exact ⟨gret_int HE.out.symm, HB.out⟩
        · have HW : Hid ((Lit.int .i64 who).wf = true) := by have := perB_iff.1 hp; exact WalkArith.wf_i64 (by omega)
          have HK := Lib.hid (fun w => isBarred_any R a who w HWF.out HW.out)
          cases hb : barB R a who
          · have HE := Lib.hid (refE_ok (R := R) HN.out hp hl hb)
            go_enter Try.func23, Try.ntmps23
            go_wp2_with (first
              | (go_at_call 20; refine (isPerson_any _ _).mono ?_; rintro e w' ⟨rfl, h'⟩; subst w'; rw [hp])
              | (go_at_call 25; refine (leadsOn_any _ _ _ h0 h6).mono ?_; rintro e w' ⟨rfl, h'⟩; subst w'; rw [hl]))
            refine (HK.out _).mono ?_
            rintro e w1 ⟨rfl, hb1⟩
            have HB1 := Lib.hid (HB.out.trans (hb1.mono HB.out.size))
            rw [hb]
            clear hb1
            go_wp2_with fail
            go_ret
            exact ⟨gret_int HE.out.symm, HB1.out⟩
          · have HE := Lib.hid (refE_right (R := R) HN.out hp hl hb)
            go_enter Try.func23, Try.ntmps23
            go_wp2_with (first
              | (go_at_call 20; refine (isPerson_any _ _).mono ?_; rintro e w' ⟨rfl, h'⟩; subst w'; rw [hp])
              | (go_at_call 25; refine (leadsOn_any _ _ _ h0 h6).mono ?_; rintro e w' ⟨rfl, h'⟩; subst w'; rw [hl]))
            refine (HK.out _).mono ?_
            rintro e w1 ⟨rfl, hb1⟩
            have HB1 := Lib.hid (HB.out.trans (hb1.mono HB.out.size))
            rw [hb]
            clear hb1
            go_wp2_with fail
            go_ret
            exact ⟨gret_int HE.out.symm, HB1.out⟩
/-- A run in a box that may be written. -/
def RFull (w : World) (b : Nat) (R : Nat → Int) : Prop := b < w.heap.size ∧ ∀ j, j < 8 → w.cell? ⟨b, j, none⟩ = some (.int .i64 (R j)) ∧ w.frozen? ⟨b, j, none⟩ = false
theorem RFull.made (w : World) (R : Nat → Int) (t : TypeId) : RFull (w.alloc (.cells #[.int .i64 (R 0), .int .i64 (R 1), .int .i64 (R 2), .int .i64 (R 3), .int .i64 (R 4), .int .i64 (R 5), .int .i64 (R 6), .int .i64 (R 7)] t)) w.heap.size R := ⟨by simp, fun _ hj => ⟨gcells8 w R t hj, World.frozen?_alloc_at (w := w) _ _ _ _ rfl⟩⟩
theorem RFull.below {w w' : World} {b : Nat} {R : Nat → Int} (h : RFull w b R) (hb : Below w.heap.size w w') : RFull w' b R := ⟨Nat.lt_of_lt_of_le h.1 hb.size, fun j hj => ⟨(hb.cell (p := ⟨b, j, none⟩) h.1).trans (h.2 j hj).1, (hb.frozen (p := ⟨b, j, none⟩) h.1).trans (h.2 j hj).2⟩⟩
theorem RFull.box {w : World} {b : Nat} {R : Nat → Int} (h : RFull w b R) : RBox w b R := ⟨h.1, fun j hj => (h.2 j hj).1⟩
theorem RFull.free {w : World} {b : Nat} {R : Nat → Int} (h : RFull w b R) : w.frozen? ⟨b, 0, none⟩ = false ∧ w.frozen? ⟨b, 1, none⟩ = false ∧ w.frozen? ⟨b, 2, none⟩ = false ∧ w.frozen? ⟨b, 3, none⟩ = false ∧ w.frozen? ⟨b, 4, none⟩ = false ∧ w.frozen? ⟨b, 5, none⟩ = false ∧ w.frozen? ⟨b, 6, none⟩ = false ∧ w.frozen? ⟨b, 7, none⟩ = false :=
  ⟨(h.2 0 (by omega)).2, (h.2 1 (by omega)).2, (h.2 2 (by omega)).2, (h.2 3 (by omega)).2, (h.2 4 (by omega)).2, (h.2 5 (by omega)).2, (h.2 6 (by omega)).2, (h.2 7 (by omega)).2⟩
/-- The three boxes of a step. -/
def SBx (w : World) (g : Nat) (R : Nat → Int) (a who : Int) : Prop := RFull w g R ∧ (g + 1 < w.heap.size ∧ w.cell? ⟨g + 1, 0, none⟩ = some (.int .i64 a) ∧ w.cell? ⟨g + 1, 1, none⟩ = some (.int .i64 who)) ∧ RFull w (g + 1 + 1) zeroR
theorem SBx.below {w w' : World} {g : Nat} {R : Nat → Int} {a who : Int} (h : SBx w g R a who) (hb : Below w.heap.size w w') : SBx w' g R a who :=
  ⟨h.1.below hb, ⟨Nat.lt_of_lt_of_le h.2.1.1 hb.size, (hb.cell (p := ⟨g + 1, 0, none⟩) h.2.1.1).trans h.2.1.2.1, (hb.cell (p := ⟨g + 1, 1, none⟩) h.2.1.1).trans h.2.1.2.2⟩, h.2.2.below hb⟩
theorem SBx.made (w : World) (R : Nat → Int) (a who : Int) : SBx (((w.alloc (.cells #[.int .i64 (R 0), .int .i64 (R 1), .int .i64 (R 2), .int .i64 (R 3), .int .i64 (R 4), .int .i64 (R 5), .int .i64 (R 6), .int .i64 (R 7)] 24)).alloc (.cells #[.int .i64 a, .int .i64 who] 30)).alloc (.cells #[.int .i64 (zeroR 0), .int .i64 (zeroR 1), .int .i64 (zeroR 2), .int .i64 (zeroR 3), .int .i64 (zeroR 4), .int .i64 (zeroR 5), .int .i64 (zeroR 6), .int .i64 (zeroR 7)] 24)) w.heap.size R a who := by
  have e1 : (w.alloc (.cells #[.int .i64 (R 0), .int .i64 (R 1), .int .i64 (R 2), .int .i64 (R 3), .int .i64 (R 4), .int .i64 (R 5), .int .i64 (R 6), .int .i64 (R 7)] 24)).heap.size = w.heap.size + 1 := by simp
  have hact : ∀ j v, (#[.int .i64 a, .int .i64 who] : Array Value)[j]? = some v → ((w.alloc (.cells #[.int .i64 (R 0), .int .i64 (R 1), .int .i64 (R 2), .int .i64 (R 3), .int .i64 (R 4), .int .i64 (R 5), .int .i64 (R 6), .int .i64 (R 7)] 24)).alloc (.cells #[.int .i64 a, .int .i64 who] 30)).cell? ⟨w.heap.size + 1, j, none⟩ = some v := by
    intro j v h
    rw [← e1, World.cell?_alloc_at (w := w.alloc (.cells #[.int .i64 (R 0), .int .i64 (R 1), .int .i64 (R 2), .int .i64 (R 3), .int .i64 (R 4), .int .i64 (R 5), .int .i64 (R 6), .int .i64 (R 7)] 24)) _ _ _ _ rfl]
    exact h
  have hl : w.heap.size + 1 < ((w.alloc (.cells #[.int .i64 (R 0), .int .i64 (R 1), .int .i64 (R 2), .int .i64 (R 3), .int .i64 (R 4), .int .i64 (R 5), .int .i64 (R 6), .int .i64 (R 7)] 24)).alloc (.cells #[.int .i64 a, .int .i64 who] 30)).heap.size := by simp
  refine ⟨((RFull.made w R _).below (gbelow_box _ _)).below (gbelow_box _ _), ⟨by simp, ?_, ?_⟩, ?_⟩
  · exact ((gbelow_box _ _).cell (p := ⟨w.heap.size + 1, 0, none⟩) hl).trans (hact 0 _ rfl)
  · exact ((gbelow_box _ _).cell (p := ⟨w.heap.size + 1, 1, none⟩) hl).trans (hact 1 _ rfl)
  · have := RFull.made ((w.alloc (.cells #[.int .i64 (R 0), .int .i64 (R 1), .int .i64 (R 2), .int .i64 (R 3), .int .i64 (R 4), .int .i64 (R 5), .int .i64 (R 6), .int .i64 (R 7)] 24)).alloc (.cells #[.int .i64 a, .int .i64 who] 30)) zeroR 24
    simpa using this
theorem RFull.set {w : World} {b : Nat} {R : Nat → Int} (h : RFull w b R) {j : Nat} (hj : j < 8) (v : Int) : RFull (w.setCell ⟨b, j, none⟩ (.int .i64 v)) b (fun i => if i = j then v else R i) := by
  refine ⟨by have := h.1; simpa [World.setCell] using this, fun i hi => ?_⟩
  rw [World.frozen?_setCell]
  refine ⟨?_, (h.2 i hi).2⟩
  show _ = some (Value.int .i64 (if i = j then v else R i))
  by_cases e : i = j
  · subst e; rw [if_pos rfl]; exact World.cell?_setCell_same w _ _ (h.2 i hi).1
  · rw [if_neg e, World.cell?_setCell_other (w := w) (h := fun x => e (congrArg Addr.off x).symm)]; exact (h.2 i hi).1
theorem RFull.other {w : World} {b b' : Nat} {R : Nat → Int} (h : RFull w b R) (hb : b ≠ b') (j : Nat) (v : Value) : RFull (w.setCell ⟨b', j, none⟩ v) b R := by
  refine ⟨by have := h.1; simpa [World.setCell] using this, fun i hi => ?_⟩
  rw [World.frozen?_setCell, World.cell?_setCell_other (w := w) (h := fun x => hb (congrArg Addr.block x).symm)]
  exact h.2 i hi
theorem RFull.congr {w : World} {b : Nat} {R R' : Nat → Int} (h : RFull w b R) (hr : ∀ j, j < 8 → R j = R' j) : RFull w b R' := ⟨h.1, fun j hj => by rw [← hr j hj]; exact h.2 j hj⟩
theorem RFull.set8 {w : World} {b : Nat} {R : Nat → Int} (h : RFull w b R) (R' : Nat → Int) : RFull (((((((((w).setCell ⟨b, 0, none⟩ (.int .i64 (R' 0))).setCell ⟨b, 1, none⟩ (.int .i64 (R' 1))).setCell ⟨b, 2, none⟩ (.int .i64 (R' 2))).setCell ⟨b, 3, none⟩ (.int .i64 (R' 3))).setCell ⟨b, 4, none⟩ (.int .i64 (R' 4))).setCell ⟨b, 5, none⟩ (.int .i64 (R' 5))).setCell ⟨b, 6, none⟩ (.int .i64 (R' 6))).setCell ⟨b, 7, none⟩ (.int .i64 (R' 7))) b R' := by
  have := (((((((h.set (j := 0) (by omega) (R' 0)).set (j := 1) (by omega) (R' 1)).set (j := 2) (by omega) (R' 2)).set (j := 3) (by omega) (R' 3)).set (j := 4) (by omega) (R' 4)).set (j := 5) (by omega) (R' 5)).set (j := 6) (by omega) (R' 6)).set (j := 7) (by omega) (R' 7)
  refine this.congr fun j hj => ?_
  match j, hj with
  | 0, _ => rfl
  | 1, _ => rfl
  | 2, _ => rfl
  | 3, _ => rfl
  | 4, _ => rfl
  | 5, _ => rfl
  | 6, _ => rfl
  | 7, _ => rfl
theorem below_set8 {B : Nat} {v w : World} {b : Nat} (h : Below B v w) (hb : B ≤ b) (R' : Nat → Int) : Below B v (((((((((w).setCell ⟨b, 0, none⟩ (.int .i64 (R' 0))).setCell ⟨b, 1, none⟩ (.int .i64 (R' 1))).setCell ⟨b, 2, none⟩ (.int .i64 (R' 2))).setCell ⟨b, 3, none⟩ (.int .i64 (R' 3))).setCell ⟨b, 4, none⟩ (.int .i64 (R' 4))).setCell ⟨b, 5, none⟩ (.int .i64 (R' 5))).setCell ⟨b, 6, none⟩ (.int .i64 (R' 6))).setCell ⟨b, 7, none⟩ (.int .i64 (R' 7))) :=
  (((((((h.setCell (p := ⟨b, 0, none⟩) hb _).setCell (p := ⟨b, 1, none⟩) hb _).setCell (p := ⟨b, 2, none⟩) hb _).setCell (p := ⟨b, 3, none⟩) hb _).setCell (p := ⟨b, 4, none⟩) hb _).setCell (p := ⟨b, 5, none⟩) hb _).setCell (p := ⟨b, 6, none⟩) hb _).setCell (p := ⟨b, 7, none⟩) hb _
theorem doneR_1 (R : Nat → Int) (who : Int) : doneR R 1 who 0 = 1 ∧ doneR R 1 who 1 = R 1 ∧ doneR R 1 who 2 = who ∧ doneR R 1 who 3 = R 3 ∧ doneR R 1 who 4 = R 4 ∧ doneR R 1 who 5 = R 5 ∧ doneR R 1 who 6 = R 6 ∧ doneR R 1 who 7 = R 7 := ⟨rfl, rfl, rfl, rfl, rfl, rfl, rfl, rfl⟩
theorem doneR_2 (R : Nat → Int) (who : Int) : doneR R 2 who 0 = 2 ∧ doneR R 2 who 1 = R 1 ∧ doneR R 2 who 2 = R 2 ∧ doneR R 2 who 3 = who ∧ doneR R 2 who 4 = R 4 ∧ doneR R 2 who 5 = R 5 ∧ doneR R 2 who 6 = R 6 ∧ doneR R 2 who 7 = R 7 := ⟨rfl, rfl, rfl, rfl, rfl, rfl, rfl, rfl⟩
theorem doneR_3 (R : Nat → Int) (who : Int) : doneR R 3 who 0 = 3 ∧ doneR R 3 who 1 = R 1 ∧ doneR R 3 who 2 = R 2 ∧ doneR R 3 who 3 = R 3 ∧ doneR R 3 who 4 = who ∧ doneR R 3 who 5 = R 5 ∧ doneR R 3 who 6 = R 6 ∧ doneR R 3 who 7 = R 7 := ⟨rfl, rfl, rfl, rfl, rfl, rfl, rfl, rfl⟩
theorem doneR_4 (R : Nat → Int) (who : Int) : doneR R 4 who 0 = 4 ∧ doneR R 4 who 1 = R 1 ∧ doneR R 4 who 2 = R 2 ∧ doneR R 4 who 3 = R 3 ∧ doneR R 4 who 4 = R 4 ∧ doneR R 4 who 5 = who ∧ doneR R 4 who 6 = R 6 ∧ doneR R 4 who 7 = R 7 := ⟨rfl, rfl, rfl, rfl, rfl, rfl, rfl, rfl⟩
theorem doneR_5 (R : Nat → Int) (who : Int) : doneR R 5 who 0 = 5 ∧ doneR R 5 who 1 = R 1 ∧ doneR R 5 who 2 = R 2 ∧ doneR R 5 who 3 = R 3 ∧ doneR R 5 who 4 = R 4 ∧ doneR R 5 who 5 = R 5 ∧ doneR R 5 who 6 = who ∧ doneR R 5 who 7 = R 7 := ⟨rfl, rfl, rfl, rfl, rfl, rfl, rfl, rfl⟩
theorem doneR_6 (R : Nat → Int) (who : Int) : doneR R 6 who 0 = 6 ∧ doneR R 6 who 1 = R 1 ∧ doneR R 6 who 2 = R 2 ∧ doneR R 6 who 3 = R 3 ∧ doneR R 6 who 4 = R 4 ∧ doneR R 6 who 5 = R 5 ∧ doneR R 6 who 6 = R 6 ∧ doneR R 6 who 7 = who := ⟨rfl, rfl, rfl, rfl, rfl, rfl, rfl, rfl⟩
set_option maxRecDepth 100000 in
set_option maxHeartbeats 2000000 in
theorem Step_any (R : Nat → Int) (a who : Int) (w : World) (hwf : WfR R) :
    Calls Try.prog 12 #[.agg #[.int .i64 (R 0), .int .i64 (R 1), .int .i64 (R 2), .int .i64 (R 3), .int .i64 (R 4), .int .i64 (R 5), .int .i64 (R 6), .int .i64 (R 7)], .agg #[.int .i64 a, .int .i64 who]] w fun e w' => e = .returned (.tuple #[.agg #[.int .i64 ((stepR R a who) 0), .int .i64 ((stepR R a who) 1), .int .i64 ((stepR R a who) 2), .int .i64 ((stepR R a who) 3), .int .i64 ((stepR R a who) 4), .int .i64 ((stepR R a who) 5), .int .i64 ((stepR R a who) 6), .int .i64 ((stepR R a who) 7)], .int .i64 (stepE R a who)]) ∧ Below w.heap.size w w' := by
  have HWF := Lib.hid hwf
  have HB0 := Lib.hid (((gbelow_box w (.cells #[.int .i64 (R 0), .int .i64 (R 1), .int .i64 (R 2), .int .i64 (R 3), .int .i64 (R 4), .int .i64 (R 5), .int .i64 (R 6), .int .i64 (R 7)] 24)).alloc (by simp) (.cells #[.int .i64 a, .int .i64 who] 30)).alloc (by simp; omega) (.cells #[.int .i64 (zeroR 0), .int .i64 (zeroR 1), .int .i64 (zeroR 2), .int .i64 (zeroR 3), .int .i64 (zeroR 4), .int .i64 (zeroR 5), .int .i64 (zeroR 6), .int .i64 (zeroR 7)] 24))
  have HX0 := Lib.hid (SBx.made w R a who)
  clear hwf
  by_cases he : runE R = 0
  · obtain ⟨h0, h6⟩ := runE_state he
    have HCK : Hid (∀ w, Calls Try.prog 10 #[.agg #[.int .i64 (R 0), .int .i64 (R 1), .int .i64 (R 2), .int .i64 (R 3), .int .i64 (R 4), .int .i64 (R 5), .int .i64 (R 6), .int .i64 (R 7)]] w fun e w' => e = .returned (.int .i64 0) ∧ Below w.heap.size w w') := by
      intro w
      have := Check_any R w HWF.out
      rw [he] at this
      exact this
    have HRF := Lib.hid (fun w => refusal_any R a who w HWF.out h0 h6)
    by_cases hr : refE R a who = 0
    · obtain ⟨s1, s2⟩ := stepE_do he hr
      rw [s1, s2]
      rw [hr] at HRF
      have hz := refE_zero hr
      clear s1 s2 he hr
      by_cases h7 : a = 7
      · subst h7
        go_enter Try.func12, Try.ntmps12
        go_wp2_with fail
        refine (HCK.out _).mono ?_
        rintro e w1 ⟨rfl, hb1⟩
        have HX1 := Lib.hid (HX0.out.below hb1)
        have HB1 := Lib.hid (HB0.out.trans (hb1.mono HB0.out.size))
        clear hb1 HX0 HB0
        obtain ⟨hr, ⟨_, a0, a1⟩, hz⟩ := HX1.out
        have HZ := Lib.hid hz
        have HR := Lib.hid hr
        obtain ⟨c0, c1, c2, c3, c4, c5, c6, c7⟩ := hr.box.cells
        obtain ⟨g0, g1, g2, g3, g4, g5, g6, g7⟩ := hr.free
        obtain ⟨z0, z1, z2, z3, z4, z5, z6, z7⟩ := hz.box.cells
        obtain ⟨f0, f1, f2, f3, f4, f5, f6, f7⟩ := hz.free
        clear hz hr
        go_wp2_with fail
        clear a0 a1 c0 c1 c2 c3 c4 c5 c6 c7 g0 g1 g2 g3 g4 g5 g6 g7 z0 z1 z2 z3 z4 z5 z6 z7 f0 f1 f2 f3 f4 f5 f6 f7 HZ HR
        refine (HRF.out _).mono ?_
        rintro e w2 ⟨rfl, hb2⟩
        have HX2 := Lib.hid (HX1.out.below hb2)
        have HB2 := Lib.hid (HB1.out.trans (hb2.mono HB1.out.size))
        clear hb2 HX1 HB1
        obtain ⟨hr, ⟨_, a0, a1⟩, hz⟩ := HX2.out
        have HZ := Lib.hid hz
        have HR := Lib.hid hr
        obtain ⟨c0, c1, c2, c3, c4, c5, c6, c7⟩ := hr.box.cells
        obtain ⟨g0, g1, g2, g3, g4, g5, g6, g7⟩ := hr.free
        obtain ⟨z0, z1, z2, z3, z4, z5, z6, z7⟩ := hz.box.cells
        obtain ⟨f0, f1, f2, f3, f4, f5, f6, f7⟩ := hz.free
        clear hz hr
        go_wp2_with fail
        obtain ⟨q0, q1, q2, q3, q4, q5, q6, q7⟩ := (HZ.out.set8 zeroR).box.cells
        simp only [zeroR] at q0 q1 q2 q3 q4 q5 q6 q7
        refine bodyPost_ret (v := .tuple #[.agg #[.int .i64 (zeroR 0), .int .i64 (zeroR 1), .int .i64 (zeroR 2), .int .i64 (zeroR 3), .int .i64 (zeroR 4), .int .i64 (zeroR 5), .int .i64 (zeroR 6), .int .i64 (zeroR 7)], .int .i64 (0)]) (by simp [results, Try.results12, go_sem,zeroR, q0, q1, q2, q3, q4, q5, q6, q7]) rfl ⟨rfl, below_set8 HB2.out (by omega) zeroR⟩
      · have h7B : (a == 7) = false := by simpa using h7
        have h7D : decide (a = 7) = false := decide_eq_false h7
        go_enter Try.func12, Try.ntmps12
        go_wp2_with fail
        refine (HCK.out _).mono ?_
        rintro e w1 ⟨rfl, hb1⟩
        have HX1 := Lib.hid (HX0.out.below hb1)
        have HB1 := Lib.hid (HB0.out.trans (hb1.mono HB0.out.size))
        clear hb1 HX0 HB0
        obtain ⟨hr, ⟨_, a0, a1⟩, hz⟩ := HX1.out
        have HZ := Lib.hid hz
        have HR := Lib.hid hr
        obtain ⟨c0, c1, c2, c3, c4, c5, c6, c7⟩ := hr.box.cells
        obtain ⟨g0, g1, g2, g3, g4, g5, g6, g7⟩ := hr.free
        obtain ⟨z0, z1, z2, z3, z4, z5, z6, z7⟩ := hz.box.cells
        obtain ⟨f0, f1, f2, f3, f4, f5, f6, f7⟩ := hz.free
        clear hz hr
        go_wp2_with fail
        clear a0 a1 c0 c1 c2 c3 c4 c5 c6 c7 g0 g1 g2 g3 g4 g5 g6 g7 z0 z1 z2 z3 z4 z5 z6 z7 f0 f1 f2 f3 f4 f5 f6 f7 HZ HR
        refine (HRF.out _).mono ?_
        rintro e w2 ⟨rfl, hb2⟩
        have HX2 := Lib.hid (HX1.out.below hb2)
        have HB2 := Lib.hid (HB1.out.trans (hb2.mono HB1.out.size))
        clear hb2 HX1 HB1 HRF HCK
        have hA : a = 1 ∨ a = 2 ∨ a = 3 ∨ a = 4 ∨ a = 5 ∨ a = 6 := by omega
        clear h7B h7D h7
        rcases hA with rfl | rfl | rfl | rfl | rfl | rfl
        · obtain ⟨hr, ⟨_, a0, a1⟩, hz⟩ := HX2.out
          have HZ := Lib.hid hz
          have HR := Lib.hid hr
          obtain ⟨c0, c1, c2, c3, c4, c5, c6, c7⟩ := hr.box.cells
          obtain ⟨g0, g1, g2, g3, g4, g5, g6, g7⟩ := hr.free
          obtain ⟨z0, z1, z2, z3, z4, z5, z6, z7⟩ := hz.box.cells
          obtain ⟨f0, f1, f2, f3, f4, f5, f6, f7⟩ := hz.free
          clear hz hr
          go_wp2_with fail
          have HZ2 := Lib.hid ((HZ.out.other (b' := w.heap.size) (by omega) 0 (.int .i64 1)).other (b' := w.heap.size) (by omega) 2 (.int .i64 who))
          obtain ⟨q0, q1, q2, q3, q4, q5, q6, q7⟩ := (HZ2.out.set8 (doneR R 1 who)).box.cells
          have HBF := Lib.hid (below_set8 ((HB2.out.setCell (p := ⟨w.heap.size, 0, none⟩) (Nat.le_refl _) (.int .i64 1)).setCell (p := ⟨w.heap.size, 2, none⟩) (Nat.le_refl _) (.int .i64 who)) (b := w.heap.size + 1 + 1) (by omega) (doneR R 1 who))
          obtain ⟨d0, d1, d2, d3, d4, d5, d6, d7⟩ := doneR_1 R who
          simp only [d0, d1, d2, d3, d4, d5, d6, d7] at q0 q1 q2 q3 q4 q5 q6 q7
          rw [d0, d1, d2, d3, d4, d5, d6, d7] at HBF
          refine bodyPost_ret (v := .tuple #[.agg #[.int .i64 ((doneR R 1 who) 0), .int .i64 ((doneR R 1 who) 1), .int .i64 ((doneR R 1 who) 2), .int .i64 ((doneR R 1 who) 3), .int .i64 ((doneR R 1 who) 4), .int .i64 ((doneR R 1 who) 5), .int .i64 ((doneR R 1 who) 6), .int .i64 ((doneR R 1 who) 7)], .int .i64 0]) (by rw [d0, d1, d2, d3, d4, d5, d6, d7]; simp [results, Try.results12, go_sem, q0, q1, q2, q3, q4, q5, q6, q7]) rfl ⟨rfl, HBF.out⟩
        · obtain ⟨hr, ⟨_, a0, a1⟩, hz⟩ := HX2.out
          have HZ := Lib.hid hz
          have HR := Lib.hid hr
          obtain ⟨c0, c1, c2, c3, c4, c5, c6, c7⟩ := hr.box.cells
          obtain ⟨g0, g1, g2, g3, g4, g5, g6, g7⟩ := hr.free
          obtain ⟨z0, z1, z2, z3, z4, z5, z6, z7⟩ := hz.box.cells
          obtain ⟨f0, f1, f2, f3, f4, f5, f6, f7⟩ := hz.free
          clear hz hr
          go_wp2_with fail
          have HZ2 := Lib.hid ((HZ.out.other (b' := w.heap.size) (by omega) 0 (.int .i64 2)).other (b' := w.heap.size) (by omega) 3 (.int .i64 who))
          obtain ⟨q0, q1, q2, q3, q4, q5, q6, q7⟩ := (HZ2.out.set8 (doneR R 2 who)).box.cells
          have HBF := Lib.hid (below_set8 ((HB2.out.setCell (p := ⟨w.heap.size, 0, none⟩) (Nat.le_refl _) (.int .i64 2)).setCell (p := ⟨w.heap.size, 3, none⟩) (Nat.le_refl _) (.int .i64 who)) (b := w.heap.size + 1 + 1) (by omega) (doneR R 2 who))
          obtain ⟨d0, d1, d2, d3, d4, d5, d6, d7⟩ := doneR_2 R who
          simp only [d0, d1, d2, d3, d4, d5, d6, d7] at q0 q1 q2 q3 q4 q5 q6 q7
          rw [d0, d1, d2, d3, d4, d5, d6, d7] at HBF
          refine bodyPost_ret (v := .tuple #[.agg #[.int .i64 ((doneR R 2 who) 0), .int .i64 ((doneR R 2 who) 1), .int .i64 ((doneR R 2 who) 2), .int .i64 ((doneR R 2 who) 3), .int .i64 ((doneR R 2 who) 4), .int .i64 ((doneR R 2 who) 5), .int .i64 ((doneR R 2 who) 6), .int .i64 ((doneR R 2 who) 7)], .int .i64 0]) (by rw [d0, d1, d2, d3, d4, d5, d6, d7]; simp [results, Try.results12, go_sem, q0, q1, q2, q3, q4, q5, q6, q7]) rfl ⟨rfl, HBF.out⟩
        · obtain ⟨hr, ⟨_, a0, a1⟩, hz⟩ := HX2.out
          have HZ := Lib.hid hz
          have HR := Lib.hid hr
          obtain ⟨c0, c1, c2, c3, c4, c5, c6, c7⟩ := hr.box.cells
          obtain ⟨g0, g1, g2, g3, g4, g5, g6, g7⟩ := hr.free
          obtain ⟨z0, z1, z2, z3, z4, z5, z6, z7⟩ := hz.box.cells
          obtain ⟨f0, f1, f2, f3, f4, f5, f6, f7⟩ := hz.free
          clear hz hr
          go_wp2_with fail
          have HZ2 := Lib.hid ((HZ.out.other (b' := w.heap.size) (by omega) 0 (.int .i64 3)).other (b' := w.heap.size) (by omega) 4 (.int .i64 who))
          obtain ⟨q0, q1, q2, q3, q4, q5, q6, q7⟩ := (HZ2.out.set8 (doneR R 3 who)).box.cells
          have HBF := Lib.hid (below_set8 ((HB2.out.setCell (p := ⟨w.heap.size, 0, none⟩) (Nat.le_refl _) (.int .i64 3)).setCell (p := ⟨w.heap.size, 4, none⟩) (Nat.le_refl _) (.int .i64 who)) (b := w.heap.size + 1 + 1) (by omega) (doneR R 3 who))
          obtain ⟨d0, d1, d2, d3, d4, d5, d6, d7⟩ := doneR_3 R who
          simp only [d0, d1, d2, d3, d4, d5, d6, d7] at q0 q1 q2 q3 q4 q5 q6 q7
          rw [d0, d1, d2, d3, d4, d5, d6, d7] at HBF
          refine bodyPost_ret (v := .tuple #[.agg #[.int .i64 ((doneR R 3 who) 0), .int .i64 ((doneR R 3 who) 1), .int .i64 ((doneR R 3 who) 2), .int .i64 ((doneR R 3 who) 3), .int .i64 ((doneR R 3 who) 4), .int .i64 ((doneR R 3 who) 5), .int .i64 ((doneR R 3 who) 6), .int .i64 ((doneR R 3 who) 7)], .int .i64 0]) (by rw [d0, d1, d2, d3, d4, d5, d6, d7]; simp [results, Try.results12, go_sem, q0, q1, q2, q3, q4, q5, q6, q7]) rfl ⟨rfl, HBF.out⟩
        · obtain ⟨hr, ⟨_, a0, a1⟩, hz⟩ := HX2.out
          have HZ := Lib.hid hz
          have HR := Lib.hid hr
          obtain ⟨c0, c1, c2, c3, c4, c5, c6, c7⟩ := hr.box.cells
          obtain ⟨g0, g1, g2, g3, g4, g5, g6, g7⟩ := hr.free
          obtain ⟨z0, z1, z2, z3, z4, z5, z6, z7⟩ := hz.box.cells
          obtain ⟨f0, f1, f2, f3, f4, f5, f6, f7⟩ := hz.free
          clear hz hr
          go_wp2_with fail
          have HZ2 := Lib.hid ((HZ.out.other (b' := w.heap.size) (by omega) 0 (.int .i64 4)).other (b' := w.heap.size) (by omega) 5 (.int .i64 who))
          obtain ⟨q0, q1, q2, q3, q4, q5, q6, q7⟩ := (HZ2.out.set8 (doneR R 4 who)).box.cells
          have HBF := Lib.hid (below_set8 ((HB2.out.setCell (p := ⟨w.heap.size, 0, none⟩) (Nat.le_refl _) (.int .i64 4)).setCell (p := ⟨w.heap.size, 5, none⟩) (Nat.le_refl _) (.int .i64 who)) (b := w.heap.size + 1 + 1) (by omega) (doneR R 4 who))
          obtain ⟨d0, d1, d2, d3, d4, d5, d6, d7⟩ := doneR_4 R who
          simp only [d0, d1, d2, d3, d4, d5, d6, d7] at q0 q1 q2 q3 q4 q5 q6 q7
          rw [d0, d1, d2, d3, d4, d5, d6, d7] at HBF
          refine bodyPost_ret (v := .tuple #[.agg #[.int .i64 ((doneR R 4 who) 0), .int .i64 ((doneR R 4 who) 1), .int .i64 ((doneR R 4 who) 2), .int .i64 ((doneR R 4 who) 3), .int .i64 ((doneR R 4 who) 4), .int .i64 ((doneR R 4 who) 5), .int .i64 ((doneR R 4 who) 6), .int .i64 ((doneR R 4 who) 7)], .int .i64 0]) (by rw [d0, d1, d2, d3, d4, d5, d6, d7]; simp [results, Try.results12, go_sem, q0, q1, q2, q3, q4, q5, q6, q7]) rfl ⟨rfl, HBF.out⟩
        · obtain ⟨hr, ⟨_, a0, a1⟩, hz⟩ := HX2.out
          have HZ := Lib.hid hz
          have HR := Lib.hid hr
          obtain ⟨c0, c1, c2, c3, c4, c5, c6, c7⟩ := hr.box.cells
          obtain ⟨g0, g1, g2, g3, g4, g5, g6, g7⟩ := hr.free
          obtain ⟨z0, z1, z2, z3, z4, z5, z6, z7⟩ := hz.box.cells
          obtain ⟨f0, f1, f2, f3, f4, f5, f6, f7⟩ := hz.free
          clear hz hr
          go_wp2_with fail
          have HZ2 := Lib.hid ((HZ.out.other (b' := w.heap.size) (by omega) 0 (.int .i64 5)).other (b' := w.heap.size) (by omega) 6 (.int .i64 who))
          obtain ⟨q0, q1, q2, q3, q4, q5, q6, q7⟩ := (HZ2.out.set8 (doneR R 5 who)).box.cells
          have HBF := Lib.hid (below_set8 ((HB2.out.setCell (p := ⟨w.heap.size, 0, none⟩) (Nat.le_refl _) (.int .i64 5)).setCell (p := ⟨w.heap.size, 6, none⟩) (Nat.le_refl _) (.int .i64 who)) (b := w.heap.size + 1 + 1) (by omega) (doneR R 5 who))
          obtain ⟨d0, d1, d2, d3, d4, d5, d6, d7⟩ := doneR_5 R who
          simp only [d0, d1, d2, d3, d4, d5, d6, d7] at q0 q1 q2 q3 q4 q5 q6 q7
          rw [d0, d1, d2, d3, d4, d5, d6, d7] at HBF
          refine bodyPost_ret (v := .tuple #[.agg #[.int .i64 ((doneR R 5 who) 0), .int .i64 ((doneR R 5 who) 1), .int .i64 ((doneR R 5 who) 2), .int .i64 ((doneR R 5 who) 3), .int .i64 ((doneR R 5 who) 4), .int .i64 ((doneR R 5 who) 5), .int .i64 ((doneR R 5 who) 6), .int .i64 ((doneR R 5 who) 7)], .int .i64 0]) (by rw [d0, d1, d2, d3, d4, d5, d6, d7]; simp [results, Try.results12, go_sem, q0, q1, q2, q3, q4, q5, q6, q7]) rfl ⟨rfl, HBF.out⟩
        · obtain ⟨hr, ⟨_, a0, a1⟩, hz⟩ := HX2.out
          have HZ := Lib.hid hz
          have HR := Lib.hid hr
          obtain ⟨c0, c1, c2, c3, c4, c5, c6, c7⟩ := hr.box.cells
          obtain ⟨g0, g1, g2, g3, g4, g5, g6, g7⟩ := hr.free
          obtain ⟨z0, z1, z2, z3, z4, z5, z6, z7⟩ := hz.box.cells
          obtain ⟨f0, f1, f2, f3, f4, f5, f6, f7⟩ := hz.free
          clear hz hr
          go_wp2_with fail
          have HZ2 := Lib.hid ((HZ.out.other (b' := w.heap.size) (by omega) 0 (.int .i64 6)).other (b' := w.heap.size) (by omega) 7 (.int .i64 who))
          obtain ⟨q0, q1, q2, q3, q4, q5, q6, q7⟩ := (HZ2.out.set8 (doneR R 6 who)).box.cells
          have HBF := Lib.hid (below_set8 ((HB2.out.setCell (p := ⟨w.heap.size, 0, none⟩) (Nat.le_refl _) (.int .i64 6)).setCell (p := ⟨w.heap.size, 7, none⟩) (Nat.le_refl _) (.int .i64 who)) (b := w.heap.size + 1 + 1) (by omega) (doneR R 6 who))
          obtain ⟨d0, d1, d2, d3, d4, d5, d6, d7⟩ := doneR_6 R who
          simp only [d0, d1, d2, d3, d4, d5, d6, d7] at q0 q1 q2 q3 q4 q5 q6 q7
          rw [d0, d1, d2, d3, d4, d5, d6, d7] at HBF
          refine bodyPost_ret (v := .tuple #[.agg #[.int .i64 ((doneR R 6 who) 0), .int .i64 ((doneR R 6 who) 1), .int .i64 ((doneR R 6 who) 2), .int .i64 ((doneR R 6 who) 3), .int .i64 ((doneR R 6 who) 4), .int .i64 ((doneR R 6 who) 5), .int .i64 ((doneR R 6 who) 6), .int .i64 ((doneR R 6 who) 7)], .int .i64 0]) (by rw [d0, d1, d2, d3, d4, d5, d6, d7]; simp [results, Try.results12, go_sem, q0, q1, q2, q3, q4, q5, q6, q7]) rfl ⟨rfl, HBF.out⟩
    · obtain ⟨s1, s2⟩ := stepE_no he hr
      rw [s1, s2]
      clear s1 s2 he
      have heB : (refE R a who != 0) = true := by simpa using hr
      have heD : decide (refE R a who = 0) = false := decide_eq_false hr
      go_enter Try.func12, Try.ntmps12
      go_wp2_with fail
      refine (HCK.out _).mono ?_
      rintro e w1 ⟨rfl, hb1⟩
      have HX1 := Lib.hid (HX0.out.below hb1)
      have HB1 := Lib.hid (HB0.out.trans (hb1.mono HB0.out.size))
      clear hb1 HX0 HB0
      obtain ⟨hr, ⟨_, a0, a1⟩, hz⟩ := HX1.out
      have HZ := Lib.hid hz
      have HR := Lib.hid hr
      obtain ⟨c0, c1, c2, c3, c4, c5, c6, c7⟩ := hr.box.cells
      obtain ⟨g0, g1, g2, g3, g4, g5, g6, g7⟩ := hr.free
      obtain ⟨z0, z1, z2, z3, z4, z5, z6, z7⟩ := hz.box.cells
      obtain ⟨f0, f1, f2, f3, f4, f5, f6, f7⟩ := hz.free
      clear hz hr
      go_wp2_with fail
      clear a0 a1 c0 c1 c2 c3 c4 c5 c6 c7 g0 g1 g2 g3 g4 g5 g6 g7 z0 z1 z2 z3 z4 z5 z6 z7 f0 f1 f2 f3 f4 f5 f6 f7 HZ HR
      refine (HRF.out _).mono ?_
      rintro e w2 ⟨rfl, hb2⟩
      have HX2 := Lib.hid (HX1.out.below hb2)
      have HB2 := Lib.hid (HB1.out.trans (hb2.mono HB1.out.size))
      clear hb2 HX1 HB1
      obtain ⟨hr, ⟨_, a0, a1⟩, hz⟩ := HX2.out
      have HZ := Lib.hid hz
      have HR := Lib.hid hr
      obtain ⟨c0, c1, c2, c3, c4, c5, c6, c7⟩ := hr.box.cells
      obtain ⟨g0, g1, g2, g3, g4, g5, g6, g7⟩ := hr.free
      obtain ⟨z0, z1, z2, z3, z4, z5, z6, z7⟩ := hz.box.cells
      obtain ⟨f0, f1, f2, f3, f4, f5, f6, f7⟩ := hz.free
      clear hz hr
      go_wp2_with fail
      obtain ⟨q0, q1, q2, q3, q4, q5, q6, q7⟩ := (HZ.out.set8 R).box.cells
      skip
      refine bodyPost_ret (v := .tuple #[.agg #[.int .i64 (R 0), .int .i64 (R 1), .int .i64 (R 2), .int .i64 (R 3), .int .i64 (R 4), .int .i64 (R 5), .int .i64 (R 6), .int .i64 (R 7)], .int .i64 (refE R a who)]) (by simp [results, Try.results12, go_sem, q0, q1, q2, q3, q4, q5, q6, q7]) rfl ⟨rfl, below_set8 HB2.out (by omega) R⟩
  · obtain ⟨s1, s2⟩ := stepE_bad (a := a) (who := who) he
    rw [s1, s2]
    clear s1 s2
    have heB : (runE R != 0) = true := by simpa using he
    have heD : decide (runE R = 0) = false := decide_eq_false he
    go_enter Try.func12, Try.ntmps12
    go_wp2_with fail
    refine (Check_any R _ HWF.out).mono ?_
    rintro e w1 ⟨rfl, hb1⟩
    have HX1 := Lib.hid (HX0.out.below hb1)
    have HB1 := Lib.hid (HB0.out.trans (hb1.mono HB0.out.size))
    clear hb1 HX0 HB0
    obtain ⟨hr, ⟨_, a0, a1⟩, hz⟩ := HX1.out
    have HZ := Lib.hid hz
    have HR := Lib.hid hr
    obtain ⟨c0, c1, c2, c3, c4, c5, c6, c7⟩ := hr.box.cells
    obtain ⟨g0, g1, g2, g3, g4, g5, g6, g7⟩ := hr.free
    obtain ⟨z0, z1, z2, z3, z4, z5, z6, z7⟩ := hz.box.cells
    obtain ⟨f0, f1, f2, f3, f4, f5, f6, f7⟩ := hz.free
    clear hz hr
    go_wp2_with fail
    obtain ⟨q0, q1, q2, q3, q4, q5, q6, q7⟩ := (HZ.out.set8 zeroR).box.cells
    simp only [zeroR] at q0 q1 q2 q3 q4 q5 q6 q7
    refine bodyPost_ret (v := .tuple #[.agg #[.int .i64 (zeroR 0), .int .i64 (zeroR 1), .int .i64 (zeroR 2), .int .i64 (zeroR 3), .int .i64 (zeroR 4), .int .i64 (zeroR 5), .int .i64 (zeroR 6), .int .i64 (zeroR 7)], .int .i64 (runE R)]) (by simp [results, Try.results12, go_sem,zeroR, q0, q1, q2, q3, q4, q5, q6, q7]) rfl ⟨rfl, below_set8 HB1.out (by omega) zeroR⟩
end Go.Proofs.Ytfdhjdbefikjmaa
