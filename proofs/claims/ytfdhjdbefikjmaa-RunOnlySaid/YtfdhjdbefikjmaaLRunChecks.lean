/-
  The walks of the laws RunChecks and RunSteps: each answers true at every input.
-/
import Derived.Test.YtfdhjdbefikjmaaGEq
namespace Go.Proofs.Ytfdhjdbefikjmaa
open Go.RowKit

set_option maxRecDepth 100000 in
set_option maxHeartbeats 1000000 in
theorem walk_runChecks (R : Nat → Int) (hwf : WfR R) {w : World} :
    Calls Try.prog 3 #[.agg #[.int .i64 (R 0), .int .i64 (R 1), .int .i64 (R 2), .int .i64 (R 3), .int .i64 (R 4), .int .i64 (R 5), .int .i64 (R 6), .int .i64 (R 7)]] w fun e w' => e = .returned (.bool true) ∧ Below w.heap.size w w' := by
  have HB0 := Lib.hid (gbelow_box w (.cells #[.int .i64 (R 0), .int .i64 (R 1), .int .i64 (R 2), .int .i64 (R 3), .int .i64 (R 4), .int .i64 (R 5), .int .i64 (R 6), .int .i64 (R 7)] 24))
  have HX0 := Lib.hid (RBox.made w R 24)
  have HK1 := Lib.hid (fun w => Check_any R w hwf)
  have HK2 := Lib.hid (fun w => checkRun_ref R w)
  have HK0 := Lib.hid (fun w => begun_any w)
  clear hwf
  generalize runE R = er at *
  go_enter Try.func3, Try.ntmps3
  go_wp2_with fail
  obtain ⟨c0, c1, c2, c3, c4, c5, c6, c7⟩ := HX0.out.cells
  generalize (w.alloc (.cells #[.int .i64 (R 0), .int .i64 (R 1), .int .i64 (R 2), .int .i64 (R 3), .int .i64 (R 4), .int .i64 (R 5), .int .i64 (R 6), .int .i64 (R 7)] 24)) = w1 at *
  have k0 := cell_regrown c0
  have k1 := cell_regrown c1
  have k2 := cell_regrown c2
  have k3 := cell_regrown c3
  have k4 := cell_regrown c4
  have k5 := cell_regrown c5
  have k6 := cell_regrown c6
  have k7 := cell_regrown c7
  refine wp_region_quiet_below (by kernel_rfl) (by kernel_rfl) ?_
  repeat (go_big_quiet_step (first | exact Calls.regrown_of (HK0.out _) | exact Calls.regrown_of (HK1.out _) | exact Calls.regrown_of (HK2.out _)))
  refine wpQuiet_nil ?_
  intro _ hw'
  obtain ⟨⟨dq, osq⟩, hw''⟩ := hw'
  subst hw''
  go_wp2_with fail
  go_ret
  exact ⟨gret_bool (by simp), HB0.out.trans ((below_regrown w1 dq osq).mono HB0.out.size)⟩
/-- The two boxes of a law's arguments. -/
def ABx (w : World) (g : Nat) (R : Nat → Int) (a who : Int) : Prop := RBox w g R ∧ g + 1 < w.heap.size ∧ w.cell? ⟨g + 1, 0, none⟩ = some (.int .i64 a) ∧ w.cell? ⟨g + 1, 1, none⟩ = some (.int .i64 who)
theorem ABx.below {w w' : World} {g : Nat} {R : Nat → Int} {a who : Int} (h : ABx w g R a who) (hb : Below w.heap.size w w') : ABx w' g R a who :=
  ⟨h.1.below hb, Nat.lt_of_lt_of_le h.2.1 hb.size, (hb.cell (p := ⟨g + 1, 0, none⟩) h.2.1).trans h.2.2.1, (hb.cell (p := ⟨g + 1, 1, none⟩) h.2.1).trans h.2.2.2⟩
theorem ABx.made (w : World) (R : Nat → Int) (a who : Int) : ABx ((w.alloc (.cells #[.int .i64 (R 0), .int .i64 (R 1), .int .i64 (R 2), .int .i64 (R 3), .int .i64 (R 4), .int .i64 (R 5), .int .i64 (R 6), .int .i64 (R 7)] 24)).alloc (.cells #[.int .i64 a, .int .i64 who] 30)) w.heap.size R a who := by
  have e1 : (w.alloc (.cells #[.int .i64 (R 0), .int .i64 (R 1), .int .i64 (R 2), .int .i64 (R 3), .int .i64 (R 4), .int .i64 (R 5), .int .i64 (R 6), .int .i64 (R 7)] 24)).heap.size = w.heap.size + 1 := by simp
  have hact : ∀ j v, (#[.int .i64 a, .int .i64 who] : Array Value)[j]? = some v → ((w.alloc (.cells #[.int .i64 (R 0), .int .i64 (R 1), .int .i64 (R 2), .int .i64 (R 3), .int .i64 (R 4), .int .i64 (R 5), .int .i64 (R 6), .int .i64 (R 7)] 24)).alloc (.cells #[.int .i64 a, .int .i64 who] 30)).cell? ⟨w.heap.size + 1, j, none⟩ = some v := by
    intro j v h
    rw [← e1, World.cell?_alloc_at (w := w.alloc (.cells #[.int .i64 (R 0), .int .i64 (R 1), .int .i64 (R 2), .int .i64 (R 3), .int .i64 (R 4), .int .i64 (R 5), .int .i64 (R 6), .int .i64 (R 7)] 24)) _ _ _ _ rfl]
    exact h
  exact ⟨(RBox.made w R _).below (gbelow_box _ _), by simp, hact 0 _ rfl, hact 1 _ rfl⟩
set_option maxRecDepth 100000 in
set_option maxHeartbeats 1000000 in
theorem walk_runSteps (R : Nat → Int) (hwf : WfR R) (a who : Int) (_ : (Lit.int .i64 a).wf = true) (_ : (Lit.int .i64 who).wf = true) {w : World} :
    Calls Try.prog 4 #[.agg #[.int .i64 (R 0), .int .i64 (R 1), .int .i64 (R 2), .int .i64 (R 3), .int .i64 (R 4), .int .i64 (R 5), .int .i64 (R 6), .int .i64 (R 7)], .agg #[.int .i64 a, .int .i64 who]] w fun e w' => e = .returned (.bool true) ∧ Below w.heap.size w w' := by
  have HB0 := Lib.hid ((gbelow_box w (.cells #[.int .i64 (R 0), .int .i64 (R 1), .int .i64 (R 2), .int .i64 (R 3), .int .i64 (R 4), .int .i64 (R 5), .int .i64 (R 6), .int .i64 (R 7)] 24)).alloc (by simp) (.cells #[.int .i64 a, .int .i64 who] 30))
  have HX0 := Lib.hid (ABx.made w R a who)
  have HK1 := Lib.hid (fun w => Step_any R a who w hwf)
  have HK2 := Lib.hid (fun w => stepRun_ref R a who w)
  clear hwf
  generalize stepE R a who = er at *
  generalize stepR R a who = S at *
  go_enter Try.func4, Try.ntmps4
  go_wp2_with fail
  refine (HK1.out _).mono ?_
  rintro e w1 ⟨rfl, hb1⟩
  have HB1 := Lib.hid (HB0.out.trans (hb1.mono HB0.out.size))
  have HB2 := Lib.hid (HB1.out.alloc HB1.out.size (.cells #[.int .i64 (S 0), .int .i64 (S 1), .int .i64 (S 2), .int .i64 (S 3), .int .i64 (S 4), .int .i64 (S 5), .int .i64 (S 6), .int .i64 (S 7)] 24))
  have HX1 := Lib.hid ((HX0.out.below hb1).below (gbelow_box w1 (.cells #[.int .i64 (S 0), .int .i64 (S 1), .int .i64 (S 2), .int .i64 (S 3), .int .i64 (S 4), .int .i64 (S 5), .int .i64 (S 6), .int .i64 (S 7)] 24)))
  have HS1 := Lib.hid (RBox.made w1 S 24)
  obtain ⟨hr, _, a0, a1⟩ := HX1.out
  obtain ⟨c0, c1, c2, c3, c4, c5, c6, c7⟩ := hr.cells
  clear hb1 hr HX0 HB0
  go_wp2_with fail
  clear c0 c1 c2 c3 c4 c5 c6 c7 a0 a1
  refine (HK2.out _).mono ?_
  rintro e w2 ⟨rfl, hb2⟩
  have HB3 := Lib.hid (HB2.out.trans (hb2.mono HB2.out.size))
  have HB4 := Lib.hid (HB3.out.alloc HB3.out.size (.cells #[.int .i64 (S 0), .int .i64 (S 1), .int .i64 (S 2), .int .i64 (S 3), .int .i64 (S 4), .int .i64 (S 5), .int .i64 (S 6), .int .i64 (S 7)] 24))
  have HS2 := Lib.hid ((HS1.out.below hb2).below (gbelow_box w2 (.cells #[.int .i64 (S 0), .int .i64 (S 1), .int .i64 (S 2), .int .i64 (S 3), .int .i64 (S 4), .int .i64 (S 5), .int .i64 (S 6), .int .i64 (S 7)] 24)))
  have HT2 := Lib.hid (RBox.made w2 S 24)
  clear hb2 HX1 HS1
  go_wp2_with fail
  refine (begun_any _).mono ?_
  rintro e w3 ⟨rfl, hb3⟩
  have HB5 := Lib.hid (HB4.out.trans (hb3.mono HB4.out.size))
  obtain ⟨c0, c1, c2, c3, c4, c5, c6, c7⟩ := (HS2.out.below hb3).cells
  obtain ⟨d0, d1, d2, d3, d4, d5, d6, d7⟩ := (HT2.out.below hb3).cells
  have heq := eq_who w3 S
  clear hb3
  go_wp2_with fail
  go_ret
  exact ⟨gret_bool (by simp), HB5.out⟩
end Go.Proofs.Ytfdhjdbefikjmaa
