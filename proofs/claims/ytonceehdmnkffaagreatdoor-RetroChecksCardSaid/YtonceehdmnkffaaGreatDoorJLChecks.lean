/-
  The walk of the law RetroChecks: it answers true at every plan.
-/
import Derived.Test.YtonceehdmnkffaaGreatDoorJO
import Derived.Lib.QuietBelow
set_option linter.unusedSimpArgs false
namespace Go.Proofs.YtonceehdmnkffaaGreatDoor
open Go.RowKit Go.Sort Go.Lib

theorem first_or (f : Nat → Int) : ∀ n, (∀ j, j < n → f j = 0) ∨ ∃ j, j < n ∧ f j ≠ 0 ∧ ∀ q, q < j → f q = 0
  | 0 => .inl fun j hj => by omega
  | n + 1 => by
    rcases first_or f n with h | ⟨j, h1, h2, h3⟩
    · by_cases e : f n = 0
      · refine .inl fun j hj => ?_
        by_cases q : j = n
        · subst q; exact e
        · exact h j (by omega)
      · exact .inr ⟨n, by omega, e, h⟩
    · exact .inr ⟨j, by omega, h2, h3⟩
theorem BindIs.total (l : List Ln) (k : Kn) : ∃ i e, BindIs l k i e := by
  by_cases h1 : linesE l = 0
  · by_cases h2 : knE k = 0
    · rcases first_or (lineOk l k) l.length with h | ⟨j, q1, q2, q3⟩
      · exact ⟨0, 0, .inr (.inr ⟨h1, h2, .inl ⟨rfl, rfl, h⟩⟩)⟩
      · exact ⟨j, _, .inr (.inr ⟨h1, h2, .inr ⟨j, q1, rfl, rfl, q2, q3⟩⟩)⟩
    · exact ⟨0, _, .inr (.inl ⟨h1, h2, rfl, rfl⟩)⟩
  · exact ⟨0, _, .inl ⟨h1, rfl, rfl⟩⟩
theorem PlanIs.total (p : Pl) : ∃ e, PlanIs p e := by
  by_cases h1 : Cal.schedE p.K p.A p.L = 0
  · by_cases h2 : linesE p.lns = 0
    · by_cases h3 : 30 < p.lns.length ∨ 30 < p.ins.length
      · exact ⟨2, .inr (.inr (.inl ⟨h1, h2, h3, rfl⟩))⟩
      · by_cases h4 : hisE p.ins p.ins.length = 0
        · obtain ⟨i, e, h⟩ := BindIs.total p.lns (knP p)
          exact ⟨e, .inr (.inr (.inr (.inr ⟨h1, h2, by omega, by omega, h4, i, h⟩)))⟩
        · exact ⟨_, .inr (.inr (.inr (.inl ⟨h1, h2, by omega, by omega, h4, rfl⟩)))⟩
    · exact ⟨_, .inr (.inl ⟨h1, h2, rfl⟩)⟩
  · exact ⟨_, .inl ⟨h1, rfl⟩⟩
theorem planRet_at {F : FuncId} {vs : Array Value} {p : Pl} {w : World} {er : Int} (h : Calls Tryz.prog F vs w fun e w' => PlanRet w p e w') (hp : PlanIs p er) : Calls Tryz.prog F vs w fun e w' => e = .returned (.int .i64 er) ∧ Below w.heap.size w w' := by
  refine h.mono ?_
  rintro e w' ⟨er', rfl, hp', hb⟩
  obtain rfl := hp.unique hp'
  exact ⟨rfl, hb⟩
set_option maxRecDepth 100000 in
set_option maxHeartbeats 1000000 in
theorem walk_retroChecks (p : Pl) (al : Option Addr) (nl cl : Nat) (at' : Option Addr) (nt ct : Nat) (ai : Option Addr) (ni ci : Nat) {w : World} (hc : CameP w al at' ai p) (h1 : p.lns.length = nl) (h2 : p.tbs.length = nt) (h3 : p.ins.length = ni) (hS : Shp w) :
    Calls Tryz.prog 3 #[.agg #[.int .i64 p.K, .int .i64 p.A, .int .i64 p.L, .slice al nl cl, .slice at' nt ct, .slice ai ni ci]] w fun e w' => e = .returned (.bool true) ∧ Below w.heap.size w w' := by
  have HB0 := Lib.hid (kbelow_box w (.cells #[.int .i64 p.K, .int .i64 p.A, .int .i64 p.L, .slice al nl cl, .slice at' nt ct, .slice ai ni ci] 28))
  have HP0 := Lib.hid (PBox.made w p.K p.A p.L al at' ai nl nt ni cl ct ci)
  have HC := Lib.hid (hc.below HB0.out)
  have HS := Lib.hid (hS.below HB0.out)
  have H1 := Lib.hid h1
  have H2 := Lib.hid h2
  have H3 := Lib.hid h3
  obtain ⟨er, her⟩ := PlanIs.total p
  have HE := Lib.hid her
  clear hS hc h1 h2 h3 her
  go_enter Tryz.func3, Tryz.ntmps3
  go_wp2_with fail
  obtain ⟨_, x0, x1, x2, x3, x4, x5⟩ := HP0.out
  generalize (w.alloc (.cells #[.int .i64 p.K, .int .i64 p.A, .int .i64 p.L, .slice al nl cl, .slice at' nt ct, .slice ai ni ci] 28)) = W at *
  have z0 := cell_regrown x0
  have z1 := cell_regrown x1
  have z2 := cell_regrown x2
  have z3 := cell_regrown x3
  have z4 := cell_regrown x4
  have z5 := cell_regrown x5
  refine wp_region_quiet_below (by kernel_rfl) (by kernel_rfl) ?_
  repeat (quiet_step (first
    | exact Calls.regrown_of (retroBegun_any _ (HS.out.below (below_regrown W _ _)))
    | exact Calls.regrown_of (planRet_at (Check_plan p al at' ai nl nt ni cl ct ci _ (HS.out.below (below_regrown W _ _)) (HC.out.below (below_regrown W _ _)) H1.out H2.out H3.out) HE.out)
    | exact Calls.regrown_of (planRet_at (checkPlan_ref p al at' ai nl nt ni cl ct ci _ (HC.out.below (below_regrown W _ _)) H1.out H2.out H3.out) HE.out)))
  refine wpQuiet_nil ?_
  intro _ hw'
  obtain ⟨⟨dq, osq⟩, hw''⟩ := hw'
  subst hw''
  go_wp2_with fail
  go_ret
  exact ⟨rfl, HB0.out.trans ((below_regrown W dq osq).mono HB0.out.size)⟩
end Go.Proofs.YtonceehdmnkffaaGreatDoor
