/-
  The walk of the law PeriodChecks: it answers true at every schedule.
-/
import Derived.Test.YtoaobblhmnikgaaPBegun
namespace Go.Proofs.Ytoaobblhmnikgaa
open Go.RowKit Go.Maps

set_option maxHeartbeats 1000000 in
theorem walk_periodChecks (K A L : Int) (_ : (Lit.int .i64 K).wf = true) (_ : (Lit.int .i64 A).wf = true) (_ : (Lit.int .i64 L).wf = true) (w : World) :
    Calls Try.prog 3 #[.agg #[.int .i64 K, .int .i64 A, .int .i64 L]] w fun e w' => e = .returned (.bool true) ∧ Below w.heap.size w w' := by
  have HB0 := Lib.hid ((Below.refl w.heap.size w).alloc (Nat.le_refl _) (.cells #[.int .i64 K, .int .i64 A, .int .i64 L] 23))
  go_enter Try.func3, Try.ntmps3
  go_wp2_with fail
  have c0 : (w.alloc (.cells #[.int .i64 K, .int .i64 A, .int .i64 L] 23)).cell? ⟨w.heap.size, 0, none⟩ = some (.int .i64 K) := by simp
  have c1 : (w.alloc (.cells #[.int .i64 K, .int .i64 A, .int .i64 L] 23)).cell? ⟨w.heap.size, 1, none⟩ = some (.int .i64 A) := by simp
  have c2 : (w.alloc (.cells #[.int .i64 K, .int .i64 A, .int .i64 L] 23)).cell? ⟨w.heap.size, 2, none⟩ = some (.int .i64 L) := by simp
  have hg : w.heap.size < (w.alloc (.cells #[.int .i64 K, .int .i64 A, .int .i64 L] 23)).heap.size := by simp
  generalize (w.alloc (.cells #[.int .i64 K, .int .i64 A, .int .i64 L] 23)) = W at *
  go_region_held3 (fun w' => w'.cell? ⟨w.heap.size, 0, none⟩ = some (.int .i64 K) ∧ w'.cell? ⟨w.heap.size, 1, none⟩ = some (.int .i64 A) ∧ w'.cell? ⟨w.heap.size, 2, none⟩ = some (.int .i64 L)) (go_keep)
    (first
      | (go_at_call 12; refine (begun_any _).mono ?_; rintro e w1 ⟨rfl, hb⟩
         have HB1 := Lib.hid (from_drew hb); clear hb
         have a0 : w1.cell? ⟨w.heap.size, 0, none⟩ = some (.int .i64 K) := (HB1.out.cell (p := ⟨w.heap.size, 0, none⟩) hg).trans c0
         have a1 : w1.cell? ⟨w.heap.size, 1, none⟩ = some (.int .i64 A) := (HB1.out.cell (p := ⟨w.heap.size, 1, none⟩) hg).trans c1
         have a2 : w1.cell? ⟨w.heap.size, 2, none⟩ = some (.int .i64 L) := (HB1.out.cell (p := ⟨w.heap.size, 2, none⟩) hg).trans c2)
      | (go_at_call 13; refine (Check_any K A L _).mono ?_; rintro e w2 ⟨rfl, hb⟩
         have HB2 := Lib.hid (HB1.out.trans (hb.mono HB1.out.size)); clear hb
         have a0 : w2.cell? ⟨w.heap.size, 0, none⟩ = some (.int .i64 K) := (HB2.out.cell (p := ⟨w.heap.size, 0, none⟩) hg).trans c0
         have a1 : w2.cell? ⟨w.heap.size, 1, none⟩ = some (.int .i64 A) := (HB2.out.cell (p := ⟨w.heap.size, 1, none⟩) hg).trans c1
         have a2 : w2.cell? ⟨w.heap.size, 2, none⟩ = some (.int .i64 L) := (HB2.out.cell (p := ⟨w.heap.size, 2, none⟩) hg).trans c2)
      | (go_at_call 14; refine (check_ref K A L _).mono ?_; rintro e w3 ⟨rfl, hb⟩
         have HB3 := Lib.hid (HB2.out.trans (hb.mono HB2.out.size)); clear hb
         have a0 : w3.cell? ⟨w.heap.size, 0, none⟩ = some (.int .i64 K) := (HB3.out.cell (p := ⟨w.heap.size, 0, none⟩) hg).trans c0
         have a1 : w3.cell? ⟨w.heap.size, 1, none⟩ = some (.int .i64 A) := (HB3.out.cell (p := ⟨w.heap.size, 1, none⟩) hg).trans c1
         have a2 : w3.cell? ⟨w.heap.size, 2, none⟩ = some (.int .i64 L) := (HB3.out.cell (p := ⟨w.heap.size, 2, none⟩) hg).trans c2))
  all_goals go_wp2_with fail
  all_goals go_ret
  all_goals exact ⟨cret_bool (by simp), HB0.out.trans (HB3.out.mono HB0.out.size)⟩
end Go.Proofs.Ytoaobblhmnikgaa
