/-
  Promise B1: the walk of the reference's IsDate.
-/
import Derived.Test.YtmjnngneigjkkaaDoorCRefC
namespace Go.Proofs.YtmjnngneigjkkaaDoor
open Go.RowKit Go.Maps

set_option maxRecDepth 100000 in
set_option maxHeartbeats 4000000 in
theorem isDate_ref (y m d : Int) (w : World) : Calls Tryd.prog 21 #[.agg #[.int .i64 y, .int .i64 m, .int .i64 d]] w fun e w' => e = .returned (.bool (dateB y m d)) ∧ Below w.heap.size w w' := by
  by_cases h1 : 2000 ≤ y
  · by_cases h2 : y ≤ 2199
    · by_cases h3 : 1 ≤ m
      · by_cases h4 : m ≤ 12
        · by_cases h5 : 1 ≤ d
          · by_cases h6 : d ≤ md y m
            · have H : Hid (dateB y m d = true) := dateB_iff.2 ⟨h1, by omega, h3, h4, h5, h6⟩
              have c0 : (w.alloc (.cells #[.int .i64 y, .int .i64 m, .int .i64 d] 23)).cell? ⟨w.heap.size, 0, none⟩ = some (.int .i64 y) := by simp
              have c1 : (w.alloc (.cells #[.int .i64 y, .int .i64 m, .int .i64 d] 23)).cell? ⟨w.heap.size, 1, none⟩ = some (.int .i64 m) := by simp
              have c2 : (w.alloc (.cells #[.int .i64 y, .int .i64 m, .int .i64 d] 23)).cell? ⟨w.heap.size, 2, none⟩ = some (.int .i64 d) := by simp
              have hg : w.heap.size < (w.alloc (.cells #[.int .i64 y, .int .i64 m, .int .i64 d] 23)).heap.size := by simp
              have HZ := Lib.hid ((Below.refl w.heap.size w).alloc (Nat.le_refl _) (.cells #[.int .i64 y, .int .i64 m, .int .i64 d] 23))
              go_enter Tryd.func21, Tryd.ntmps21
              go_wp2_with fail
              generalize (w.alloc (.cells #[.int .i64 y, .int .i64 m, .int .i64 d] 23)) = W at *
              generalize hgg : w.heap.size = g at *
              have HG := Lib.hid hgg
              clear hgg
              go_region_held3 (fun w' => w'.cell? ⟨g, 0, none⟩ = some (.int .i64 y) ∧ w'.cell? ⟨g, 1, none⟩ = some (.int .i64 m) ∧ w'.cell? ⟨g, 2, none⟩ = some (.int .i64 d)) (go_keep)
                ((go_at_call 36; refine (monthDays_ref y m _ ?_ ?_ ?_).mono ?_; omega; omega; omega; rintro e w2 ⟨rfl, hb⟩
                  have HB2 := Lib.hid (from_drew hb); clear hb
                  have a0 : w2.cell? ⟨g, 0, none⟩ = some (.int .i64 y) := (HB2.out.cell (p := ⟨g, 0, none⟩) hg).trans c0
                  have a1 : w2.cell? ⟨g, 1, none⟩ = some (.int .i64 m) := (HB2.out.cell (p := ⟨g, 1, none⟩) hg).trans c1
                  have a2 : w2.cell? ⟨g, 2, none⟩ = some (.int .i64 d) := (HB2.out.cell (p := ⟨g, 2, none⟩) hg).trans c2
                  ))
              all_goals go_wp2_with fail
              all_goals go_ret
              all_goals exact ⟨cret_bool (by rw [H.out]; try (simp <;> omega)), by have := HZ.out.trans (HB2.out.mono (Nat.le_of_lt hg)); rw [HG.out]; exact this⟩
            · have H : Hid (dateB y m d = false) := decide_eq_false (by omega)
              have hf : decide (d ≤ md y m) = false := decide_eq_false h6
              have c0 : (w.alloc (.cells #[.int .i64 y, .int .i64 m, .int .i64 d] 23)).cell? ⟨w.heap.size, 0, none⟩ = some (.int .i64 y) := by simp
              have c1 : (w.alloc (.cells #[.int .i64 y, .int .i64 m, .int .i64 d] 23)).cell? ⟨w.heap.size, 1, none⟩ = some (.int .i64 m) := by simp
              have c2 : (w.alloc (.cells #[.int .i64 y, .int .i64 m, .int .i64 d] 23)).cell? ⟨w.heap.size, 2, none⟩ = some (.int .i64 d) := by simp
              have hg : w.heap.size < (w.alloc (.cells #[.int .i64 y, .int .i64 m, .int .i64 d] 23)).heap.size := by simp
              have HZ := Lib.hid ((Below.refl w.heap.size w).alloc (Nat.le_refl _) (.cells #[.int .i64 y, .int .i64 m, .int .i64 d] 23))
              go_enter Tryd.func21, Tryd.ntmps21
              go_wp2_with fail
              generalize (w.alloc (.cells #[.int .i64 y, .int .i64 m, .int .i64 d] 23)) = W at *
              generalize hgg : w.heap.size = g at *
              have HG := Lib.hid hgg
              clear hgg
              go_region_held3 (fun w' => w'.cell? ⟨g, 0, none⟩ = some (.int .i64 y) ∧ w'.cell? ⟨g, 1, none⟩ = some (.int .i64 m) ∧ w'.cell? ⟨g, 2, none⟩ = some (.int .i64 d)) (go_keep)
                ((go_at_call 36; refine (monthDays_ref y m _ ?_ ?_ ?_).mono ?_; omega; omega; omega; rintro e w2 ⟨rfl, hb⟩
                  have HB2 := Lib.hid (from_drew hb); clear hb
                  have a0 : w2.cell? ⟨g, 0, none⟩ = some (.int .i64 y) := (HB2.out.cell (p := ⟨g, 0, none⟩) hg).trans c0
                  have a1 : w2.cell? ⟨g, 1, none⟩ = some (.int .i64 m) := (HB2.out.cell (p := ⟨g, 1, none⟩) hg).trans c1
                  have a2 : w2.cell? ⟨g, 2, none⟩ = some (.int .i64 d) := (HB2.out.cell (p := ⟨g, 2, none⟩) hg).trans c2
                  ))
              all_goals go_wp2_with fail
              all_goals go_ret
              all_goals exact ⟨cret_bool (by rw [H.out]; try (simp <;> omega)), by have := HZ.out.trans (HB2.out.mono (Nat.le_of_lt hg)); rw [HG.out]; exact this⟩
          · have H : Hid (dateB y m d = false) := decide_eq_false (by omega)
            have hf : decide (1 ≤ d) = false := decide_eq_false h5
            go_enter Tryd.func21, Tryd.ntmps21
            go_wp2_with fail
            go_quiet (fail)
            go_wp2
            go_ret
            exact ⟨cret_bool (by rw [H.out]), below_dN ((Below.refl _ _).alloc (Nat.le_refl _) _) _⟩
        · have H : Hid (dateB y m d = false) := decide_eq_false (by omega)
          have hf : decide (m ≤ 12) = false := decide_eq_false h4
          go_enter Tryd.func21, Tryd.ntmps21
          go_wp2_with fail
          go_quiet (fail)
          go_wp2
          go_ret
          exact ⟨cret_bool (by rw [H.out]), below_dN ((Below.refl _ _).alloc (Nat.le_refl _) _) _⟩
      · have H : Hid (dateB y m d = false) := decide_eq_false (by omega)
        have hf : decide (1 ≤ m) = false := decide_eq_false h3
        go_enter Tryd.func21, Tryd.ntmps21
        go_wp2_with fail
        go_quiet (fail)
        go_wp2
        go_ret
        exact ⟨cret_bool (by rw [H.out]), below_dN ((Below.refl _ _).alloc (Nat.le_refl _) _) _⟩
    · have H : Hid (dateB y m d = false) := decide_eq_false (by omega)
      have hf : decide (y ≤ 2199) = false := decide_eq_false h2
      go_enter Tryd.func21, Tryd.ntmps21
      go_wp2_with fail
      go_quiet (fail)
      go_wp2
      go_ret
      exact ⟨cret_bool (by rw [H.out]), below_dN ((Below.refl _ _).alloc (Nat.le_refl _) _) _⟩
  · have H : Hid (dateB y m d = false) := decide_eq_false (by omega)
    have hf : decide (2000 ≤ y) = false := decide_eq_false h1
    go_enter Tryd.func21, Tryd.ntmps21
    go_wp2_with fail
    go_quiet (fail)
    go_wp2
    go_ret
    exact ⟨cret_bool (by rw [H.out]), below_dN ((Below.refl _ _).alloc (Nat.le_refl _) _) _⟩
end Go.Proofs.YtmjnngneigjkkaaDoor
