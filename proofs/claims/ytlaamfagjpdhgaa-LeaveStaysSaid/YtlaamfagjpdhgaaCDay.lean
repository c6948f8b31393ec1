/-
  Promise B1: which day a date is; walks of isDate and Day: at every date they return the day, or the error.
-/
import Derived.Test.YtlaamfagjpdhgaaCCivil
namespace Go.Proofs.Ytlaamfagjpdhgaa
open Go.RowKit

def dateB (y m d : Int) : Bool := decide (2000 ≤ y ∧ y < 2200 ∧ 1 ≤ m ∧ m ≤ 12 ∧ 1 ≤ d ∧ d ≤ md y m)
/-- The day of a date. -/
def dayN (y m d : Int) : Int := ys (y - 2000).toNat + cumN y (m - 1).toNat + d - 1
theorem dateB_iff {y m d : Int} : dateB y m d = true ↔ 2000 ≤ y ∧ y < 2200 ∧ 1 ≤ m ∧ m ≤ 12 ∧ 1 ≤ d ∧ d ≤ md y m := by unfold dateB; exact decide_eq_true_iff
theorem civil_of_date {y m d : Int} (h : dateB y m d = true) : IsCivil (dayN y m d) (y - 2000).toNat m.toNat d := by
  obtain ⟨h1, h2, h3, h4, h5, h6⟩ := dateB_iff.1 h
  have e1 : (2000 + ((y - 2000).toNat : Int)) = y := by omega
  have e2 : ((m.toNat : Nat) : Int) = m := by omega
  refine ⟨by omega, by omega, by omega, h5, by rw [e1, e2]; exact h6, ?_⟩
  rw [e1]
  unfold dayN
  rw [show m.toNat - 1 = (m - 1).toNat from by omega]
theorem date_of_civil {n : Int} {k m : Nat} {d : Int} (h : IsCivil n k m d) : dateB (2000 + k) m d = true ∧ dayN (2000 + k) m d = n := by
  obtain ⟨h1, h2, h3, h4, h5, h6⟩ := h
  refine ⟨dateB_iff.2 ⟨by omega, by omega, by omega, by omega, h4, h5⟩, ?_⟩
  unfold dayN
  rw [show (2000 + (k : Int) - 2000).toNat = k from by omega, show ((m : Int) - 1).toNat = m - 1 from by omega, h6]

set_option maxRecDepth 100000 in
set_option maxHeartbeats 2000000 in
theorem isDate_any (y m d : Int) (w : World) : Calls Try.prog 92 #[.agg #[.int .i64 y, .int .i64 m, .int .i64 d]] w fun e w' => e = .returned (.bool (dateB y m d)) ∧ ∃ k, w' = (w.alloc (.cells #[.int .i64 y, .int .i64 m, .int .i64 d] 59)).drewN k := by
  by_cases h1 : 2000 ≤ y
  · by_cases h2 : y < 2200
    · by_cases h3 : 1 ≤ m
      · by_cases h4 : m ≤ 12
        · by_cases h5 : 1 ≤ d
          · by_cases h6 : d ≤ md y m
            · have H : Hid (dateB y m d = true) := dateB_iff.2 ⟨h1, h2, h3, h4, h5, h6⟩
              go_enter Try.func92, Try.ntmps92
              go_wp2_with fail
              go_quiet ((go_at_call 85; exact Calls.quiet_of_same (monthDays_any _ _ _ (by omega))))
              go_wp2
              go_ret
              exact ⟨cret_bool (by rw [H.out]; try (simp <;> omega)), _, rfl⟩
            · have H : Hid (dateB y m d = false) := decide_eq_false (by omega)
              have hf : decide (d ≤ md y m) = false := decide_eq_false h6
              go_enter Try.func92, Try.ntmps92
              go_wp2_with fail
              go_quiet ((go_at_call 85; exact Calls.quiet_of_same (monthDays_any _ _ _ (by omega))))
              go_wp2
              go_ret
              exact ⟨cret_bool (by rw [H.out]; try (simp <;> omega)), _, rfl⟩
          · have H : Hid (dateB y m d = false) := decide_eq_false (by omega)
            have hf : decide (1 ≤ d) = false := decide_eq_false h5
            go_enter Try.func92, Try.ntmps92
            go_wp2_with fail
            go_quiet ((go_at_call 85; exact Calls.quiet_of_same (monthDays_any _ _ _ (by omega))))
            go_wp2
            go_ret
            exact ⟨cret_bool (by rw [H.out]; try (simp <;> omega)), _, rfl⟩
        · have H : Hid (dateB y m d = false) := decide_eq_false (by omega)
          have hf : decide (m ≤ 12) = false := decide_eq_false h4
          go_enter Try.func92, Try.ntmps92
          go_wp2_with fail
          go_quiet ((go_at_call 85; exact Calls.quiet_of_same (monthDays_any _ _ _ (by omega))))
          go_wp2
          go_ret
          exact ⟨cret_bool (by rw [H.out]; try (simp <;> omega)), _, rfl⟩
      · have H : Hid (dateB y m d = false) := decide_eq_false (by omega)
        have hf : decide (1 ≤ m) = false := decide_eq_false h3
        go_enter Try.func92, Try.ntmps92
        go_wp2_with fail
        go_quiet ((go_at_call 85; exact Calls.quiet_of_same (monthDays_any _ _ _ (by omega))))
        go_wp2
        go_ret
        exact ⟨cret_bool (by rw [H.out]; try (simp <;> omega)), _, rfl⟩
    · have H : Hid (dateB y m d = false) := decide_eq_false (by omega)
      have hf : decide (y < 2200) = false := decide_eq_false h2
      go_enter Try.func92, Try.ntmps92
      go_wp2_with fail
      go_quiet ((go_at_call 85; exact Calls.quiet_of_same (monthDays_any _ _ _ (by omega))))
      go_wp2
      go_ret
      exact ⟨cret_bool (by rw [H.out]; try (simp <;> omega)), _, rfl⟩
  · have H : Hid (dateB y m d = false) := decide_eq_false (by omega)
    have hf : decide (2000 ≤ y) = false := decide_eq_false h1
    go_enter Try.func92, Try.ntmps92
    go_wp2_with fail
    go_quiet ((go_at_call 85; exact Calls.quiet_of_same (monthDays_any _ _ _ (by omega))))
    go_wp2
    go_ret
    exact ⟨cret_bool (by rw [H.out]; try (simp <;> omega)), _, rfl⟩

theorem cret2 {a b c d : Int} (h : a = b) (k : c = d) : Ending.returned (.tuple #[.int .i64 a, .int .i64 c]) = .returned (.tuple #[.int .i64 b, .int .i64 d]) := by rw [h, k]
theorem Day_bad (y m d : Int) (w : World) (h : dateB y m d = false) : Calls Try.prog 84 #[.agg #[.int .i64 y, .int .i64 m, .int .i64 d]] w fun e w' => e = .returned (.tuple #[.int .i64 0, .int .i64 3]) ∧ Below w.heap.size w w' := by
  go_enter Try.func84, Try.ntmps84
  go_wp2_with fail
  refine (isDate_any y m d _).mono ?_
  rintro e w1 ⟨rfl, k1, rfl⟩
  go_wp2_with fail
  go_ret2
  exact ⟨rfl, below_dN (((Below.refl _ _).alloc (Nat.le_refl _) _).alloc (by simp) _) _⟩

set_option maxRecDepth 100000 in
set_option maxHeartbeats 2000000 in
theorem Day_ok (y m d : Int) (w : World) (h : dateB y m d = true) : Calls Try.prog 84 #[.agg #[.int .i64 y, .int .i64 m, .int .i64 d]] w fun e w' => e = .returned (.tuple #[.int .i64 (dayN y m d), .int .i64 0]) ∧ Below w.heap.size w w' := by
  obtain ⟨h1, h2, h3, h4, h5, h6⟩ := dateB_iff.1 h
  obtain ⟨k, rfl⟩ : ∃ k : Nat, y = 2000 + (k : Int) := ⟨(y - 2000).toNat, by omega⟩
  obtain ⟨mo, rfl⟩ : ∃ mo : Nat, m = (mo : Int) + 1 := ⟨(m - 1).toNat, by omega⟩
  have HD : Hid (dayN (2000 + k) (mo + 1) d = ys k + cumN (2000 + k) mo + d - 1) := by
    unfold Hid dayN
    rw [show (2000 + (k : Int) - 2000).toNat = k from by omega, show ((mo : Int) + 1 - 1).toNat = mo from by omega]
  have hk : k < 200 := by omega
  have hmd := md_bd (2000 + (k : Int)) ((mo : Int) + 1)
  have hd31 : d ≤ 31 := by omega
  have hyb := ys_bd (k := k) (by omega)
  obtain ⟨hy0, hy1⟩ := hyb
  have HY := Lib.hid (fun k (h : k ≤ 200) => ysL_at h)
  have hin := ysL_info
  have hone := ysL_one
  have hz := zero_size
  have HI := Lib.hid (fun w => isDate_any (2000 + (k : Int)) ((mo : Int) + 1) d w)
  rw [h] at HI
  clear h h6 hmd
  go_enter Try.func84, Try.ntmps84
  go_wp2_with fail
  refine (HI.out _).mono ?_
  rintro e w0 ⟨rfl, k0, rfl⟩
  go_wp2_with fail
  refine (yearStarts_any _).mono ?_
  rintro e w1 ⟨rfl, hb1⟩
  have HW2 := Lib.hid (starts_world hb1 hb1.size)
  have HR : Hid (∀ j (v : Int), (#[.int .i64 (2000 + (k : Int)), .int .i64 ((mo : Int) + 1), .int .i64 d] : Array Value)[j]? = some (.int .i64 v) → ((w1.alloc (.cells Try.zeroCells105 105)).setRow w1.heap.size (arr ysL)).cell? ⟨w.heap.size, j, none⟩ = some (.int .i64 v)) := fun j v hv => by
    have hB := HW2.out.2
    rw [hB.cell (p := ⟨w.heap.size, j, none⟩) (by simp; omega)]
    exact (World.cell?_alloc_past (w := w.alloc (.cells #[.int .i64 (2000 + (k : Int)), .int .i64 ((mo : Int) + 1), .int .i64 d] 59)) _ _ _ (by simp)).trans ((World.cell?_alloc_at (w := w) _ _ _ _ rfl).trans hv)
  have HBB : Hid (Below w.heap.size w ((w1.alloc (.cells Try.zeroCells105 105)).setRow w1.heap.size (arr ysL))) :=
    (below_dN (((Below.refl w.heap.size w).alloc (Nat.le_refl _) _).alloc (by simp) _) k0).trans (HW2.out.2.mono (by simp; omega))
  clear hb1
  generalize arr ysL = ya at *
  go_wp2_with (refine wpList_store_row rfl 105 (.tmp 4) (.tmp 10) rfl w1.heap.size ya rfl rfl 105 _ (heap_alloc_new w1 _) hin hz hone ?_; refine Hid.out ?_)
  generalize hW : (w1.alloc (.cells Try.zeroCells105 105)).setRow w1.heap.size ya = W at *
  have c0 : W.cell? ⟨w1.heap.size, k, none⟩ = some (.int .i64 (ys k)) := by
    rw [cell_of_row W _ _ _ _ _ HW2.out.1]; exact HY.out k (by omega)
  have r0 := HR.out 0 _ rfl
  have r1 := HR.out 1 _ rfl
  have r2 := HR.out 2 _ rfl
  clear HW2 hW
  generalize w1.heap.size = g at *
  clear hin hz hone
  have hi1 : (k : Int) < 201 := by omega
  refine Lib.hid ?_
  go_wp2_with fail
  go_quiet (fail)
  go_wp2_with fail
  rw [show 2000 + k - 2000 = k from by omega]
  go_loop [5, 6] (fun da mn => ∃ j : Nat, j ≤ mo ∧ mn = .int .i64 ((j : Int) + 1) ∧ da = .int .i64 (ys k + cumN (2000 + k) j + d - 1)) (fun _ mn => mo + 1 - (intOf mn).toNat)
  case atStart => exact ⟨0, Nat.zero_le _, rfl, by simp [cumN]⟩
  case round =>
    obtain ⟨j, hj, rfl, rfl⟩ := hrel
    have cb := cumN_bd (2000 + (k : Int)) j
    have mb := md_bd (2000 + (k : Int)) ((j : Int) + 1)
    have ES : Hid (cumN (2000 + (k : Int)) (j + 1) = cumN (2000 + (k : Int)) j + md (2000 + (k : Int)) ((j : Int) + 1)) := rfl
    by_cases hlt : j < mo
    · have hlt' : (j : Int) + 1 < (mo : Int) + 1 := by omega
      go_wp2_with (go_at_call 85; refine (monthDays_any _ _ _ (by omega)).mono ?_; rintro e w' ⟨rfl, rfl⟩)
      go_round
      case rel => exact ⟨j + 1, by omega, by go_num, by rw [ES.out]; go_num⟩
      case measure => simp [intOf]; omega
    · have hje : j = mo := by omega
      subst hje
      go_wp2_with fail
      go_ret2
      exact ⟨cret2 HD.out.symm rfl, below_dN HBB.out _⟩
end Go.Proofs.Ytlaamfagjpdhgaa
