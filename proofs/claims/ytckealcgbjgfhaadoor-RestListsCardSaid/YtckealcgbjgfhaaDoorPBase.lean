/-
  Promise C1: when a schedule is right; walks of Check, hasDays, shapeOf and of the reference's CheckSchedule, WholePeriod, Within.
-/
import Derived.Test.YtckealcgbjgfhaaDoorCRef
namespace Go.Proofs.YtckealcgbjgfhaaDoor
open Go.RowKit

/-- What is wrong with a schedule. -/
def schedE (K A L : Int) : Int := if K < 1 ∨ 4 < K then 7 else if dayB A = false ∨ L < 0 ∨ 60 < L then 3 else 0
set_option maxHeartbeats 1000000 in
theorem Check_any (K A L : Int) (w : World) : Calls Tryd.prog 24 #[.agg #[.int .i64 K, .int .i64 A, .int .i64 L]] w fun e w' => e = .returned (.int .i64 (schedE K A L)) ∧ Below w.heap.size w w' := by
  by_cases h1 : K < 1
  · have HE : Hid (schedE K A L = 7) := if_pos (.inl h1)
    go_enter Tryd.func24, Tryd.ntmps24
    go_wp2_with (go_at_call 33; refine (isDay_any _ _).mono ?_; rintro e w' ⟨rfl, h'⟩; subst w')
    go_ret
    exact ⟨cret_int HE.out.symm, (Below.refl _ _).alloc (Nat.le_refl _) _⟩
  · have h1B : decide (K < 1) = false := decide_eq_false h1
    by_cases h2 : 4 < K
    · have HE : Hid (schedE K A L = 7) := if_pos (.inr h2)
      go_enter Tryd.func24, Tryd.ntmps24
      go_wp2_with (go_at_call 33; refine (isDay_any _ _).mono ?_; rintro e w' ⟨rfl, h'⟩; subst w')
      go_ret
      exact ⟨cret_int HE.out.symm, (Below.refl _ _).alloc (Nat.le_refl _) _⟩
    · have h2B : decide (4 < K) = false := decide_eq_false h2
      have HE0 : Hid (schedE K A L = if dayB A = false ∨ L < 0 ∨ 60 < L then 3 else 0) := if_neg (by omega)
      cases hd : dayB A
      · have HE : Hid (schedE K A L = 3) := by unfold Hid; rw [HE0.out, if_pos (.inl hd)]
        go_enter Tryd.func24, Tryd.ntmps24
        go_wp2_with (go_at_call 33; refine (isDay_any _ _).mono ?_; rintro e w' ⟨rfl, h'⟩; subst w')
        go_ret
        exact ⟨cret_int HE.out.symm, (Below.refl _ _).alloc (Nat.le_refl _) _⟩
      · by_cases h3 : L < 0
        · have HE : Hid (schedE K A L = 3) := by unfold Hid; rw [HE0.out, if_pos (.inr (.inl h3))]
          go_enter Tryd.func24, Tryd.ntmps24
          go_wp2_with (go_at_call 33; refine (isDay_any _ _).mono ?_; rintro e w' ⟨rfl, h'⟩; subst w')
          go_ret
          exact ⟨cret_int HE.out.symm, (Below.refl _ _).alloc (Nat.le_refl _) _⟩
        · have h3B : decide (L < 0) = false := decide_eq_false h3
          by_cases h4 : 60 < L
          · have HE : Hid (schedE K A L = 3) := by unfold Hid; rw [HE0.out, if_pos (.inr (.inr h4))]
            go_enter Tryd.func24, Tryd.ntmps24
            go_wp2_with (go_at_call 33; refine (isDay_any _ _).mono ?_; rintro e w' ⟨rfl, h'⟩; subst w')
            go_ret
            exact ⟨cret_int HE.out.symm, (Below.refl _ _).alloc (Nat.le_refl _) _⟩
          · have h4B : decide (60 < L) = false := decide_eq_false h4
            have HE : Hid (schedE K A L = 0) := by unfold Hid; rw [HE0.out, if_neg (by rw [hd]; simp; omega)]
            go_enter Tryd.func24, Tryd.ntmps24
            go_wp2_with (go_at_call 33; refine (isDay_any _ _).mono ?_; rintro e w' ⟨rfl, h'⟩; subst w')
            go_ret
            exact ⟨cret_int HE.out.symm, (Below.refl _ _).alloc (Nat.le_refl _) _⟩
theorem schedE_ok {K A L : Int} (h : schedE K A L = 0) : 1 ≤ K ∧ K ≤ 4 ∧ dayB A = true ∧ 0 ≤ L ∧ L ≤ 60 := by
  unfold schedE at h
  split at h
  · cases h
  · split at h
    · cases h
    · rename_i h1 h2
      refine ⟨by omega, by omega, ?_, by omega, by omega⟩
      cases hd : dayB A
      · exact absurd (.inl hd) h2
      · rfl
theorem schedE_bd (K A L : Int) : 0 ≤ schedE K A L ∧ schedE K A L ≤ 7 := by
  unfold schedE
  (repeat' split) <;> omega

/-- Has a period days, and none that is none? -/
def perB (f t : Int) : Bool := dayB f && dayB t && decide (f ≤ t)
theorem perB_iff {f t : Int} : perB f t = true ↔ 0 ≤ f ∧ f ≤ t ∧ t ≤ 73048 := by
  unfold perB dayB
  simp only [Bool.and_eq_true, decide_eq_true_eq]
  omega
set_option maxHeartbeats 1000000 in
theorem hasDays_any (f t : Int) (w : World) : Calls Tryd.prog 17 #[.agg #[.int .i64 f, .int .i64 t]] w fun e w' => e = .returned (.bool (perB f t)) ∧ Below w.heap.size w w' := by
  cases hf : dayB f
  · have HE : Hid (perB f t = false) := by unfold Hid perB; simp [hf]
    go_enter Tryd.func17, Tryd.ntmps17
    go_wp2_with (go_at_call 33; refine (isDay_any _ _).mono ?_; rintro e w' ⟨rfl, h'⟩; subst w')
    go_ret
    exact ⟨cret_bool HE.out.symm, (Below.refl _ _).alloc (Nat.le_refl _) _⟩
  · cases ht : dayB t
    · have HE : Hid (perB f t = false) := by unfold Hid perB; simp [ht]
      go_enter Tryd.func17, Tryd.ntmps17
      go_wp2_with (go_at_call 33; refine (isDay_any _ _).mono ?_; rintro e w' ⟨rfl, h'⟩; subst w')
      go_ret
      exact ⟨cret_bool HE.out.symm, (Below.refl _ _).alloc (Nat.le_refl _) _⟩
    · have HE : Hid (perB f t = decide (f ≤ t)) := by unfold Hid perB; simp [hf, ht]
      go_enter Tryd.func17, Tryd.ntmps17
      go_wp2_with (go_at_call 33; refine (isDay_any _ _).mono ?_; rintro e w' ⟨rfl, h'⟩; subst w')
      go_ret
      exact ⟨cret_bool HE.out.symm, (Below.refl _ _).alloc (Nat.le_refl _) _⟩
/-- Is a day in a period? -/
def inB (x f t : Int) : Bool := decide (f ≤ x) && decide (x ≤ t)
/-- The shape of a kind: how many days, how many a month. -/
def shD (K : Int) : Int := if K = 1 then 7 else if K = 2 then 14 else if K = 3 then 15 else 31
def shP (K : Int) : Int := if K = 3 then 2 else if K = 4 then 1 else 0
set_option maxRecDepth 100000 in
set_option maxHeartbeats 1000000 in
theorem shapeOf_any (K : Int) (w : World) (h1 : 1 ≤ K) (h2 : K ≤ 4) : Calls Tryd.prog 25 #[.int .i64 K] w fun e w' => e = .returned (.agg #[.int .i64 (shD K), .int .i64 (shP K)]) ∧ Below w.heap.size w w' := by
  have hK : K = 1 ∨ K = 2 ∨ K = 3 ∨ K = 4 := by omega
  clear h1 h2
  rcases hK with rfl | rfl | rfl | rfl
  · go_enter Tryd.func25, Tryd.ntmps25
    go_wp2_with fail
    refine bodyPost_ret (v := .agg #[.int .i64 7, .int .i64 0]) (by simp [results, Tryd.results25, go_sem] <;> rfl) rfl ⟨rfl, ((Below.refl _ _).alloc (Nat.le_refl _) _).alloc (by simp) _⟩
  · go_enter Tryd.func25, Tryd.ntmps25
    go_wp2_with fail
    refine bodyPost_ret (v := .agg #[.int .i64 14, .int .i64 0]) (by simp [results, Tryd.results25, go_sem] <;> rfl) rfl ⟨rfl, ((Below.refl _ _).alloc (Nat.le_refl _) _).alloc (by simp) _⟩
  · go_enter Tryd.func25, Tryd.ntmps25
    go_wp2_with fail
    refine bodyPost_ret (v := .agg #[.int .i64 15, .int .i64 2]) (by simp [results, Tryd.results25, go_sem] <;> rfl) rfl ⟨rfl, ((Below.refl _ _).alloc (Nat.le_refl _) _).alloc (by simp) _⟩
  · go_enter Tryd.func25, Tryd.ntmps25
    go_wp2_with fail
    refine bodyPost_ret (v := .agg #[.int .i64 31, .int .i64 1]) (by simp [results, Tryd.results25, go_sem] <;> rfl) rfl ⟨rfl, ((Below.refl _ _).alloc (Nat.le_refl _) _).alloc (by simp) _⟩
end Go.Proofs.YtckealcgbjgfhaaDoor
