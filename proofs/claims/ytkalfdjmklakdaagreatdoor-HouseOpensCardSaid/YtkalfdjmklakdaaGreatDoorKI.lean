/-
  Promise B3: the day so many months on; walks of Months and of the reference's MonthsOn.
  Promise C1: when a schedule is right; walks of Check, hasDays, shapeOf and of the reference's CheckSchedule, WholePeriod, Within.
  Promise C1: the period with a number; walks of countMonthly, ofMonths, ofDays and At.
  Promise C1: the walk of At.
  Promise C1: how months and halves follow one another; walks of the reference's begins and after.
  A period's days are one answer.
-/
import Derived.Test.YtkalfdjmklakdaaGreatDoorKH
import Derived.Deep.RegionHeld3
namespace Go.Proofs.YtkalfdjmklakdaaGreatDoor.Cal
open Go.RowKit Go.Maps
def mIdx (k m : Nat) (n : Int) : Int := 12 * (k : Int) + (m : Int) - 1 + n
def mDay (M d : Int) : Int := dayN (2000 + M / 12) (M % 12 + 1) (min d (md (2000 + M / 12) (M % 12 + 1)))
def MonE (x n r e : Int) : Prop :=
 ((dayB x = false ∨ n < -2400 ∨ 2400 < n) ∧ r = 0 ∧ e = 3) ∨
 (-2400 ≤ n ∧ n ≤ 2400 ∧ ∃ (k m : Nat) (d : Int), IsCivil x k m d ∧ (((mIdx k m n < 0 ∨ 2400 ≤ mIdx k m n) ∧ r = 0 ∧ e = 3) ∨ (0 ≤ mIdx k m n ∧ mIdx k m n < 2400 ∧ r = mDay (mIdx k m n) d ∧ e = 0)))
theorem civil_dayB {x : Int} {k m : Nat} {d : Int} (h : IsCivil x k m d) : dayB x = true := by
 have := h.day
 unfold dayB
 exact decide_eq_true this
theorem MonE.unique {x n r e r' e' : Int} (h : MonE x n r e) (h' : MonE x n r' e') : r = r' ∧ e = e' := by
 rcases h with ⟨a, b, c⟩ | ⟨a0, a1, k, m, d, hc, hr⟩ <;> rcases h' with ⟨a', b', c'⟩ | ⟨a0', a1', k', m', d', hc', hr'⟩
 ·exact ⟨by omega, by omega⟩
 ·have := civil_dayB hc'
  rcases a with a | a | a
  ·rw [this] at a; cases a
  ·omega
  ·omega
 ·have := civil_dayB hc
  rcases a' with a | a | a
  ·rw [this] at a; cases a
  ·omega
  ·omega
 ·obtain ⟨rfl, rfl, rfl⟩ := hc.unique hc'
  rcases hr with ⟨p, q, s⟩ | ⟨p, p', q, s⟩ <;> rcases hr' with ⟨u, v, t⟩ | ⟨u, u', v, t⟩
  ·exact ⟨by omega, by omega⟩
  ·omega
  ·omega
  ·exact ⟨by omega, by omega⟩
theorem mDay_date {M d : Int} (h0 : 0 ≤ M) (h1 : M < 2400) (hd : 1 ≤ d) : dateB (2000 + M / 12) (M % 12 + 1) (min d (md (2000 + M / 12) (M % 12 + 1))) = true := by
 have := md_bd (2000 + M / 12) (M % 12 + 1)
 exact dateB_iff.2 ⟨by omega, by omega, by omega, by omega, by omega, by omega⟩
set_option maxRecDepth 100000 in
set_option maxHeartbeats 2000000 in
theorem Months_any (x n : Int) (w : World) :
 Calls Tryz.prog 205 #[.int .i64 x, .int .i64 n] w fun e w' => ∃ r er : Int, e = .returned (.tuple #[.int .i64 r, .int .i64 er]) ∧ MonE x n r er ∧ Below w.heap.size w w' := by
 cases hx : dayB x
 ·go_enter Tryz.func205, Tryz.ntmps205
  go_wp2_with fail
  refine (Civil_bad x w hx).mono ?_
  rintro e w1 ⟨rfl, hb1⟩
  have HB := Lib.hid (hb1.alloc hb1.size (.cells #[.int .i64 0, .int .i64 0, .int .i64 0] 144))
  clear hb1
  go_wp2_with fail
  go_ret2
  exact ⟨_, _, rfl, .inl ⟨.inl hx, rfl, rfl⟩, HB.out⟩
 ·by_cases hn0 : n < -2400
  ·go_enter Tryz.func205, Tryz.ntmps205
   go_wp2_with fail
   refine (Civil_ok x w hx).mono ?_
   rintro e w1 ⟨k, m, d, rfl, hc, hb1⟩
   have HB := Lib.hid (hb1.alloc hb1.size (.cells #[.int .i64 (2000 + (k : Int)), .int .i64 (m : Int), .int .i64 d] 144))
   clear hb1 hc
   go_wp2_with fail
   go_ret2
   exact ⟨_, _, rfl, .inl ⟨.inr (.inl hn0), rfl, rfl⟩, HB.out⟩
  ·by_cases hn1 : 2400 < n
   ·have hn0B : decide (n < -2400) = false := decide_eq_false hn0
    go_enter Tryz.func205, Tryz.ntmps205
    go_wp2_with fail
    refine (Civil_ok x w hx).mono ?_
    rintro e w1 ⟨k, m, d, rfl, hc, hb1⟩
    have HB := Lib.hid (hb1.alloc hb1.size (.cells #[.int .i64 (2000 + (k : Int)), .int .i64 (m : Int), .int .i64 d] 144))
    clear hb1 hc
    go_wp2_with fail
    go_ret2
    exact ⟨_, _, rfl, .inl ⟨.inr (.inr hn1), rfl, rfl⟩, HB.out⟩
   ·have hn0B : decide (n < -2400) = false := decide_eq_false hn0
    have hn1B : decide (2400 < n) = false := decide_eq_false hn1
    go_enter Tryz.func205, Tryz.ntmps205
    go_wp2_with fail
    refine (Civil_ok x w hx).mono ?_
    rintro e w1 ⟨k, m, d, rfl, hc, hb1⟩
    have HB := Lib.hid (hb1.alloc hb1.size (.cells #[.int .i64 (2000 + (k : Int)), .int .i64 (m : Int), .int .i64 d] 144))
    have HC := Lib.hid hc
    have hk := hc.k1
    have hm1 := hc.m1
    have hm2 := hc.m2
    have hd1 := hc.d1
    have hd31 : d ≤ 31 := by have := hc.d2; have := md_bd (2000 + (k : Int)) m; omega
    clear hb1 hc
    have hs1 : (2000 + (k : Int) - 2000) = (k : Int) := by omega
    have HI : Hid (mIdx k m n = 12 * (k : Int) + (m : Int) - 1 + n) := rfl
    by_cases hM0 : 12 * (k : Int) + (m : Int) - 1 + n < 0
    ·go_wp2_with fail
     go_ret2
     exact ⟨_, _, rfl, .inr ⟨by omega, by omega, k, m, d, HC.out, .inl ⟨.inl (by rw [HI.out]; exact hM0), rfl, rfl⟩⟩, HB.out⟩
    ·have hM0B : decide (12 * (k : Int) + (m : Int) - 1 + n < 0) = false := decide_eq_false hM0
     by_cases hM1 : 2400 ≤ 12 * (k : Int) + (m : Int) - 1 + n
     ·go_wp2_with fail
      go_ret2
      exact ⟨_, _, rfl, .inr ⟨by omega, by omega, k, m, d, HC.out, .inl ⟨.inr (by rw [HI.out]; exact hM1), rfl, rfl⟩⟩, HB.out⟩
     ·have hM1B : decide (2400 ≤ 12 * (k : Int) + (m : Int) - 1 + n) = false := decide_eq_false hM1
      have c0 : (w1.alloc (.cells #[.int .i64 (2000 + (k : Int)), .int .i64 (m : Int), .int .i64 d] 144)).cell? ⟨w1.heap.size, 0, none⟩ = some (.int .i64 (2000 + (k : Int))) := by simp
      have c1 : (w1.alloc (.cells #[.int .i64 (2000 + (k : Int)), .int .i64 (m : Int), .int .i64 d] 144)).cell? ⟨w1.heap.size, 1, none⟩ = some (.int .i64 (m : Int)) := by simp
      have c2 : (w1.alloc (.cells #[.int .i64 (2000 + (k : Int)), .int .i64 (m : Int), .int .i64 d] 144)).cell? ⟨w1.heap.size, 2, none⟩ = some (.int .i64 d) := by simp
      have HD := Lib.hid (mDay_date (M := 12 * (k : Int) + (m : Int) - 1 + n) (d := d) (by omega) (by omega) hd1)
      have HR : Hid (mDay (mIdx k m n) d = dayN (2000 + (12 * (k : Int) + (m : Int) - 1 + n) / 12) ((12 * (k : Int) + (m : Int) - 1 + n) % 12 + 1) (min d (md (2000 + (12 * (k : Int) + (m : Int) - 1 + n) / 12) ((12 * (k : Int) + (m : Int) - 1 + n) % 12 + 1)))) := rfl
      have hpos : 0 ≤ 12 * (k : Int) + (m : Int) - 1 + n := by omega
      have hmd := md_bd (2000 + (12 * (k : Int) + (m : Int) - 1 + n) / 12) ((12 * (k : Int) + (m : Int) - 1 + n) % 12 + 1)
      go_wp2_with fail
      have hg : w1.heap.size < (w1.alloc (.cells #[.int .i64 (2000 + (k : Int)), .int .i64 (m : Int), .int .i64 d] 144)).heap.size := by simp
      generalize (w1.alloc (.cells #[.int .i64 (2000 + (k : Int)), .int .i64 (m : Int), .int .i64 d] 144)) = W at *
      generalize w1.heap.size = g at *
      generalize 12 * (k : Int) + (m : Int) - 1 + n = M at *
      generalize hY : 2000 + M / 12 = Y at *
      generalize hL : M % 12 + 1 = L at *
      have hY0 : 0 ≤ Y := by omega
      clear hY hL hs1 hk hm1 hm2 hn0B hn1B hM0B hM1B c0 c1
      by_cases hdm : md Y L < d
      ·have HDV : Hid (dateB Y L (md Y L) = true) := by have := HD.out; rwa [show min d (md Y L) = md Y L from by omega] at this
       have HDI : Hid (dateB Y L (if md Y L < d then md Y L else d) = true) := by unfold Hid; rw [if_pos hdm]; exact HDV.out
       have HRV : Hid (mDay (mIdx k m n) d = dayN Y L (md Y L)) := by have := HR.out; rwa [show min d (md Y L) = md Y L from by omega] at this
       have HRI : Hid (mDay (mIdx k m n) d = dayN Y L (if md Y L < d then md Y L else d)) := by unfold Hid; rw [if_pos hdm]; exact HRV.out
       go_region_held3 (fun w' => w'.cell? ⟨g, 2, none⟩ = some (.int .i64 d)) (go_keep)
        (first
         | (go_at_call 238; refine (monthDays_any _ _ _ hY0).mono ?_; rintro e w2 ⟨rfl, rfl⟩)
         | (go_at_call 237; refine (Day_ok _ _ _ _ ?_).mono ?_; (first | (with_reducible exact HDV.out) | (with_reducible exact HDI.out) | (with_reducible exact HD.out)); rintro e w3 ⟨rfl, hb3⟩; have HB3 := Lib.hid (from_drew hb3); clear hb3; have a2 : w3.cell? ⟨g, 2, none⟩ = some (.int .i64 d) := (HB3.out.cell (p := ⟨g, 2, none⟩) hg).trans c2))
       all_goals go_wp2_with fail
       all_goals go_ret2
       all_goals exact ⟨_, _, rfl, .inr ⟨by omega, by omega, k, m, d, HC.out, .inr ⟨by rw [HI.out]; omega, by rw [HI.out]; omega, (by first | (with_reducible exact HRV.out.symm) | (with_reducible exact HRI.out.symm) | (with_reducible exact HR.out.symm)), rfl⟩⟩, HB.out.trans (HB3.out.mono HB.out.size)⟩
      ·have hdmB : decide (md Y L < d) = false := decide_eq_false hdm
       have HDV : Hid (dateB Y L d = true) := by have := HD.out; rwa [show min d (md Y L) = d from by omega] at this
       have HDI : Hid (dateB Y L (if md Y L < d then md Y L else d) = true) := by unfold Hid; rw [if_neg hdm]; exact HDV.out
       have HRV : Hid (mDay (mIdx k m n) d = dayN Y L d) := by have := HR.out; rwa [show min d (md Y L) = d from by omega] at this
       have HRI : Hid (mDay (mIdx k m n) d = dayN Y L (if md Y L < d then md Y L else d)) := by unfold Hid; rw [if_neg hdm]; exact HRV.out
       go_region_held3 (fun w' => w'.cell? ⟨g, 2, none⟩ = some (.int .i64 d)) (go_keep)
        (first
         | (go_at_call 238; refine (monthDays_any _ _ _ hY0).mono ?_; rintro e w2 ⟨rfl, rfl⟩)
         | (go_at_call 237; refine (Day_ok _ _ _ _ ?_).mono ?_; (first | (with_reducible exact HDV.out) | (with_reducible exact HDI.out) | (with_reducible exact HD.out)); rintro e w3 ⟨rfl, hb3⟩; have HB3 := Lib.hid (from_drew hb3); clear hb3; have a2 : w3.cell? ⟨g, 2, none⟩ = some (.int .i64 d) := (HB3.out.cell (p := ⟨g, 2, none⟩) hg).trans c2))
       all_goals go_wp2_with fail
       all_goals go_ret2
       all_goals exact ⟨_, _, rfl, .inr ⟨by omega, by omega, k, m, d, HC.out, .inr ⟨by rw [HI.out]; omega, by rw [HI.out]; omega, (by first | (with_reducible exact HRV.out.symm) | (with_reducible exact HRI.out.symm) | (with_reducible exact HR.out.symm)), rfl⟩⟩, HB.out.trans (HB3.out.mono HB.out.size)⟩
end Go.Proofs.YtkalfdjmklakdaaGreatDoor.Cal
namespace Go.Proofs.YtkalfdjmklakdaaGreatDoor.Cal
open Go.RowKit
def schedE (K A L : Int) : Int := if K < 1 ∨ 4 < K then 7 else if dayB A = false ∨ L < 0 ∨ 60 < L then 3 else 0
set_option maxHeartbeats 1000000 in
theorem Check_any (K A L : Int) (w : World) : Calls Tryz.prog 143 #[.agg #[.int .i64 K, .int .i64 A, .int .i64 L]] w fun e w' => e = .returned (.int .i64 (schedE K A L)) ∧ Below w.heap.size w w' := by
 by_cases h1 : K < 1
 ·have HE : Hid (schedE K A L = 7) := if_pos (.inl h1)
  go_enter Tryz.func143, Tryz.ntmps143
  go_wp2_with (go_at_call 22; refine (isDay_any _ _).mono ?_; rintro e w' ⟨rfl, h'⟩; subst w')
  go_ret
  exact ⟨cret_int HE.out.symm, (Below.refl _ _).alloc (Nat.le_refl _) _⟩
 ·have h1B : decide (K < 1) = false := decide_eq_false h1
  by_cases h2 : 4 < K
  ·have HE : Hid (schedE K A L = 7) := if_pos (.inr h2)
   go_enter Tryz.func143, Tryz.ntmps143
   go_wp2_with (go_at_call 22; refine (isDay_any _ _).mono ?_; rintro e w' ⟨rfl, h'⟩; subst w')
   go_ret
   exact ⟨cret_int HE.out.symm, (Below.refl _ _).alloc (Nat.le_refl _) _⟩
  ·have h2B : decide (4 < K) = false := decide_eq_false h2
   have HE0 : Hid (schedE K A L = if dayB A = false ∨ L < 0 ∨ 60 < L then 3 else 0) := if_neg (by omega)
   cases hd : dayB A
   ·have HE : Hid (schedE K A L = 3) := by unfold Hid; rw [HE0.out, if_pos (.inl hd)]
    go_enter Tryz.func143, Tryz.ntmps143
    go_wp2_with (go_at_call 22; refine (isDay_any _ _).mono ?_; rintro e w' ⟨rfl, h'⟩; subst w')
    go_ret
    exact ⟨cret_int HE.out.symm, (Below.refl _ _).alloc (Nat.le_refl _) _⟩
   ·by_cases h3 : L < 0
    ·have HE : Hid (schedE K A L = 3) := by unfold Hid; rw [HE0.out, if_pos (.inr (.inl h3))]
     go_enter Tryz.func143, Tryz.ntmps143
     go_wp2_with (go_at_call 22; refine (isDay_any _ _).mono ?_; rintro e w' ⟨rfl, h'⟩; subst w')
     go_ret
     exact ⟨cret_int HE.out.symm, (Below.refl _ _).alloc (Nat.le_refl _) _⟩
    ·have h3B : decide (L < 0) = false := decide_eq_false h3
     by_cases h4 : 60 < L
     ·have HE : Hid (schedE K A L = 3) := by unfold Hid; rw [HE0.out, if_pos (.inr (.inr h4))]
      go_enter Tryz.func143, Tryz.ntmps143
      go_wp2_with (go_at_call 22; refine (isDay_any _ _).mono ?_; rintro e w' ⟨rfl, h'⟩; subst w')
      go_ret
      exact ⟨cret_int HE.out.symm, (Below.refl _ _).alloc (Nat.le_refl _) _⟩
     ·have h4B : decide (60 < L) = false := decide_eq_false h4
      have HE : Hid (schedE K A L = 0) := by unfold Hid; rw [HE0.out, if_neg (by rw [hd]; simp; omega)]
      go_enter Tryz.func143, Tryz.ntmps143
      go_wp2_with (go_at_call 22; refine (isDay_any _ _).mono ?_; rintro e w' ⟨rfl, h'⟩; subst w')
      go_ret
      exact ⟨cret_int HE.out.symm, (Below.refl _ _).alloc (Nat.le_refl _) _⟩
set_option maxHeartbeats 1000000 in
theorem check_ref (K A L : Int) (w : World) : Calls Tryz.prog 56 #[.agg #[.int .i64 K, .int .i64 A, .int .i64 L]] w fun e w' => e = .returned (.int .i64 (schedE K A L)) ∧ Below w.heap.size w w' := by
 by_cases h1 : K < 1
 ·have HE : Hid (schedE K A L = 7) := if_pos (.inl h1)
  go_enter Tryz.func56, Tryz.ntmps56
  go_wp2_with (go_at_call 37; refine (isDay_ref _ _).mono ?_; rintro e w' ⟨rfl, h'⟩; subst w')
  go_ret
  exact ⟨cret_int HE.out.symm, (Below.refl _ _).alloc (Nat.le_refl _) _⟩
 ·have h1B : decide (K < 1) = false := decide_eq_false h1
  by_cases h2 : 4 < K
  ·have HE : Hid (schedE K A L = 7) := if_pos (.inr h2)
   go_enter Tryz.func56, Tryz.ntmps56
   go_wp2_with (go_at_call 37; refine (isDay_ref _ _).mono ?_; rintro e w' ⟨rfl, h'⟩; subst w')
   go_ret
   exact ⟨cret_int HE.out.symm, (Below.refl _ _).alloc (Nat.le_refl _) _⟩
  ·have h2B : decide (4 < K) = false := decide_eq_false h2
   have HE0 : Hid (schedE K A L = if dayB A = false ∨ L < 0 ∨ 60 < L then 3 else 0) := if_neg (by omega)
   cases hd : dayB A
   ·have HE : Hid (schedE K A L = 3) := by unfold Hid; rw [HE0.out, if_pos (.inl hd)]
    go_enter Tryz.func56, Tryz.ntmps56
    go_wp2_with (go_at_call 37; refine (isDay_ref _ _).mono ?_; rintro e w' ⟨rfl, h'⟩; subst w')
    go_ret
    exact ⟨cret_int HE.out.symm, (Below.refl _ _).alloc (Nat.le_refl _) _⟩
   ·by_cases h3 : L < 0
    ·have HE : Hid (schedE K A L = 3) := by unfold Hid; rw [HE0.out, if_pos (.inr (.inl h3))]
     go_enter Tryz.func56, Tryz.ntmps56
     go_wp2_with (go_at_call 37; refine (isDay_ref _ _).mono ?_; rintro e w' ⟨rfl, h'⟩; subst w')
     go_ret
     exact ⟨cret_int HE.out.symm, (Below.refl _ _).alloc (Nat.le_refl _) _⟩
    ·have h3B : decide (L < 0) = false := decide_eq_false h3
     by_cases h4 : 60 < L
     ·have HE : Hid (schedE K A L = 3) := by unfold Hid; rw [HE0.out, if_pos (.inr (.inr h4))]
      go_enter Tryz.func56, Tryz.ntmps56
      go_wp2_with (go_at_call 37; refine (isDay_ref _ _).mono ?_; rintro e w' ⟨rfl, h'⟩; subst w')
      go_ret
      exact ⟨cret_int HE.out.symm, (Below.refl _ _).alloc (Nat.le_refl _) _⟩
     ·have h4B : decide (60 < L) = false := decide_eq_false h4
      have HE : Hid (schedE K A L = 0) := by unfold Hid; rw [HE0.out, if_neg (by rw [hd]; simp; omega)]
      go_enter Tryz.func56, Tryz.ntmps56
      go_wp2_with (go_at_call 37; refine (isDay_ref _ _).mono ?_; rintro e w' ⟨rfl, h'⟩; subst w')
      go_ret
      exact ⟨cret_int HE.out.symm, (Below.refl _ _).alloc (Nat.le_refl _) _⟩
theorem schedE_ok {K A L : Int} (h : schedE K A L = 0) : 1 ≤ K ∧ K ≤ 4 ∧ dayB A = true ∧ 0 ≤ L ∧ L ≤ 60 := by
 unfold schedE at h
 split at h
 ·cases h
 ·split at h
  ·cases h
  ·rename_i h1 h2
   refine ⟨by omega, by omega, ?_, by omega, by omega⟩
   cases hd : dayB A
   ·exact absurd (.inl hd) h2
   ·rfl
theorem schedE_bd (K A L : Int) : 0 ≤ schedE K A L ∧ schedE K A L ≤ 7 := by
 unfold schedE
 (repeat' split) <;> omega
def perB (f t : Int) : Bool := dayB f && dayB t && decide (f ≤ t)
theorem perB_iff {f t : Int} : perB f t = true ↔ 0 ≤ f ∧ f ≤ t ∧ t ≤ 73048 := by
 unfold perB dayB
 simp only [Bool.and_eq_true, decide_eq_true_eq]
 omega
set_option maxHeartbeats 1000000 in
theorem hasDays_any (f t : Int) (w : World) : Calls Tryz.prog 207 #[.agg #[.int .i64 f, .int .i64 t]] w fun e w' => e = .returned (.bool (perB f t)) ∧ Below w.heap.size w w' := by
 cases hf : dayB f
 ·have HE : Hid (perB f t = false) := by unfold Hid perB; simp [hf]
  go_enter Tryz.func207, Tryz.ntmps207
  go_wp2_with (go_at_call 22; refine (isDay_any _ _).mono ?_; rintro e w' ⟨rfl, h'⟩; subst w')
  go_ret
  exact ⟨cret_bool HE.out.symm, (Below.refl _ _).alloc (Nat.le_refl _) _⟩
 ·cases ht : dayB t
  ·have HE : Hid (perB f t = false) := by unfold Hid perB; simp [ht]
   go_enter Tryz.func207, Tryz.ntmps207
   go_wp2_with (go_at_call 22; refine (isDay_any _ _).mono ?_; rintro e w' ⟨rfl, h'⟩; subst w')
   go_ret
   exact ⟨cret_bool HE.out.symm, (Below.refl _ _).alloc (Nat.le_refl _) _⟩
  ·have HE : Hid (perB f t = decide (f ≤ t)) := by unfold Hid perB; simp [hf, ht]
   go_enter Tryz.func207, Tryz.ntmps207
   go_wp2_with (go_at_call 22; refine (isDay_any _ _).mono ?_; rintro e w' ⟨rfl, h'⟩; subst w')
   go_ret
   exact ⟨cret_bool HE.out.symm, (Below.refl _ _).alloc (Nat.le_refl _) _⟩
def inB (x f t : Int) : Bool := decide (f ≤ x) && decide (x ≤ t)
def shD (K : Int) : Int := if K = 1 then 7 else if K = 2 then 14 else if K = 3 then 15 else 31
def shP (K : Int) : Int := if K = 3 then 2 else if K = 4 then 1 else 0
set_option maxRecDepth 100000 in
set_option maxHeartbeats 1000000 in
theorem shapeOf_any (K : Int) (w : World) (h1 : 1 ≤ K) (h2 : K ≤ 4) : Calls Tryz.prog 159 #[.int .i64 K] w fun e w' => e = .returned (.agg #[.int .i64 (shD K), .int .i64 (shP K)]) ∧ Below w.heap.size w w' := by
 have hK : K = 1 ∨ K = 2 ∨ K = 3 ∨ K = 4 := by omega
 clear h1 h2
 rcases hK with rfl | rfl | rfl | rfl
 ·go_enter Tryz.func159, Tryz.ntmps159
  go_wp2_with fail
  refine bodyPost_ret (v := .agg #[.int .i64 7, .int .i64 0]) (by simp [results, Tryz.results159, go_sem] <;> rfl) rfl ⟨rfl, ((Below.refl _ _).alloc (Nat.le_refl _) _).alloc (by simp) _⟩
 ·go_enter Tryz.func159, Tryz.ntmps159
  go_wp2_with fail
  refine bodyPost_ret (v := .agg #[.int .i64 14, .int .i64 0]) (by simp [results, Tryz.results159, go_sem] <;> rfl) rfl ⟨rfl, ((Below.refl _ _).alloc (Nat.le_refl _) _).alloc (by simp) _⟩
 ·go_enter Tryz.func159, Tryz.ntmps159
  go_wp2_with fail
  refine bodyPost_ret (v := .agg #[.int .i64 15, .int .i64 2]) (by simp [results, Tryz.results159, go_sem] <;> rfl) rfl ⟨rfl, ((Below.refl _ _).alloc (Nat.le_refl _) _).alloc (by simp) _⟩
 ·go_enter Tryz.func159, Tryz.ntmps159
  go_wp2_with fail
  refine bodyPost_ret (v := .agg #[.int .i64 31, .int .i64 1]) (by simp [results, Tryz.results159, go_sem] <;> rfl) rfl ⟨rfl, ((Below.refl _ _).alloc (Nat.le_refl _) _).alloc (by simp) _⟩
end Go.Proofs.YtkalfdjmklakdaaGreatDoor.Cal
namespace Go.Proofs.YtkalfdjmklakdaaGreatDoor.Cal
open Go.RowKit
theorem rlt {W : World} {p : Addr} {v : Value} (h : W.cell? p = some v) : p.block < W.heap.size := lt_of_cell h
theorem civil_first : IsCivil 0 0 1 1 := ⟨by omega, by omega, by omega, by omega, by decide, by decide⟩
theorem civil_last : IsCivil 30 0 1 31 := ⟨by omega, by omega, by omega, by omega, by decide, by decide⟩
theorem mon_from {x : Int} {d : Int} (hc : IsCivil x 0 1 d) {n r e : Int} (h0 : 0 ≤ n) (h : MonE x n r e) : (2400 ≤ n ∧ r = 0 ∧ e = 3) ∨ (n < 2400 ∧ r = mDay n d ∧ e = 0) := by
 rcases h with ⟨a, b, c⟩ | ⟨_, _, k, m, d', hc', hr⟩
 ·left
  refine ⟨?_, b, c⟩
  rcases a with a | a | a
  ·rw [civil_dayB hc] at a; cases a
  ·omega
  ·omega
 ·obtain ⟨rfl, rfl, rfl⟩ := hc'.unique hc
  have e1 : mIdx 0 1 n = n := by unfold mIdx; omega
  rw [e1] at hr
  rcases hr with ⟨p, q, s⟩ | ⟨p, p', q, s⟩
  ·left; exact ⟨by omega, q, s⟩
  ·right; exact ⟨p', q, s⟩
theorem mDay_bd {M d : Int} (h0 : 0 ≤ M) (h1 : M < 2400) (hd : 1 ≤ d) : 0 ≤ mDay M d ∧ mDay M d ≤ 73048 := by
 have := (civil_of_date (mDay_date h0 h1 hd)).day
 exact this
def hf (d : Int) : Int := if 16 ≤ d then 1 else 0
def MonP (M f t e : Int) : Prop := (2400 ≤ M ∧ f = 0 ∧ t = 0 ∧ e = 3) ∨ (M < 2400 ∧ f = mDay M 1 ∧ t = mDay M 31 ∧ e = 0)
def HalfP (N f t e : Int) : Prop := (4800 ≤ N ∧ f = 0 ∧ t = 0 ∧ e = 3) ∨ (N < 4800 ∧ N % 2 = 0 ∧ f = mDay (N / 2) 1 ∧ t = mDay (N / 2) 1 + 14 ∧ e = 0) ∨ (N < 4800 ∧ N % 2 = 1 ∧ f = mDay (N / 2) 1 + 15 ∧ t = mDay (N / 2) 31 ∧ e = 0)
set_option maxRecDepth 100000 in
set_option maxHeartbeats 1000000 in
theorem countHalf (x : Int) (w : World) (hx : dayB x = true) : Calls Tryz.prog 161 #[.agg #[.int .i64 15, .int .i64 2], .int .i64 x] w fun e w' => ∃ (k m : Nat) (d : Int), e = .returned (.int .i64 ((12 * (k : Int) + (m : Int) - 1) * 2 + hf d)) ∧ IsCivil x k m d ∧ Below w.heap.size w w' := by
 have HB0 := Lib.hid ((Below.refl w.heap.size w).alloc (Nat.le_refl _) (.cells #[.int .i64 15, .int .i64 2] 181))
 go_enter Tryz.func161, Tryz.ntmps161
 go_wp2_with fail
 refine (Civil_ok x _ hx).mono ?_
 rintro e w1 ⟨k, m, d, rfl, hc, hb1⟩
 have HC := Lib.hid hc
 have hk := hc.k1
 have hm1 := hc.m1
 have hm2 := hc.m2
 have hd1 := hc.d1
 have hd31 : d ≤ 31 := by have := hc.d2; have := md_bd (2000 + (k : Int)) m; omega
 have hs1 : (2000 + (k : Int) - 2000) = (k : Int) := by omega
 have HB1 := Lib.hid ((HB0.out.trans (hb1.mono HB0.out.size)).alloc (Nat.le_trans HB0.out.size hb1.size) (.cells #[.int .i64 (2000 + (k : Int)), .int .i64 (m : Int), .int .i64 d] 144))
 have x0 : w1.cell? ⟨w.heap.size, 0, none⟩ = some (.int .i64 15) := (hb1.cell (p := ⟨w.heap.size, 0, none⟩) (by simp)).trans (by simp)
 have x1 : w1.cell? ⟨w.heap.size, 1, none⟩ = some (.int .i64 2) := (hb1.cell (p := ⟨w.heap.size, 1, none⟩) (by simp)).trans (by simp)
 have hlt : w.heap.size < w1.heap.size := rlt x0
 clear hb1 hc
 have hq2 : (d - 1) / 15 ≤ 2 := by omega
 have hq0 : 0 ≤ (d - 1) / 15 := by omega
 have hw1 : IntKind.i64.wrap ((d - 1) / 15) = (d - 1) / 15 := by rw [IntKind.wrap_i64]; omega
 have HH : Hid (hf d = if 16 ≤ d then 1 else 0) := rfl
 go_wp2_with fail
 go_quiet (fail)
 go_wp2_with fail
 all_goals go_ret
 all_goals exact ⟨k, m, d, cret_int (by try rw [HH.out]
                                        try split
                                        all_goals omega), HC.out, below_dN HB1.out _⟩
set_option maxRecDepth 100000 in
set_option maxHeartbeats 1000000 in
theorem countMonth (x : Int) (w : World) (hx : dayB x = true) : Calls Tryz.prog 161 #[.agg #[.int .i64 31, .int .i64 1], .int .i64 x] w fun e w' => ∃ (k m : Nat) (d : Int), e = .returned (.int .i64 (12 * (k : Int) + (m : Int) - 1)) ∧ IsCivil x k m d ∧ Below w.heap.size w w' := by
 have HB0 := Lib.hid ((Below.refl w.heap.size w).alloc (Nat.le_refl _) (.cells #[.int .i64 31, .int .i64 1] 181))
 go_enter Tryz.func161, Tryz.ntmps161
 go_wp2_with fail
 refine (Civil_ok x _ hx).mono ?_
 rintro e w1 ⟨k, m, d, rfl, hc, hb1⟩
 have HC := Lib.hid hc
 have hk := hc.k1
 have hm1 := hc.m1
 have hm2 := hc.m2
 have hd1 := hc.d1
 have hd31 : d ≤ 31 := by have := hc.d2; have := md_bd (2000 + (k : Int)) m; omega
 have hs1 : (2000 + (k : Int) - 2000) = (k : Int) := by omega
 have HB1 := Lib.hid ((HB0.out.trans (hb1.mono HB0.out.size)).alloc (Nat.le_trans HB0.out.size hb1.size) (.cells #[.int .i64 (2000 + (k : Int)), .int .i64 (m : Int), .int .i64 d] 144))
 have x0 : w1.cell? ⟨w.heap.size, 0, none⟩ = some (.int .i64 31) := (hb1.cell (p := ⟨w.heap.size, 0, none⟩) (by simp)).trans (by simp)
 have x1 : w1.cell? ⟨w.heap.size, 1, none⟩ = some (.int .i64 1) := (hb1.cell (p := ⟨w.heap.size, 1, none⟩) (by simp)).trans (by simp)
 have hlt : w.heap.size < w1.heap.size := rlt x0
 clear hb1 hc
 have hq2 : (d - 1) / 31 ≤ 2 := by omega
 have hq0 : 0 ≤ (d - 1) / 31 := by omega
 have hw1 : IntKind.i64.wrap ((d - 1) / 31) = (d - 1) / 31 := by rw [IntKind.wrap_i64]; omega
 have HH : Hid (hf d = if 16 ≤ d then 1 else 0) := rfl
 go_wp2_with fail
 go_quiet (fail)
 go_wp2_with fail
 all_goals go_ret
 all_goals exact ⟨k, m, d, cret_int (by try rw [HH.out]
                                        try split
                                        all_goals omega), HC.out, below_dN HB1.out _⟩
def SBox (w : World) (b : Nat) (D P : Int) : Prop := w.cell? ⟨b, 0, none⟩ = some (.int .i64 D) ∧ w.cell? ⟨b, 1, none⟩ = some (.int .i64 P) ∧ (∃ u, w.cell? ⟨b + 1, 0, none⟩ = some u) ∧ (∃ u, w.cell? ⟨b + 1, 1, none⟩ = some u) ∧ w.frozen? ⟨b + 1, 0, none⟩ = false ∧ w.frozen? ⟨b + 1, 1, none⟩ = false ∧ b + 1 < w.heap.size
theorem SBox.made (w : World) (D P : Int) (T U : TypeId) : SBox ((w.alloc (.cells #[.int .i64 D, .int .i64 P] T)).alloc (.cells #[.int .i64 0, .int .i64 0] U)) w.heap.size D P := by
 refine ⟨?_, ?_, ⟨.int .i64 0, ?_⟩, ⟨.int .i64 0, ?_⟩, ?_, ?_, ?_⟩ <;> simp
theorem SBox.below {w w' : World} {b : Nat} {D P : Int} (h : SBox w b D P) (hb : Below w.heap.size w w') : SBox w' b D P := by
 obtain ⟨a0, a1, ⟨u, hu⟩, ⟨v, hv⟩, f0, f1, hl⟩ := h
 exact ⟨(hb.cell (p := ⟨b, 0, none⟩) (by simp; omega)).trans a0, (hb.cell (p := ⟨b, 1, none⟩) (by simp; omega)).trans a1, ⟨u, (hb.cell (p := ⟨b + 1, 0, none⟩) hl).trans hu⟩, ⟨v, (hb.cell (p := ⟨b + 1, 1, none⟩) hl).trans hv⟩, (hb.frozen (p := ⟨b + 1, 0, none⟩) hl).trans f0, (hb.frozen (p := ⟨b + 1, 1, none⟩) hl).trans f1, Nat.lt_of_lt_of_le hl hb.size⟩
theorem SBox.drewN {w : World} {b : Nat} {D P : Int} (h : SBox w b D P) (k : Nat) : SBox (w.drewN k) b D P := h
theorem put2 {w : World} {g : Nat} {u v : Value} (hu : w.cell? ⟨g, 0, none⟩ = some u) (hv : w.cell? ⟨g, 1, none⟩ = some v) (x y : Value) : ((w.setCell ⟨g, 0, none⟩ x).setCell ⟨g, 1, none⟩ y).cell? ⟨g, 0, none⟩ = some x ∧ ((w.setCell ⟨g, 0, none⟩ x).setCell ⟨g, 1, none⟩ y).cell? ⟨g, 1, none⟩ = some y := by
 have n01 : (⟨g, 0, none⟩ : Addr) ≠ ⟨g, 1, none⟩ := by simp
 constructor
 ·rw [World.cell?_setCell_other (h := n01.symm)]
  exact World.cell?_setCell_same _ _ _ hu
 ·exact World.cell?_setCell_same _ _ _ ((World.cell?_setCell_other _ _ _ _ n01).trans hv)
theorem put2_below {B : Nat} {a w : World} (h : Below B a w) {g : Nat} (hg : B ≤ g) (x y : Value) : Below B a ((w.setCell ⟨g, 0, none⟩ x).setCell ⟨g, 1, none⟩ y) := (h.setCell (p := ⟨g, 0, none⟩) hg x).setCell (p := ⟨g, 1, none⟩) hg y
theorem put2_alloc {w : World} {g : Nat} {u v : Value} (hu : w.cell? ⟨g, 0, none⟩ = some u) (hv : w.cell? ⟨g, 1, none⟩ = some v) (x y : Value) (o : Obj) : (((w.setCell ⟨g, 0, none⟩ x).setCell ⟨g, 1, none⟩ y).alloc o).cell? ⟨g, 0, none⟩ = some x ∧ (((w.setCell ⟨g, 0, none⟩ x).setCell ⟨g, 1, none⟩ y).alloc o).cell? ⟨g, 1, none⟩ = some y := by
 obtain ⟨h0, h1⟩ := put2 hu hv x y
 have hg := rlt h0
 rw [World.cell?_alloc_past (w := (w.setCell ⟨g, 0, none⟩ x).setCell ⟨g, 1, none⟩ y) o g 0 hg, World.cell?_alloc_past (w := (w.setCell ⟨g, 0, none⟩ x).setCell ⟨g, 1, none⟩ y) o g 1 hg]
 exact ⟨h0, h1⟩
set_option maxRecDepth 100000 in
set_option maxHeartbeats 1000000 in
theorem ofMonth (M : Int) (w : World) (h0 : 0 ≤ M) (h1 : M ≤ 100000) : Calls Tryz.prog 160 #[.agg #[.int .i64 31, .int .i64 1], .int .i64 M] w fun e w' => ∃ f t er : Int, e = .returned (.tuple #[.agg #[.int .i64 f, .int .i64 t], .int .i64 er]) ∧ MonP M f t er ∧ Below w.heap.size w w' := by
 have HB0 := Lib.hid (((Below.refl w.heap.size w).alloc (Nat.le_refl _) (.cells #[.int .i64 31, .int .i64 1] 181)).alloc (by simp) (.cells #[.int .i64 0, .int .i64 0] 41))
 have HS0 := Lib.hid (SBox.made w 31 1 181 41)
 have hm0 : 0 ≤ M := by omega
 go_enter Tryz.func160, Tryz.ntmps160
 go_wp2_with fail
 go_quiet (fail)
 go_wp2_with fail
 refine (Months_any 0 (M) _).mono ?_
 rintro e w1 ⟨r1, e1, rfl, hE1, hb1⟩
 have HB1 := Lib.hid ((below_dN HB0.out _).trans (hb1.mono (below_dN HB0.out _).size))
 have HS1 := Lib.hid ((HS0.out.drewN _).below hb1)
 clear hb1
 obtain ⟨x0, x1, ⟨u, hu⟩, ⟨v, hv⟩, f0, f1, hl⟩ := HS1.out
 rcases mon_from civil_first hm0 hE1 with ⟨hM, rfl, rfl⟩ | ⟨hM, rfl, rfl⟩
 ·obtain ⟨t0, t1⟩ := put2 hu hv (.int .i64 0) (.int .i64 0)
  have HX := Lib.hid (put2_below HB1.out (g := w.heap.size + 1) (by omega) (.int .i64 0) (.int .i64 0))
  go_wp2_with fail
  refine bodyPost_ret (v := .tuple #[.agg #[.int .i64 0, .int .i64 0], .int .i64 3]) (by simp [results, Tryz.results160, go_sem, t0, t1] <;> rfl) rfl ⟨0, 0, 3, rfl, .inl ⟨by omega, rfl, rfl, rfl⟩, HX.out⟩
 ·go_wp2_with fail
  refine (Months_any 30 (M) _).mono ?_
  rintro e w2 ⟨r2, e2, rfl, hE2, hb2⟩
  have HB2 := Lib.hid (HB1.out.trans (hb2.mono HB1.out.size))
  have HS2 := Lib.hid (HS1.out.below hb2)
  clear hb2 x0 x1 hu hv f0 f1 hl u v
  obtain ⟨rfl, rfl⟩ : r2 = mDay (M) 31 ∧ e2 = 0 := by
   rcases mon_from civil_last hm0 hE2 with ⟨h, _, _⟩ | ⟨_, h, h'⟩
   ·omega
   ·exact ⟨h, h'⟩
  have hb1' := mDay_bd (d := 1) hm0 hM (by omega)
  have hb2' := mDay_bd (d := 31) hm0 hM (by omega)
  have HP : Hid (MonP M (mDay M 1) (mDay M 31) 0) := .inr ⟨hM, rfl, rfl, rfl⟩
  generalize mDay (M) 1 = F at *
  generalize mDay (M) 31 = T at *
  obtain ⟨x0, x1, ⟨u, hu⟩, ⟨v, hv⟩, f0, f1, hl⟩ := HS2.out
  have HT := Lib.hid (fun x y o => put2_alloc hu hv x y o)
  have hX := fun x y => put2_below HB2.out (g := w.heap.size + 1) (by omega) x y
  have HX := Lib.hid (fun x y o => (hX x y).alloc (hX x y).size o)
  clear hX
  have hl0 : w.heap.size < w2.heap.size := by omega
  go_wp2_with fail
  refine bodyPost_ret (v := .tuple #[.agg #[.int .i64 F, .int .i64 T], .int .i64 0]) (by simp [results, Tryz.results160, go_sem, (HT.out _ _ _).1, (HT.out _ _ _).2] <;> rfl) rfl ⟨_, _, 0, rfl, HP.out, HX.out _ _ _⟩
set_option maxRecDepth 100000 in
set_option maxHeartbeats 1000000 in
theorem ofHalf0 (N : Int) (w : World) (h0 : 0 ≤ N) (h1 : N ≤ 100000)(hp : N % 2 = 0) : Calls Tryz.prog 160 #[.agg #[.int .i64 15, .int .i64 2], .int .i64 N] w fun e w' => ∃ f t er : Int, e = .returned (.tuple #[.agg #[.int .i64 f, .int .i64 t], .int .i64 er]) ∧ HalfP N f t er ∧ Below w.heap.size w w' := by
 have HB0 := Lib.hid (((Below.refl w.heap.size w).alloc (Nat.le_refl _) (.cells #[.int .i64 15, .int .i64 2] 181)).alloc (by simp) (.cells #[.int .i64 0, .int .i64 0] 41))
 have HS0 := Lib.hid (SBox.made w 15 2 181 41)
 have hm0 : 0 ≤ N / 2 := by omega
 go_enter Tryz.func160, Tryz.ntmps160
 go_wp2_with fail
 go_quiet (fail)
 go_wp2_with fail
 refine (Months_any 0 (N / 2) _).mono ?_
 rintro e w1 ⟨r1, e1, rfl, hE1, hb1⟩
 have HB1 := Lib.hid ((below_dN HB0.out _).trans (hb1.mono (below_dN HB0.out _).size))
 have HS1 := Lib.hid ((HS0.out.drewN _).below hb1)
 clear hb1
 obtain ⟨x0, x1, ⟨u, hu⟩, ⟨v, hv⟩, f0, f1, hl⟩ := HS1.out
 rcases mon_from civil_first hm0 hE1 with ⟨hM, rfl, rfl⟩ | ⟨hM, rfl, rfl⟩
 ·obtain ⟨t0, t1⟩ := put2 hu hv (.int .i64 0) (.int .i64 0)
  have HX := Lib.hid (put2_below HB1.out (g := w.heap.size + 1) (by omega) (.int .i64 0) (.int .i64 0))
  go_wp2_with fail
  refine bodyPost_ret (v := .tuple #[.agg #[.int .i64 0, .int .i64 0], .int .i64 3]) (by simp [results, Tryz.results160, go_sem, t0, t1] <;> rfl) rfl ⟨0, 0, 3, rfl, .inl ⟨by omega, rfl, rfl, rfl⟩, HX.out⟩
 ·go_wp2_with fail
  refine (Months_any 30 (N / 2) _).mono ?_
  rintro e w2 ⟨r2, e2, rfl, hE2, hb2⟩
  have HB2 := Lib.hid (HB1.out.trans (hb2.mono HB1.out.size))
  have HS2 := Lib.hid (HS1.out.below hb2)
  clear hb2 x0 x1 hu hv f0 f1 hl u v
  obtain ⟨rfl, rfl⟩ : r2 = mDay (N / 2) 31 ∧ e2 = 0 := by
   rcases mon_from civil_last hm0 hE2 with ⟨h, _, _⟩ | ⟨_, h, h'⟩
   ·omega
   ·exact ⟨h, h'⟩
  have hb1' := mDay_bd (d := 1) hm0 hM (by omega)
  have hb2' := mDay_bd (d := 31) hm0 hM (by omega)
  have HP : Hid (HalfP N (mDay (N / 2) 1) (mDay (N / 2) 1 + 15 - 1) 0) := .inr (.inl ⟨by omega, hp, rfl, by omega, rfl⟩)
  generalize mDay (N / 2) 1 = F at *
  generalize mDay (N / 2) 31 = T at *
  obtain ⟨x0, x1, ⟨u, hu⟩, ⟨v, hv⟩, f0, f1, hl⟩ := HS2.out
  have HT := Lib.hid (fun x y o => put2_alloc hu hv x y o)
  have hX := fun x y => put2_below HB2.out (g := w.heap.size + 1) (by omega) x y
  have HX := Lib.hid (fun x y o => (hX x y).alloc (hX x y).size o)
  clear hX
  have hl0 : w.heap.size < w2.heap.size := by omega
  go_wp2_with fail
  refine bodyPost_ret (v := .tuple #[.agg #[.int .i64 F, .int .i64 (F + 15 - 1)], .int .i64 0]) (by simp [results, Tryz.results160, go_sem, (HT.out _ _ _).1, (HT.out _ _ _).2] <;> rfl) rfl ⟨_, _, 0, rfl, HP.out, HX.out _ _ _⟩
set_option maxRecDepth 100000 in
set_option maxHeartbeats 1000000 in
theorem ofHalf1 (N : Int) (w : World) (h0 : 0 ≤ N) (h1 : N ≤ 100000)(hp : N % 2 = 1) : Calls Tryz.prog 160 #[.agg #[.int .i64 15, .int .i64 2], .int .i64 N] w fun e w' => ∃ f t er : Int, e = .returned (.tuple #[.agg #[.int .i64 f, .int .i64 t], .int .i64 er]) ∧ HalfP N f t er ∧ Below w.heap.size w w' := by
 have HB0 := Lib.hid (((Below.refl w.heap.size w).alloc (Nat.le_refl _) (.cells #[.int .i64 15, .int .i64 2] 181)).alloc (by simp) (.cells #[.int .i64 0, .int .i64 0] 41))
 have HS0 := Lib.hid (SBox.made w 15 2 181 41)
 have hm0 : 0 ≤ N / 2 := by omega
 go_enter Tryz.func160, Tryz.ntmps160
 go_wp2_with fail
 go_quiet (fail)
 go_wp2_with fail
 refine (Months_any 0 (N / 2) _).mono ?_
 rintro e w1 ⟨r1, e1, rfl, hE1, hb1⟩
 have HB1 := Lib.hid ((below_dN HB0.out _).trans (hb1.mono (below_dN HB0.out _).size))
 have HS1 := Lib.hid ((HS0.out.drewN _).below hb1)
 clear hb1
 obtain ⟨x0, x1, ⟨u, hu⟩, ⟨v, hv⟩, f0, f1, hl⟩ := HS1.out
 rcases mon_from civil_first hm0 hE1 with ⟨hM, rfl, rfl⟩ | ⟨hM, rfl, rfl⟩
 ·obtain ⟨t0, t1⟩ := put2 hu hv (.int .i64 0) (.int .i64 0)
  have HX := Lib.hid (put2_below HB1.out (g := w.heap.size + 1) (by omega) (.int .i64 0) (.int .i64 0))
  go_wp2_with fail
  refine bodyPost_ret (v := .tuple #[.agg #[.int .i64 0, .int .i64 0], .int .i64 3]) (by simp [results, Tryz.results160, go_sem, t0, t1] <;> rfl) rfl ⟨0, 0, 3, rfl, .inl ⟨by omega, rfl, rfl, rfl⟩, HX.out⟩
 ·go_wp2_with fail
  refine (Months_any 30 (N / 2) _).mono ?_
  rintro e w2 ⟨r2, e2, rfl, hE2, hb2⟩
  have HB2 := Lib.hid (HB1.out.trans (hb2.mono HB1.out.size))
  have HS2 := Lib.hid (HS1.out.below hb2)
  clear hb2 x0 x1 hu hv f0 f1 hl u v
  obtain ⟨rfl, rfl⟩ : r2 = mDay (N / 2) 31 ∧ e2 = 0 := by
   rcases mon_from civil_last hm0 hE2 with ⟨h, _, _⟩ | ⟨_, h, h'⟩
   ·omega
   ·exact ⟨h, h'⟩
  have hb1' := mDay_bd (d := 1) hm0 hM (by omega)
  have hb2' := mDay_bd (d := 31) hm0 hM (by omega)
  have HP : Hid (HalfP N (mDay (N / 2) 1 + 15) (mDay (N / 2) 31) 0) := .inr (.inr ⟨by omega, hp, rfl, rfl, rfl⟩)
  generalize mDay (N / 2) 1 = F at *
  generalize mDay (N / 2) 31 = T at *
  obtain ⟨x0, x1, ⟨u, hu⟩, ⟨v, hv⟩, f0, f1, hl⟩ := HS2.out
  have HT := Lib.hid (fun x y o => put2_alloc hu hv x y o)
  have hX := fun x y => put2_below HB2.out (g := w.heap.size + 1) (by omega) x y
  have HX := Lib.hid (fun x y o => (hX x y).alloc (hX x y).size o)
  clear hX
  have hl0 : w.heap.size < w2.heap.size := by omega
  go_wp2_with fail
  refine bodyPost_ret (v := .tuple #[.agg #[.int .i64 (F + 15), .int .i64 T], .int .i64 0]) (by simp [results, Tryz.results160, go_sem, (HT.out _ _ _).1, (HT.out _ _ _).2] <;> rfl) rfl ⟨_, _, 0, rfl, HP.out, HX.out _ _ _⟩
def WeekP (n A k f t e : Int) : Prop := (73048 < A + n * k + n - 1 ∧ f = 0 ∧ t = 0 ∧ e = 3) ∨ (A + n * k + n - 1 ≤ 73048 ∧ f = A + n * k ∧ t = A + n * k + n - 1 ∧ e = 0)
theorem third_cell (w : World) (o1 o2 : Obj) (cs : Array Value) (T : TypeId) (j : Nat) (v : Value) (h : cs[j]? = some v) : (((w.alloc o1).alloc o2).alloc (.cells cs T)).cell? ⟨w.heap.size + 1 + 1, j, none⟩ = some v := by
 have e : w.heap.size + 1 + 1 = ((w.alloc o1).alloc o2).heap.size := by simp
 rw [e, World.cell?_alloc_at (w := (w.alloc o1).alloc o2) _ _ _ _ rfl]
 exact h
set_option maxRecDepth 100000 in
set_option maxHeartbeats 1000000 in
theorem ofWeek (A k : Int) (w : World) (h0 : 0 ≤ A) (h1 : A ≤ 73048) (hk0 : 0 ≤ k) (hk1 : k ≤ 5000) : Calls Tryz.prog 162 #[.agg #[.int .i64 7, .int .i64 0], .int .i64 A, .int .i64 k] w fun e w' => ∃ f t er : Int, e = .returned (.tuple #[.agg #[.int .i64 f, .int .i64 t], .int .i64 er]) ∧ WeekP 7 A k f t er ∧ Below w.heap.size w w' := by
 have HB0 := Lib.hid (((Below.refl w.heap.size w).alloc (Nat.le_refl _) (.cells #[.int .i64 7, .int .i64 0] 181)).alloc (by simp) (.cells #[.int .i64 0, .int .i64 0] 41))
 have HS0 := Lib.hid (SBox.made w 7 0 181 41)
 have HB1 := Lib.hid (HB0.out.alloc HB0.out.size (.cells #[.int .i64 (A + k * 7), .int .i64 (A + k * 7 + 7 - 1)] 41))
 have HS1 := Lib.hid (HS0.out.below ((Below.refl _ _).alloc (Nat.le_refl _) (.cells #[.int .i64 (A + k * 7), .int .i64 (A + k * 7 + 7 - 1)] 41)))
 go_enter Tryz.func162, Tryz.ntmps162
 go_wp2_with fail
 refine (hasDays_any (A + k * 7) (A + k * 7 + 7 - 1) _).mono ?_
 rintro e w1 ⟨rfl, hb1⟩
 have HB2 := Lib.hid (HB1.out.trans (hb1.mono HB1.out.size))
 have HS2 := Lib.hid (HS1.out.below hb1)
 have y0 : w1.cell? ⟨w.heap.size + 1 + 1, 0, none⟩ = some (.int .i64 (A + k * 7)) := (hb1.cell (p := ⟨w.heap.size + 1 + 1, 0, none⟩) (by simp)).trans (third_cell w _ _ _ _ 0 _ rfl)
 have y1 : w1.cell? ⟨w.heap.size + 1 + 1, 1, none⟩ = some (.int .i64 (A + k * 7 + 7 - 1)) := (hb1.cell (p := ⟨w.heap.size + 1 + 1, 1, none⟩) (by simp)).trans (third_cell w _ _ _ _ 1 _ rfl)
 clear hb1
 obtain ⟨x0, x1, ⟨u, hu⟩, ⟨v, hv⟩, f0, f1, hl⟩ := HS2.out
 cases hp : perB (A + k * 7) (A + k * 7 + 7 - 1)
 ·have hbad : 73048 < A + 7 * k + 7 - 1 := by
   have : ¬ (0 ≤ A + k * 7 ∧ A + k * 7 ≤ A + k * 7 + 7 - 1 ∧ A + k * 7 + 7 - 1 ≤ 73048) := fun h => by rw [perB_iff.2 h] at hp; cases hp
   omega
  obtain ⟨t0, t1⟩ := put2 hu hv (.int .i64 0) (.int .i64 0)
  have HX := Lib.hid (put2_below HB2.out (g := w.heap.size + 1) (by omega) (.int .i64 0) (.int .i64 0))
  go_wp2_with fail
  refine bodyPost_ret (v := .tuple #[.agg #[.int .i64 0, .int .i64 0], .int .i64 3]) (by simp [results, Tryz.results162, go_sem, t0, t1] <;> rfl) rfl ⟨0, 0, 3, rfl, .inl ⟨hbad, rfl, rfl, rfl⟩, HX.out⟩
 ·obtain ⟨_, _, hok⟩ := perB_iff.1 hp
  have HP : Hid (WeekP 7 A k (A + k * 7) (A + k * 7 + 7 - 1) 0) := .inr ⟨by omega, by omega, by omega, rfl⟩
  obtain ⟨t0, t1⟩ := put2 hu hv (.int .i64 (A + k * 7)) (.int .i64 (A + k * 7 + 7 - 1))
  have HX := Lib.hid (put2_below HB2.out (g := w.heap.size + 1) (by omega) (.int .i64 (A + k * 7)) (.int .i64 (A + k * 7 + 7 - 1)))
  go_wp2_with fail
  refine bodyPost_ret (v := .tuple #[.agg #[.int .i64 (A + k * 7), .int .i64 (A + k * 7 + 7 - 1)], .int .i64 0]) (by simp [results, Tryz.results162, go_sem, t0, t1] <;> rfl) rfl ⟨_, _, 0, rfl, HP.out, HX.out⟩
set_option maxRecDepth 100000 in
set_option maxHeartbeats 1000000 in
theorem ofTwo (A k : Int) (w : World) (h0 : 0 ≤ A) (h1 : A ≤ 73048) (hk0 : 0 ≤ k) (hk1 : k ≤ 5000) : Calls Tryz.prog 162 #[.agg #[.int .i64 14, .int .i64 0], .int .i64 A, .int .i64 k] w fun e w' => ∃ f t er : Int, e = .returned (.tuple #[.agg #[.int .i64 f, .int .i64 t], .int .i64 er]) ∧ WeekP 14 A k f t er ∧ Below w.heap.size w w' := by
 have HB0 := Lib.hid (((Below.refl w.heap.size w).alloc (Nat.le_refl _) (.cells #[.int .i64 14, .int .i64 0] 181)).alloc (by simp) (.cells #[.int .i64 0, .int .i64 0] 41))
 have HS0 := Lib.hid (SBox.made w 14 0 181 41)
 have HB1 := Lib.hid (HB0.out.alloc HB0.out.size (.cells #[.int .i64 (A + k * 14), .int .i64 (A + k * 14 + 14 - 1)] 41))
 have HS1 := Lib.hid (HS0.out.below ((Below.refl _ _).alloc (Nat.le_refl _) (.cells #[.int .i64 (A + k * 14), .int .i64 (A + k * 14 + 14 - 1)] 41)))
 go_enter Tryz.func162, Tryz.ntmps162
 go_wp2_with fail
 refine (hasDays_any (A + k * 14) (A + k * 14 + 14 - 1) _).mono ?_
 rintro e w1 ⟨rfl, hb1⟩
 have HB2 := Lib.hid (HB1.out.trans (hb1.mono HB1.out.size))
 have HS2 := Lib.hid (HS1.out.below hb1)
 have y0 : w1.cell? ⟨w.heap.size + 1 + 1, 0, none⟩ = some (.int .i64 (A + k * 14)) := (hb1.cell (p := ⟨w.heap.size + 1 + 1, 0, none⟩) (by simp)).trans (third_cell w _ _ _ _ 0 _ rfl)
 have y1 : w1.cell? ⟨w.heap.size + 1 + 1, 1, none⟩ = some (.int .i64 (A + k * 14 + 14 - 1)) := (hb1.cell (p := ⟨w.heap.size + 1 + 1, 1, none⟩) (by simp)).trans (third_cell w _ _ _ _ 1 _ rfl)
 clear hb1
 obtain ⟨x0, x1, ⟨u, hu⟩, ⟨v, hv⟩, f0, f1, hl⟩ := HS2.out
 cases hp : perB (A + k * 14) (A + k * 14 + 14 - 1)
 ·have hbad : 73048 < A + 14 * k + 14 - 1 := by
   have : ¬ (0 ≤ A + k * 14 ∧ A + k * 14 ≤ A + k * 14 + 14 - 1 ∧ A + k * 14 + 14 - 1 ≤ 73048) := fun h => by rw [perB_iff.2 h] at hp; cases hp
   omega
  obtain ⟨t0, t1⟩ := put2 hu hv (.int .i64 0) (.int .i64 0)
  have HX := Lib.hid (put2_below HB2.out (g := w.heap.size + 1) (by omega) (.int .i64 0) (.int .i64 0))
  go_wp2_with fail
  refine bodyPost_ret (v := .tuple #[.agg #[.int .i64 0, .int .i64 0], .int .i64 3]) (by simp [results, Tryz.results162, go_sem, t0, t1] <;> rfl) rfl ⟨0, 0, 3, rfl, .inl ⟨hbad, rfl, rfl, rfl⟩, HX.out⟩
 ·obtain ⟨_, _, hok⟩ := perB_iff.1 hp
  have HP : Hid (WeekP 14 A k (A + k * 14) (A + k * 14 + 14 - 1) 0) := .inr ⟨by omega, by omega, by omega, rfl⟩
  obtain ⟨t0, t1⟩ := put2 hu hv (.int .i64 (A + k * 14)) (.int .i64 (A + k * 14 + 14 - 1))
  have HX := Lib.hid (put2_below HB2.out (g := w.heap.size + 1) (by omega) (.int .i64 (A + k * 14)) (.int .i64 (A + k * 14 + 14 - 1)))
  go_wp2_with fail
  refine bodyPost_ret (v := .tuple #[.agg #[.int .i64 (A + k * 14), .int .i64 (A + k * 14 + 14 - 1)], .int .i64 0]) (by simp [results, Tryz.results162, go_sem, t0, t1] <;> rfl) rfl ⟨_, _, 0, rfl, HP.out, HX.out⟩
end Go.Proofs.YtkalfdjmklakdaaGreatDoor.Cal
namespace Go.Proofs.YtkalfdjmklakdaaGreatDoor.Cal
open Go.RowKit
def PerIs (K A k f t e : Int) : Prop := ((K = 1 ∨ K = 2) ∧ WeekP (7 * K) A k f t e) ∨ (K = 4 ∧ ∃ (k0 m0 : Nat) (d0 : Int), IsCivil A k0 m0 d0 ∧ MonP (12 * (k0 : Int) + (m0 : Int) - 1 + k) f t e) ∨ (K = 3 ∧ ∃ (k0 m0 : Nat) (d0 : Int), IsCivil A k0 m0 d0 ∧ HalfP ((12 * (k0 : Int) + (m0 : Int) - 1) * 2 + hf d0 + k) f t e)
def AtIs (K A L k f t e : Int) : Prop := (schedE K A L ≠ 0 ∧ f = 0 ∧ t = 0 ∧ e = schedE K A L) ∨ (schedE K A L = 0 ∧ ((k < 0 ∨ 5000 ≤ k) ∧ f = 0 ∧ t = 0 ∧ e = 3 ∨ (0 ≤ k ∧ k < 5000) ∧ PerIs K A k f t e))
theorem ofHalf (N : Int) (w : World) (h0 : 0 ≤ N) (h1 : N ≤ 100000) : Calls Tryz.prog 160 #[.agg #[.int .i64 15, .int .i64 2], .int .i64 N] w fun e w' => ∃ f t er : Int, e = .returned (.tuple #[.agg #[.int .i64 f, .int .i64 t], .int .i64 er]) ∧ HalfP N f t er ∧ Below w.heap.size w w' := by
 rcases (show N % 2 = 0 ∨ N % 2 = 1 by omega) with h | h
 ·exact ofHalf0 N w h0 h1 h
 ·exact ofHalf1 N w h0 h1 h
theorem hf_bd (d : Int) : 0 ≤ hf d ∧ hf d ≤ 1 := by unfold hf; split <;> omega
def QBox (w : World) (b : Nat) (K A L : Int) : Prop := w.cell? ⟨b, 0, none⟩ = some (.int .i64 K) ∧ w.cell? ⟨b, 1, none⟩ = some (.int .i64 A) ∧ w.cell? ⟨b, 2, none⟩ = some (.int .i64 L) ∧ (∃ u, w.cell? ⟨b + 1, 0, none⟩ = some u) ∧ (∃ u, w.cell? ⟨b + 1, 1, none⟩ = some u) ∧ w.frozen? ⟨b + 1, 0, none⟩ = false ∧ w.frozen? ⟨b + 1, 1, none⟩ = false ∧ b + 1 < w.heap.size
theorem QBox.made (w : World) (K A L : Int) (T U : TypeId) : QBox ((w.alloc (.cells #[.int .i64 K, .int .i64 A, .int .i64 L] T)).alloc (.cells #[.int .i64 0, .int .i64 0] U)) w.heap.size K A L := by
 refine ⟨?_, ?_, ?_, ⟨.int .i64 0, ?_⟩, ⟨.int .i64 0, ?_⟩, ?_, ?_, ?_⟩ <;> simp
theorem QBox.below {w w' : World} {b : Nat} {K A L : Int} (h : QBox w b K A L) (hb : Below w.heap.size w w') : QBox w' b K A L := by
 obtain ⟨a0, a1, a2, ⟨u, hu⟩, ⟨v, hv⟩, f0, f1, hl⟩ := h
 exact ⟨(hb.cell (p := ⟨b, 0, none⟩) (by simp; omega)).trans a0, (hb.cell (p := ⟨b, 1, none⟩) (by simp; omega)).trans a1, (hb.cell (p := ⟨b, 2, none⟩) (by simp; omega)).trans a2, ⟨u, (hb.cell (p := ⟨b + 1, 0, none⟩) hl).trans hu⟩, ⟨v, (hb.cell (p := ⟨b + 1, 1, none⟩) hl).trans hv⟩, (hb.frozen (p := ⟨b + 1, 0, none⟩) hl).trans f0, (hb.frozen (p := ⟨b + 1, 1, none⟩) hl).trans f1, Nat.lt_of_lt_of_le hl hb.size⟩
set_option maxRecDepth 100000 in
set_option maxHeartbeats 2000000 in
theorem At_any (K A L k : Int) (w : World) : Calls Tryz.prog 110 #[.agg #[.int .i64 K, .int .i64 A, .int .i64 L], .int .i64 k] w fun e w' => ∃ f t er : Int, e = .returned (.tuple #[.agg #[.int .i64 f, .int .i64 t], .int .i64 er]) ∧ AtIs K A L k f t er ∧ Below w.heap.size w w' := by
 have HB0 := Lib.hid (((Below.refl w.heap.size w).alloc (Nat.le_refl _) (.cells #[.int .i64 K, .int .i64 A, .int .i64 L] 23)).alloc (by simp) (.cells #[.int .i64 0, .int .i64 0] 41))
 have HQ0 := Lib.hid (QBox.made w K A L 23 41)
 have hsb := schedE_bd K A L
 go_enter Tryz.func110, Tryz.ntmps110
 go_wp2_with fail
 refine (Check_any K A L _).mono ?_
 rintro e w1 ⟨rfl, hb1⟩
 have HBZ := Lib.hid (HB0.out.trans (hb1.mono HB0.out.size))
 have HQ1 := Lib.hid (HQ0.out.below hb1)
 clear hb1 HB0 HQ0
 by_cases hz : schedE K A L = 0
 ·by_cases hk : k < 0 ∨ 5000 ≤ k
  ·obtain ⟨x0, x1, x2, ⟨u, hu⟩, ⟨v, hv⟩, f0, f1, hl⟩ := HQ1.out
   have HP : Hid (AtIs K A L k 0 0 3) := .inr ⟨hz, .inl ⟨hk, rfl, rfl, rfl⟩⟩
   rcases hk with hk | hk
   ·obtain ⟨t0, t1⟩ := put2 hu hv (.int .i64 0) (.int .i64 0)
    have HX := Lib.hid (put2_below HBZ.out (g := w.heap.size + 1) (by omega) (.int .i64 0) (.int .i64 0))
    go_wp2_with fail
    refine bodyPost_ret (v := .tuple #[.agg #[.int .i64 0, .int .i64 0], .int .i64 3]) (by simp [results, Tryz.results110, go_sem, t0, t1] <;> rfl) rfl ⟨_, _, _, rfl, HP.out, HX.out⟩
   ·have hkB : decide (k < 0) = false := decide_eq_false (by omega)
    obtain ⟨t0, t1⟩ := put2 hu hv (.int .i64 0) (.int .i64 0)
    have HX := Lib.hid (put2_below HBZ.out (g := w.heap.size + 1) (by omega) (.int .i64 0) (.int .i64 0))
    go_wp2_with fail
    refine bodyPost_ret (v := .tuple #[.agg #[.int .i64 0, .int .i64 0], .int .i64 3]) (by simp [results, Tryz.results110, go_sem, t0, t1] <;> rfl) rfl ⟨_, _, _, rfl, HP.out, HX.out⟩
  ·have hk0 : 0 ≤ k := by omega
   have hk1 : k < 5000 := by omega
   have hkB : decide (k < 0) = false := decide_eq_false (by omega)
   have hkB2 : decide (5000 ≤ k) = false := decide_eq_false (by omega)
   obtain ⟨h1, h4, hdA, _, _⟩ := schedE_ok hz
   obtain ⟨hA0, hA1⟩ := dayB_iff.1 hdA
   have HP : Hid (∀ f t e, PerIs K A k f t e → AtIs K A L k f t e) := fun f t e h => .inr ⟨hz, .inr ⟨⟨hk0, hk1⟩, h⟩⟩
   clear hk hsb
   obtain ⟨x0, x1, x2, ⟨u, hu⟩, ⟨v, hv⟩, f0, f1, hl⟩ := HQ1.out
   go_wp2_with fail
   refine (shapeOf_any K _ h1 h4).mono ?_
   rintro e w2 ⟨rfl, hb2⟩
   have HB2 := Lib.hid (HBZ.out.trans (hb2.mono HBZ.out.size))
   have HQ2 := Lib.hid (HQ1.out.below hb2)
   clear hb2 HBZ HQ1 x0 x1 x2 hu hv f0 f1 hl u v
   have hK : K = 1 ∨ K = 2 ∨ K = 3 ∨ K = 4 := by omega
   rcases hK with rfl | rfl | rfl | rfl
   ·have hsh : shD 1 = 7 := rfl
    have hsp : shP 1 = 0 := rfl
    rw [hsh, hsp]
    have HB3 := Lib.hid (HB2.out.alloc HB2.out.size (.cells #[.int .i64 7, .int .i64 0] 181))
    have HQ3 := Lib.hid (HQ2.out.below ((Below.refl _ _).alloc (Nat.le_refl _) (.cells #[.int .i64 7, .int .i64 0] 181)))
    obtain ⟨x0, x1, x2, ⟨u, hu⟩, ⟨v, hv⟩, f0, f1, hl⟩ := HQ3.out
    obtain ⟨z0, z1, z2, _, _, _, _, hl2⟩ := HQ2.out
    have hl3 : w.heap.size < w2.heap.size := by omega
    go_wp2_with fail
    refine (ofWeek A k _ hA0 hA1 hk0 (by omega)).mono ?_
    rintro e w4 ⟨f, t, er, rfl, hW, hb4⟩
    have HBZ := Lib.hid (HB3.out.trans (hb4.mono HB3.out.size))
    have HQ4 := Lib.hid (HQ3.out.below hb4)
    have HPX := Lib.hid (HP.out f t er (.inl ⟨by omega, hW⟩))
    clear hb4 hW x0 x1 x2 hu hv f0 f1 hl u v z0 z1 z2 hl2 hl3
    obtain ⟨x0, x1, x2, ⟨u, hu⟩, ⟨v, hv⟩, f0, f1, hl⟩ := HQ4.out
    obtain ⟨t0, t1⟩ := put2 hu hv (.int .i64 f) (.int .i64 t)
    have HX := Lib.hid (put2_below HBZ.out (g := w.heap.size + 1) (by omega) (.int .i64 f) (.int .i64 t))
    go_wp2_with fail
    refine bodyPost_ret (v := .tuple #[.agg #[.int .i64 f, .int .i64 t], .int .i64 er]) (by simp [results, Tryz.results110, go_sem, t0, t1] <;> rfl) rfl ⟨_, _, _, rfl, HPX.out, HX.out⟩
   ·have hsh : shD 2 = 14 := rfl
    have hsp : shP 2 = 0 := rfl
    rw [hsh, hsp]
    have HB3 := Lib.hid (HB2.out.alloc HB2.out.size (.cells #[.int .i64 14, .int .i64 0] 181))
    have HQ3 := Lib.hid (HQ2.out.below ((Below.refl _ _).alloc (Nat.le_refl _) (.cells #[.int .i64 14, .int .i64 0] 181)))
    obtain ⟨x0, x1, x2, ⟨u, hu⟩, ⟨v, hv⟩, f0, f1, hl⟩ := HQ3.out
    obtain ⟨z0, z1, z2, _, _, _, _, hl2⟩ := HQ2.out
    have hl3 : w.heap.size < w2.heap.size := by omega
    go_wp2_with fail
    refine (ofTwo A k _ hA0 hA1 hk0 (by omega)).mono ?_
    rintro e w4 ⟨f, t, er, rfl, hW, hb4⟩
    have HBZ := Lib.hid (HB3.out.trans (hb4.mono HB3.out.size))
    have HQ4 := Lib.hid (HQ3.out.below hb4)
    have HPX := Lib.hid (HP.out f t er (.inl ⟨by omega, hW⟩))
    clear hb4 hW x0 x1 x2 hu hv f0 f1 hl u v z0 z1 z2 hl2 hl3
    obtain ⟨x0, x1, x2, ⟨u, hu⟩, ⟨v, hv⟩, f0, f1, hl⟩ := HQ4.out
    obtain ⟨t0, t1⟩ := put2 hu hv (.int .i64 f) (.int .i64 t)
    have HX := Lib.hid (put2_below HBZ.out (g := w.heap.size + 1) (by omega) (.int .i64 f) (.int .i64 t))
    go_wp2_with fail
    refine bodyPost_ret (v := .tuple #[.agg #[.int .i64 f, .int .i64 t], .int .i64 er]) (by simp [results, Tryz.results110, go_sem, t0, t1] <;> rfl) rfl ⟨_, _, _, rfl, HPX.out, HX.out⟩
   ·have hsh : shD 3 = 15 := rfl
    have hsp : shP 3 = 2 := rfl
    rw [hsh, hsp]
    have HB3 := Lib.hid (HB2.out.alloc HB2.out.size (.cells #[.int .i64 15, .int .i64 2] 181))
    have HQ3 := Lib.hid (HQ2.out.below ((Below.refl _ _).alloc (Nat.le_refl _) (.cells #[.int .i64 15, .int .i64 2] 181)))
    have c0 : (w2.alloc (.cells #[.int .i64 15, .int .i64 2] 181)).cell? ⟨w2.heap.size, 0, none⟩ = some (.int .i64 15) := by simp
    have c1 : (w2.alloc (.cells #[.int .i64 15, .int .i64 2] 181)).cell? ⟨w2.heap.size, 1, none⟩ = some (.int .i64 2) := by simp
    have hg : w2.heap.size < (w2.alloc (.cells #[.int .i64 15, .int .i64 2] 181)).heap.size := by simp
    obtain ⟨x0, x1, x2, ⟨u, hu⟩, ⟨v, hv⟩, f0, f1, hl⟩ := HQ3.out
    obtain ⟨_, _, _, _, _, _, _, hl2⟩ := HQ2.out
    have hne : ¬ (w.heap.size + 1 = w2.heap.size) := by omega
    have hne2 : ¬ (w2.heap.size = w.heap.size + 1) := by omega
    go_wp2_with fail
    generalize (w2.alloc (.cells #[.int .i64 15, .int .i64 2] 181)) = W at *
    generalize w2.heap.size = G at *
    have hbW : w.heap.size < W.heap.size := by omega
    clear hu hv f0 f1 u v x0 x2
    go_region_held3 (fun w' => w'.cell? ⟨G, 0, none⟩ = some (.int .i64 15) ∧ w'.cell? ⟨G, 1, none⟩ = some (.int .i64 2) ∧ w'.cell? ⟨w.heap.size, 1, none⟩ = some (.int .i64 A)) (go_keep)
     (first
      | (go_at_call 161; refine (countHalf A _ hdA).mono ?_; rintro e w4 ⟨k0, m0, d0, rfl, hc0, hb4⟩
         have HB4 := Lib.hid (from_drew hb4)
         have HC0 := Lib.hid hc0
         have hk0' := hc0.k1
         have hm0' := hc0.m1
         have hm1' := hc0.m2
         have hhf := hf_bd d0
         clear hb4 hc0
         have hwr : IntKind.i64.wrap ((12 * (k0 : Int) + (m0 : Int) - 1) * 2 + hf d0 + k) = (12 * (k0 : Int) + (m0 : Int) - 1) * 2 + hf d0 + k := by rw [IntKind.wrap_i64]; omega
         have e0 : w4.cell? ⟨G, 0, none⟩ = some (.int .i64 15) := (HB4.out.cell (p := ⟨G, 0, none⟩) hg).trans c0
         have e1 : w4.cell? ⟨G, 1, none⟩ = some (.int .i64 2) := (HB4.out.cell (p := ⟨G, 1, none⟩) hg).trans c1
         have e2 : w4.cell? ⟨w.heap.size, 1, none⟩ = some (.int .i64 A) := (HB4.out.cell (p := ⟨w.heap.size, 1, none⟩) hbW).trans x1)
      | (go_at_call 160; refine (ofHalf ((12 * (k0 : Int) + (m0 : Int) - 1) * 2 + hf d0 + k) _ ?_ ?_).mono ?_; omega; omega; rintro e w5 ⟨f, t, er, rfl, hP, hb5⟩
         have HB5 := Lib.hid (HB4.out.trans (hb5.mono HB4.out.size))
         have HPX := Lib.hid (HP.out f t er (.inr (.inr ⟨rfl, k0, m0, d0, HC0.out, hP⟩)))
         clear hb5 hP
         have g0 : w5.cell? ⟨G, 0, none⟩ = some (.int .i64 15) := (HB5.out.cell (p := ⟨G, 0, none⟩) hg).trans c0
         have g1 : w5.cell? ⟨G, 1, none⟩ = some (.int .i64 2) := (HB5.out.cell (p := ⟨G, 1, none⟩) hg).trans c1
         have g2 : w5.cell? ⟨w.heap.size, 1, none⟩ = some (.int .i64 A) := (HB5.out.cell (p := ⟨w.heap.size, 1, none⟩) hbW).trans x1
         obtain ⟨_, _, _, ⟨u, hu⟩, ⟨v, hv⟩, f0, f1, hl5⟩ := HQ3.out.below HB5.out
         have k0' : ((w5.setCell ⟨w.heap.size + 1, 0, none⟩ (.int .i64 f)).setCell ⟨w.heap.size + 1, 1, none⟩ (.int .i64 t)).cell? ⟨G, 0, none⟩ = some (.int .i64 15) := by
          rw [World.cell?_setCell_other (h := fun e => hne (congrArg Addr.block e)), World.cell?_setCell_other (h := fun e => hne (congrArg Addr.block e))]; exact g0
         have k1' : ((w5.setCell ⟨w.heap.size + 1, 0, none⟩ (.int .i64 f)).setCell ⟨w.heap.size + 1, 1, none⟩ (.int .i64 t)).cell? ⟨G, 1, none⟩ = some (.int .i64 2) := by
          rw [World.cell?_setCell_other (h := fun e => hne (congrArg Addr.block e)), World.cell?_setCell_other (h := fun e => hne (congrArg Addr.block e))]; exact g1))
    all_goals have HBZ := Lib.hid (HB3.out.trans (HB5.out.mono HB3.out.size))
    all_goals obtain ⟨t0, t1⟩ := put2 hu hv (.int .i64 f) (.int .i64 t)
    all_goals have HX := Lib.hid (put2_below HBZ.out (g := w.heap.size + 1) (by omega) (.int .i64 f) (.int .i64 t))
    all_goals go_wp2_with fail
    all_goals refine bodyPost_ret (v := .tuple #[.agg #[.int .i64 f, .int .i64 t], .int .i64 er]) (by simp [results, Tryz.results110, go_sem, t0, t1] <;> rfl) rfl ⟨_, _, _, rfl, HPX.out, HX.out⟩
   ·have hsh : shD 4 = 31 := rfl
    have hsp : shP 4 = 1 := rfl
    rw [hsh, hsp]
    have HB3 := Lib.hid (HB2.out.alloc HB2.out.size (.cells #[.int .i64 31, .int .i64 1] 181))
    have HQ3 := Lib.hid (HQ2.out.below ((Below.refl _ _).alloc (Nat.le_refl _) (.cells #[.int .i64 31, .int .i64 1] 181)))
    have c0 : (w2.alloc (.cells #[.int .i64 31, .int .i64 1] 181)).cell? ⟨w2.heap.size, 0, none⟩ = some (.int .i64 31) := by simp
    have c1 : (w2.alloc (.cells #[.int .i64 31, .int .i64 1] 181)).cell? ⟨w2.heap.size, 1, none⟩ = some (.int .i64 1) := by simp
    have hg : w2.heap.size < (w2.alloc (.cells #[.int .i64 31, .int .i64 1] 181)).heap.size := by simp
    obtain ⟨x0, x1, x2, ⟨u, hu⟩, ⟨v, hv⟩, f0, f1, hl⟩ := HQ3.out
    obtain ⟨_, _, _, _, _, _, _, hl2⟩ := HQ2.out
    have hne : ¬ (w.heap.size + 1 = w2.heap.size) := by omega
    have hne2 : ¬ (w2.heap.size = w.heap.size + 1) := by omega
    go_wp2_with fail
    generalize (w2.alloc (.cells #[.int .i64 31, .int .i64 1] 181)) = W at *
    generalize w2.heap.size = G at *
    have hbW : w.heap.size < W.heap.size := by omega
    clear hu hv f0 f1 u v x0 x2
    go_region_held3 (fun w' => w'.cell? ⟨G, 0, none⟩ = some (.int .i64 31) ∧ w'.cell? ⟨G, 1, none⟩ = some (.int .i64 1) ∧ w'.cell? ⟨w.heap.size, 1, none⟩ = some (.int .i64 A)) (go_keep)
     (first
      | (go_at_call 161; refine (countMonth A _ hdA).mono ?_; rintro e w4 ⟨k0, m0, d0, rfl, hc0, hb4⟩
         have HB4 := Lib.hid (from_drew hb4)
         have HC0 := Lib.hid hc0
         have hk0' := hc0.k1
         have hm0' := hc0.m1
         have hm1' := hc0.m2
         have hhf := hf_bd d0
         clear hb4 hc0
         have hwr : IntKind.i64.wrap (12 * (k0 : Int) + (m0 : Int) - 1 + k) = 12 * (k0 : Int) + (m0 : Int) - 1 + k := by rw [IntKind.wrap_i64]; omega
         have e0 : w4.cell? ⟨G, 0, none⟩ = some (.int .i64 31) := (HB4.out.cell (p := ⟨G, 0, none⟩) hg).trans c0
         have e1 : w4.cell? ⟨G, 1, none⟩ = some (.int .i64 1) := (HB4.out.cell (p := ⟨G, 1, none⟩) hg).trans c1
         have e2 : w4.cell? ⟨w.heap.size, 1, none⟩ = some (.int .i64 A) := (HB4.out.cell (p := ⟨w.heap.size, 1, none⟩) hbW).trans x1)
      | (go_at_call 160; refine (ofMonth (12 * (k0 : Int) + (m0 : Int) - 1 + k) _ ?_ ?_).mono ?_; omega; omega; rintro e w5 ⟨f, t, er, rfl, hP, hb5⟩
         have HB5 := Lib.hid (HB4.out.trans (hb5.mono HB4.out.size))
         have HPX := Lib.hid (HP.out f t er (.inr (.inl ⟨rfl, k0, m0, d0, HC0.out, hP⟩)))
         clear hb5 hP
         have g0 : w5.cell? ⟨G, 0, none⟩ = some (.int .i64 31) := (HB5.out.cell (p := ⟨G, 0, none⟩) hg).trans c0
         have g1 : w5.cell? ⟨G, 1, none⟩ = some (.int .i64 1) := (HB5.out.cell (p := ⟨G, 1, none⟩) hg).trans c1
         have g2 : w5.cell? ⟨w.heap.size, 1, none⟩ = some (.int .i64 A) := (HB5.out.cell (p := ⟨w.heap.size, 1, none⟩) hbW).trans x1
         obtain ⟨_, _, _, ⟨u, hu⟩, ⟨v, hv⟩, f0, f1, hl5⟩ := HQ3.out.below HB5.out
         have k0' : ((w5.setCell ⟨w.heap.size + 1, 0, none⟩ (.int .i64 f)).setCell ⟨w.heap.size + 1, 1, none⟩ (.int .i64 t)).cell? ⟨G, 0, none⟩ = some (.int .i64 31) := by
          rw [World.cell?_setCell_other (h := fun e => hne (congrArg Addr.block e)), World.cell?_setCell_other (h := fun e => hne (congrArg Addr.block e))]; exact g0
         have k1' : ((w5.setCell ⟨w.heap.size + 1, 0, none⟩ (.int .i64 f)).setCell ⟨w.heap.size + 1, 1, none⟩ (.int .i64 t)).cell? ⟨G, 1, none⟩ = some (.int .i64 1) := by
          rw [World.cell?_setCell_other (h := fun e => hne (congrArg Addr.block e)), World.cell?_setCell_other (h := fun e => hne (congrArg Addr.block e))]; exact g1))
    all_goals have HBZ := Lib.hid (HB3.out.trans (HB5.out.mono HB3.out.size))
    all_goals obtain ⟨t0, t1⟩ := put2 hu hv (.int .i64 f) (.int .i64 t)
    all_goals have HX := Lib.hid (put2_below HBZ.out (g := w.heap.size + 1) (by omega) (.int .i64 f) (.int .i64 t))
    all_goals go_wp2_with fail
    all_goals refine bodyPost_ret (v := .tuple #[.agg #[.int .i64 f, .int .i64 t], .int .i64 er]) (by simp [results, Tryz.results110, go_sem, t0, t1] <;> rfl) rfl ⟨_, _, _, rfl, HPX.out, HX.out⟩
 ·have hzB : decide (schedE K A L = 0) = false := decide_eq_false hz
  obtain ⟨x0, x1, x2, ⟨u, hu⟩, ⟨v, hv⟩, f0, f1, hl⟩ := HQ1.out
  have HP : Hid (AtIs K A L k 0 0 (schedE K A L)) := .inl ⟨hz, rfl, rfl, rfl⟩
  obtain ⟨t0, t1⟩ := put2 hu hv (.int .i64 0) (.int .i64 0)
  have HX := Lib.hid (put2_below HBZ.out (g := w.heap.size + 1) (by omega) (.int .i64 0) (.int .i64 0))
  go_wp2_with fail
  refine bodyPost_ret (v := .tuple #[.agg #[.int .i64 0, .int .i64 0], .int .i64 (schedE K A L)]) (by simp [results, Tryz.results110, go_sem, t0, t1] <;> rfl) rfl ⟨_, _, _, rfl, HP.out, HX.out⟩
end Go.Proofs.YtkalfdjmklakdaaGreatDoor.Cal
namespace Go.Proofs.YtkalfdjmklakdaaGreatDoor.Cal
open Go.RowKit
def fm (M : Int) : Int := ys (M / 12).toNat + cumN (2000 + M / 12) (M % 12).toNat
theorem civil_at {M j : Int} (h0 : 0 ≤ M) (h1 : M < 2400) (hj0 : 0 ≤ j) (hj1 : j < md (2000 + M / 12) (M % 12 + 1)) : IsCivil (fm M + j) (M / 12).toNat (M % 12 + 1).toNat (j + 1) := by
 have e1 : (2000 + ((M / 12).toNat : Int)) = 2000 + M / 12 := by omega
 have e2 : (((M % 12 + 1).toNat : Nat) : Int) = M % 12 + 1 := by omega
 refine ⟨by omega, by omega, by omega, by omega, by rw [e1, e2]; omega, ?_⟩
 rw [e1, show (M % 12 + 1).toNat - 1 = (M % 12).toNat from by omega]
 unfold fm
 omega
theorem fm_next {M : Int} (h0 : 0 ≤ M) : fm (M + 1) = fm M + md (2000 + M / 12) (M % 12 + 1) := by
 unfold fm
 by_cases h : M % 12 = 11
 ·have e1 : ((M + 1) / 12).toNat = (M / 12).toNat + 1 := by omega
  have e2 : ((M + 1) % 12).toNat = 0 := by omega
  have e3 : (M % 12).toNat = 11 := by omega
  rw [e1, e2, e3, ys, cumN, show (2000 + ((M / 12).toNat : Int)) = 2000 + M / 12 from by omega, ← cumN_12, h]
  show ys (M / 12).toNat + (cumN (2000 + M / 12) 11 + md (2000 + M / 12) (((11 : Nat) : Int) + 1)) + 0 = ys (M / 12).toNat + cumN (2000 + M / 12) 11 + md (2000 + M / 12) (11 + 1)
  rw [show (((11 : Nat) : Int) + 1) = 11 + 1 from rfl]
  omega
 ·have e1 : ((M + 1) / 12).toNat = (M / 12).toNat := by omega
  have e2 : ((M + 1) % 12).toNat = (M % 12).toNat + 1 := by omega
  have e3 : (M + 1) / 12 = M / 12 := by omega
  rw [e1, e2, e3, cumN, show (((M % 12).toNat : Nat) : Int) = M % 12 from by omega]
  omega
theorem fm_end : fm 2400 = 73049 := by
 unfold fm
 rw [show ((2400 : Int) / 12).toNat = 200 from rfl, show ((2400 : Int) % 12).toNat = 0 from rfl, ys_200]
 rfl
theorem fm_bd {M : Int} (h0 : 0 ≤ M) (h1 : M ≤ 2400) : 0 ≤ fm M ∧ fm M ≤ 73049 := by
 by_cases h : M = 2400
 ·rw [h, fm_end]; omega
 ·have := (civil_at (j := 0) h0 (by omega) (by omega) (by have := md_bd (2000 + M / 12) (M % 12 + 1); omega)).day
  omega
theorem fm_low {M : Int} (h0 : 0 ≤ M) (h1 : M < 2400) : fm M + 28 ≤ 73049 := by
 have e := fm_next h0
 have := md_bd (2000 + M / 12) (M % 12 + 1)
 have := (fm_bd (M := M + 1) (by omega) (by omega)).2
 omega
theorem mDay_first {M : Int} (_h0 : 0 ≤ M) : mDay M 1 = fm M := by
 have hm := md_bd (2000 + M / 12) (M % 12 + 1)
 unfold mDay dayN fm
 rw [show min 1 (md (2000 + M / 12) (M % 12 + 1)) = 1 from by omega, show (2000 + M / 12 - 2000) = M / 12 from by omega, show M % 12 + 1 - 1 = M % 12 from by omega]
 omega
theorem mDay_last {M : Int} (h0 : 0 ≤ M) : mDay M 31 = fm (M + 1) - 1 := by
 have hm := md_bd (2000 + M / 12) (M % 12 + 1)
 rw [fm_next h0]
 unfold mDay dayN fm
 rw [show min 31 (md (2000 + M / 12) (M % 12 + 1)) = md (2000 + M / 12) (M % 12 + 1) from by omega, show (2000 + M / 12 - 2000) = M / 12 from by omega, show M % 12 + 1 - 1 = M % 12 from by omega]
def stt (K N : Int) : Int := if K = 3 then fm (N / 2) + 15 * (N % 2) else fm N
def lim (K : Int) : Int := if K = 3 then 4800 else 2400
theorem stt3 (N : Int) : stt 3 N = fm (N / 2) + 15 * (N % 2) := if_pos rfl
theorem stt4 (N : Int) : stt 4 N = fm N := if_neg (by omega)
theorem stt_end {K : Int} (hK : K = 3 ∨ K = 4) : stt K (lim K) = 73049 := by
 rcases hK with rfl | rfl
 ·rw [stt3, show lim 3 = 4800 from rfl, show (4800 : Int) / 2 = 2400 from rfl, fm_end]; rfl
 ·rw [stt4, show lim 4 = 2400 from rfl, fm_end]
theorem stt_bd {K N : Int} (hK : K = 3 ∨ K = 4) (h0 : 0 ≤ N) (h1 : N < lim K) : 0 ≤ stt K N ∧ stt K N ≤ 73048 := by
 rcases hK with rfl | rfl
 ·have hl : N < 4800 := h1
  rw [stt3]
  have := fm_low (M := N / 2) (by omega) (by omega)
  have := (fm_bd (M := N / 2) (by omega) (by omega)).1
  omega
 ·have hl : N < 2400 := h1
  rw [stt4]
  have := fm_low (M := N) (by omega) (by omega)
  have := (fm_bd (M := N) (by omega) (by omega)).1
  omega
theorem per_of_stt {K A f t e : Int} {k0 m0 : Nat} {d0 : Int} (hK : K = 3 ∨ K = 4) (hc : IsCivil A k0 m0 d0) {N0 k : Int} (hN : N0 = if K = 3 then (12 * (k0 : Int) + (m0 : Int) - 1) * 2 + hf d0 else 12 * (k0 : Int) + (m0 : Int) - 1) (hk : 0 ≤ k)
 (h : (lim K ≤ N0 + k ∧ f = 0 ∧ t = 0 ∧ e = 3) ∨ (N0 + k < lim K ∧ f = stt K (N0 + k) ∧ t = stt K (N0 + k + 1) - 1 ∧ e = 0)) : PerIs K A k f t e := by
 have hm1 := hc.m1
 have hh := hf_bd d0
 rcases hK with rfl | rfl
 ·rw [if_pos rfl] at hN
  right; right
  refine ⟨rfl, k0, m0, d0, hc, ?_⟩
  rw [← hN]
  rw [show lim 3 = 4800 from rfl] at h
  rcases h with ⟨a, b, c, d⟩ | ⟨a, b, c, d⟩
  ·exact .inl ⟨a, b, c, d⟩
  ·rw [stt3] at b c
   right
   by_cases hp : (N0 + k) % 2 = 0
   ·left
    rw [mDay_first (by omega)]
    refine ⟨a, hp, by omega, ?_, d⟩
    rw [c, show (N0 + k + 1) / 2 = (N0 + k) / 2 from by omega]
    omega
   ·right
    rw [mDay_first (by omega), mDay_last (by omega)]
    refine ⟨a, by omega, by omega, ?_, d⟩
    rw [c, show (N0 + k + 1) / 2 = (N0 + k) / 2 + 1 from by omega]
    omega
 ·rw [if_neg (by omega)] at hN
  right; left
  refine ⟨rfl, k0, m0, d0, hc, ?_⟩
  rw [← hN]
  rw [show lim 4 = 2400 from rfl] at h
  rcases h with ⟨a, b, c, d⟩ | ⟨a, b, c, d⟩
  ·exact .inl ⟨a, b, c, d⟩
  ·rw [stt4] at b c
   right
   rw [mDay_first (by omega), mDay_last (by omega)]
   exact ⟨a, b, c, d⟩
theorem field_day (y m d : Int) (w : World) : (Instr.field 144 (.agg #[.int .i64 y, .int .i64 m, .int .i64 d]) 2).run Tryz.prog w = .ok (.int .i64 d) w := by
 kernel_rfl
def begB (K d : Int) : Bool := decide (d = 1) || (decide (K = 3) && decide (d = 16))
set_option maxRecDepth 100000 in
set_option maxHeartbeats 1000000 in
theorem begins_ref (K A L x : Int) (w : World) (hx : dayB x = true) (hK : K = 3 ∨ K = 4) : Calls Tryz.prog 57 #[.agg #[.int .i64 K, .int .i64 A, .int .i64 L], .int .i64 x] w fun e w' => ∃ (k m : Nat) (d : Int), e = .returned (.bool (begB K d)) ∧ IsCivil x k m d ∧ Below w.heap.size w w' := by
 have HB0 := Lib.hid ((Below.refl w.heap.size w).alloc (Nat.le_refl _) (.cells #[.int .i64 K, .int .i64 A, .int .i64 L] 23))
 go_enter Tryz.func57, Tryz.ntmps57
 go_wp2_with fail
 refine (civil_ref x _ hx).mono ?_
 rintro e w1 ⟨k, m, d, rfl, hc, hb1⟩
 have HC := Lib.hid hc
 have HB1 := Lib.hid (HB0.out.trans (hb1.mono HB0.out.size))
 have x0 : w1.cell? ⟨w.heap.size, 0, none⟩ = some (.int .i64 K) := (hb1.cell (p := ⟨w.heap.size, 0, none⟩) (by simp)).trans (by simp)
 clear hb1 hc
 have hfd := field_day (2000 + (k : Int)) (m : Int) d
 have HE : Hid (begB K d = (decide (d = 1) || (decide (K = 3) && decide (d = 16)))) := rfl
 by_cases hd : d = 1
 ·subst hd
  go_wp2_with fail
  all_goals go_ret
  all_goals exact ⟨k, m, 1, cret_bool (by rw [HE.out]; simp), HC.out, HB1.out⟩
 ·have hdB : decide (d = 1) = false := decide_eq_false hd
  have hdB2 : (d == 1) = false := by simp [hd]
  rcases hK with rfl | rfl
  ·go_wp2_with fail
   all_goals go_ret
   all_goals exact ⟨k, m, d, cret_bool (by rw [HE.out]; first | (simp [hd]; done) | (simp [hd]; by_cases e : d = 16 <;> simp [e])), HC.out, HB1.out⟩
  ·go_wp2_with fail
   all_goals go_ret
   all_goals exact ⟨k, m, d, cret_bool (by rw [HE.out]; first | (simp [hd]; done) | (simp [hd]; by_cases e : d = 16 <;> simp [e])), HC.out, HB1.out⟩
theorem civil_stt {K N : Int} (hK : K = 3 ∨ K = 4) (h0 : 0 ≤ N) (h1 : N < lim K) : ∃ (k m : Nat) (d : Int), IsCivil (stt K N) k m d ∧ stt K (N + 1) = (if K = 3 ∧ d = 1 then stt K N + 15 else stt K N + md (2000 + k) m - d + 1) := by
 rcases hK with rfl | rfl
 ·have hl : N < 4800 := h1
  have hm := md_bd (2000 + N / 2 / 12) (N / 2 % 12 + 1)
  refine ⟨(N / 2 / 12).toNat, (N / 2 % 12 + 1).toNat, 15 * (N % 2) + 1, ?_, ?_⟩
  ·rw [stt3]; exact civil_at (M := N / 2) (j := 15 * (N % 2)) (by omega) (by omega) (by omega) (by omega)
  ·rw [stt3, stt3, show (2000 + ((N / 2 / 12).toNat : Int)) = 2000 + N / 2 / 12 from by omega, show (((N / 2 % 12 + 1).toNat : Nat) : Int) = N / 2 % 12 + 1 from by omega]
   by_cases hp : N % 2 = 0
   ·rw [if_pos ⟨rfl, by omega⟩, show (N + 1) / 2 = N / 2 from by omega]
    omega
   ·rw [if_neg (by omega), show (N + 1) / 2 = N / 2 + 1 from by omega, fm_next (by omega)]
    omega
 ·have hl : N < 2400 := h1
  have hm := md_bd (2000 + N / 12) (N % 12 + 1)
  refine ⟨(N / 12).toNat, (N % 12 + 1).toNat, 0 + 1, ?_, ?_⟩
  ·have := civil_at (M := N) (j := 0) h0 hl (by omega) (by omega)
   rw [Int.add_zero] at this
   rw [stt4]; exact this
  ·rw [stt4, stt4, if_neg (by omega), fm_next h0, show (2000 + ((N / 12).toNat : Int)) = 2000 + N / 12 from by omega, show (((N % 12 + 1).toNat : Nat) : Int) = N % 12 + 1 from by omega]
   omega
set_option maxRecDepth 100000 in
set_option maxHeartbeats 1000000 in
theorem after_ref (K A L N : Int) (w : World) (hK : K = 3 ∨ K = 4) (h0 : 0 ≤ N) (h1 : N < lim K) : Calls Tryz.prog 58 #[.agg #[.int .i64 K, .int .i64 A, .int .i64 L], .int .i64 (stt K N)] w fun e w' => e = .returned (.int .i64 (stt K (N + 1))) ∧ Below w.heap.size w w' := by
 obtain ⟨k, m, d, hc, hn⟩ := civil_stt hK h0 h1
 have hx := stt_bd hK h0 h1
 have HB0 := Lib.hid ((Below.refl w.heap.size w).alloc (Nat.le_refl _) (.cells #[.int .i64 K, .int .i64 A, .int .i64 L] 23))
 have HC := Lib.hid hc
 have HN := Lib.hid hn
 have hk := hc.k1
 have hm1 := hc.m1
 have hm2 := hc.m2
 have hd1 := hc.d1
 have hmd := md_bd (2000 + (k : Int)) m
 have hd2 := hc.d2
 clear hc hn h0 h1
 generalize stt K (N + 1) = y at *
 generalize stt K N = x at *
 have HDX : Hid (dayB x = true) := dayB_iff.2 hx
 go_enter Tryz.func58, Tryz.ntmps58
 go_wp2_with fail
 refine (civil_ref x _ HDX.out).mono ?_
 rintro e w1 ⟨k', m', d', rfl, hc', hb1⟩
 obtain ⟨rfl, rfl, rfl⟩ := HC.out.unique hc'
 have HB1 := Lib.hid ((HB0.out.trans (hb1.mono HB0.out.size)).alloc (Nat.le_trans HB0.out.size hb1.size) (.cells #[.int .i64 (2000 + (k : Int)), .int .i64 (m : Int), .int .i64 d] 144))
 have x0 : w1.cell? ⟨w.heap.size, 0, none⟩ = some (.int .i64 K) := (hb1.cell (p := ⟨w.heap.size, 0, none⟩) (by simp)).trans (by simp)
 have hlt : w.heap.size < w1.heap.size := rlt x0
 clear hb1 hc'
 by_cases hcase : K = 3 ∧ d = 1
 ·have HY : Hid (y = x + 15) := by have := HN.out; rwa [if_pos hcase] at this
  obtain ⟨rfl, rfl⟩ := hcase
  go_wp2_with fail
  go_ret
  exact ⟨cret_int HY.out.symm, HB1.out⟩
 ·have HY : Hid (y = x + md (2000 + (k : Int)) m - d + 1) := by have := HN.out; rwa [if_neg hcase] at this
  have c0 : (w1.alloc (.cells #[.int .i64 (2000 + (k : Int)), .int .i64 (m : Int), .int .i64 d] 144)).cell? ⟨w1.heap.size, 0, none⟩ = some (.int .i64 (2000 + (k : Int))) := by simp
  have c1 : (w1.alloc (.cells #[.int .i64 (2000 + (k : Int)), .int .i64 (m : Int), .int .i64 d] 144)).cell? ⟨w1.heap.size, 1, none⟩ = some (.int .i64 (m : Int)) := by simp
  have c2 : (w1.alloc (.cells #[.int .i64 (2000 + (k : Int)), .int .i64 (m : Int), .int .i64 d] 144)).cell? ⟨w1.heap.size, 2, none⟩ = some (.int .i64 d) := by simp
  have hg : w1.heap.size < (w1.alloc (.cells #[.int .i64 (2000 + (k : Int)), .int .i64 (m : Int), .int .i64 d] 144)).heap.size := by simp
  rcases hK with rfl | rfl
  ·have hdB : decide (d = 1) = false := decide_eq_false (fun e => hcase ⟨rfl, e⟩)
   have hdB2 : (d == 1) = false := by simp; exact fun e => hcase ⟨rfl, e⟩
   clear hcase
   go_wp2_with fail
   generalize (w1.alloc (.cells #[.int .i64 (2000 + (k : Int)), .int .i64 (m : Int), .int .i64 d] 144)) = W at *
   generalize w1.heap.size = g at *
   have hw1 : IntKind.i64.wrap (x + md (2000 + (k : Int)) (m : Int)) = x + md (2000 + (k : Int)) (m : Int) := by rw [IntKind.wrap_i64]; omega
   have hw2 : IntKind.i64.wrap (x + md (2000 + (k : Int)) (m : Int) - d) = x + md (2000 + (k : Int)) (m : Int) - d := by rw [IntKind.wrap_i64]; omega
   have hw3 : IntKind.i64.wrap (x + md (2000 + (k : Int)) (m : Int) - d + 1) = x + md (2000 + (k : Int)) (m : Int) - d + 1 := by rw [IntKind.wrap_i64]; omega
   go_region_held3 (fun w' => w'.cell? ⟨g, 0, none⟩ = some (.int .i64 (2000 + (k : Int))) ∧ w'.cell? ⟨g, 1, none⟩ = some (.int .i64 (m : Int)) ∧ w'.cell? ⟨g, 2, none⟩ = some (.int .i64 d)) (go_keep)
    (first
     | (go_at_call 122; refine (monthDays_ref _ _ _ ?_ ?_ ?_).mono ?_; omega; omega; omega; rintro e w5 ⟨rfl, hb5⟩
        have HB5 := Lib.hid (from_drew hb5); clear hb5
        have e0 : w5.cell? ⟨g, 0, none⟩ = some (.int .i64 (2000 + (k : Int))) := (HB5.out.cell (p := ⟨g, 0, none⟩) hg).trans c0
        have e1 : w5.cell? ⟨g, 1, none⟩ = some (.int .i64 (m : Int)) := (HB5.out.cell (p := ⟨g, 1, none⟩) hg).trans c1
        have e2 : w5.cell? ⟨g, 2, none⟩ = some (.int .i64 d) := (HB5.out.cell (p := ⟨g, 2, none⟩) hg).trans c2))
   all_goals go_wp2_with fail
   all_goals go_ret
   all_goals exact ⟨cret_int HY.out.symm, HB1.out.trans (HB5.out.mono HB1.out.size)⟩
  ·clear hcase
   go_wp2_with fail
   generalize (w1.alloc (.cells #[.int .i64 (2000 + (k : Int)), .int .i64 (m : Int), .int .i64 d] 144)) = W at *
   generalize w1.heap.size = g at *
   have hw1 : IntKind.i64.wrap (x + md (2000 + (k : Int)) (m : Int)) = x + md (2000 + (k : Int)) (m : Int) := by rw [IntKind.wrap_i64]; omega
   have hw2 : IntKind.i64.wrap (x + md (2000 + (k : Int)) (m : Int) - d) = x + md (2000 + (k : Int)) (m : Int) - d := by rw [IntKind.wrap_i64]; omega
   have hw3 : IntKind.i64.wrap (x + md (2000 + (k : Int)) (m : Int) - d + 1) = x + md (2000 + (k : Int)) (m : Int) - d + 1 := by rw [IntKind.wrap_i64]; omega
   go_region_held3 (fun w' => w'.cell? ⟨g, 0, none⟩ = some (.int .i64 (2000 + (k : Int))) ∧ w'.cell? ⟨g, 1, none⟩ = some (.int .i64 (m : Int)) ∧ w'.cell? ⟨g, 2, none⟩ = some (.int .i64 d)) (go_keep)
    (first
     | (go_at_call 122; refine (monthDays_ref _ _ _ ?_ ?_ ?_).mono ?_; omega; omega; omega; rintro e w5 ⟨rfl, hb5⟩
        have HB5 := Lib.hid (from_drew hb5); clear hb5
        have e0 : w5.cell? ⟨g, 0, none⟩ = some (.int .i64 (2000 + (k : Int))) := (HB5.out.cell (p := ⟨g, 0, none⟩) hg).trans c0
        have e1 : w5.cell? ⟨g, 1, none⟩ = some (.int .i64 (m : Int)) := (HB5.out.cell (p := ⟨g, 1, none⟩) hg).trans c1
        have e2 : w5.cell? ⟨g, 2, none⟩ = some (.int .i64 d) := (HB5.out.cell (p := ⟨g, 2, none⟩) hg).trans c2))
   all_goals go_wp2_with fail
   all_goals go_ret
   all_goals exact ⟨cret_int HY.out.symm, HB1.out.trans (HB5.out.mono HB1.out.size)⟩
end Go.Proofs.YtkalfdjmklakdaaGreatDoor.Cal
namespace Go.Proofs.YtkalfdjmklakdaaGreatDoor.Cal
open Go.RowKit Go.Maps
theorem WeekP.unique {n A k f t e f' t' e' : Int} (h : WeekP n A k f t e) (h' : WeekP n A k f' t' e') : f = f' ∧ t = t' ∧ e = e' := by
 rcases h with ⟨a, b, c, d⟩ | ⟨a, b, c, d⟩ <;> rcases h' with ⟨a', b', c', d'⟩ | ⟨a', b', c', d'⟩
 ·exact ⟨b.trans b'.symm, c.trans c'.symm, d.trans d'.symm⟩
 ·omega
 ·omega
 ·exact ⟨b.trans b'.symm, c.trans c'.symm, d.trans d'.symm⟩
theorem MonP.unique {M f t e f' t' e' : Int} (h : MonP M f t e) (h' : MonP M f' t' e') : f = f' ∧ t = t' ∧ e = e' := by
 rcases h with ⟨a, b, c, d⟩ | ⟨a, b, c, d⟩ <;> rcases h' with ⟨a', b', c', d'⟩ | ⟨a', b', c', d'⟩
 ·exact ⟨b.trans b'.symm, c.trans c'.symm, d.trans d'.symm⟩
 ·omega
 ·omega
 ·exact ⟨b.trans b'.symm, c.trans c'.symm, d.trans d'.symm⟩
theorem HalfP.unique {M f t e f' t' e' : Int} (h : HalfP M f t e) (h' : HalfP M f' t' e') : f = f' ∧ t = t' ∧ e = e' := by
 rcases h with ⟨a, b, c, d⟩ | ⟨a, p, b, c, d⟩ | ⟨a, p, b, c, d⟩ <;> rcases h' with ⟨a', b', c', d'⟩ | ⟨a', p', b', c', d'⟩ | ⟨a', p', b', c', d'⟩ <;>
 first
 | exact ⟨b.trans b'.symm, c.trans c'.symm, d.trans d'.symm⟩
 | (exfalso; omega)
theorem PerIs.unique {K A k f t e f' t' e' : Int} (h : PerIs K A k f t e) (h' : PerIs K A k f' t' e') : f = f' ∧ t = t' ∧ e = e' := by
 rcases h with ⟨a, b⟩ | ⟨a, k0, m0, d0, hc, b⟩ | ⟨a, k0, m0, d0, hc, b⟩ <;> rcases h' with ⟨a', b'⟩ | ⟨a', k0', m0', d0', hc', b'⟩ | ⟨a', k0', m0', d0', hc', b'⟩
 ·exact b.unique b'
 ·omega
 ·omega
 ·omega
 ·obtain ⟨rfl, rfl, rfl⟩ := hc.unique hc'
  exact b.unique b'
 ·omega
 ·omega
 ·omega
 ·obtain ⟨rfl, rfl, rfl⟩ := hc.unique hc'
  exact b.unique b'
theorem AtIs.unique {K A L k f t e f' t' e' : Int} (h : AtIs K A L k f t e) (h' : AtIs K A L k f' t' e') : f = f' ∧ t = t' ∧ e = e' := by
 rcases h with ⟨a, b, c, d⟩ | ⟨a, ⟨p, b, c, d⟩ | ⟨p, b⟩⟩ <;> rcases h' with ⟨a', b', c', d'⟩ | ⟨a', ⟨p', b', c', d'⟩ | ⟨p', b'⟩⟩
 ·exact ⟨b.trans b'.symm, c.trans c'.symm, d.trans d'.symm⟩
 ·exact absurd a' a
 ·exact absurd a' a
 ·exact absurd a a'
 ·exact ⟨b.trans b'.symm, c.trans c'.symm, d.trans d'.symm⟩
 ·omega
 ·exact absurd a a'
 ·omega
 ·exact b.unique b'
end Go.Proofs.YtkalfdjmklakdaaGreatDoor.Cal
