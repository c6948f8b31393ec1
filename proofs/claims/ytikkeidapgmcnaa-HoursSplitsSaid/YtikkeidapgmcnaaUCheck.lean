/-
  Promise K1: walks of isNoTime, of the search for one that is none, of rise, and of the reference's CheckTimes.
-/
import Derived.Test.YtikkeidapgmcnaaUBase
namespace Go.Proofs.Ytikkeidapgmcnaa
open Go.RowKit

theorem isNoTime_any (n : Int) (w : World) : Calls Try.prog 24 #[.int .i64 n] w fun e w' => e = .returned (.bool (!timeB n)) ∧ w' = w := by
  by_cases h1 : n < 0
  · have H : Hid (timeB n = false) := timeB_no.2 (.inl h1)
    go_enter Try.func24, Try.ntmps24
    go_wp2
    go_ret
    exact ⟨uret_bool (by rw [H.out]; try simp), rfl⟩
  · have hd : decide (n < 0) = false := decide_eq_false h1
    by_cases h2 : 1440 < n
    · have H : Hid (timeB n = false) := timeB_no.2 (.inr h2)
      go_enter Try.func24, Try.ntmps24
      go_wp2
      go_ret
      exact ⟨uret_bool (by rw [H.out]; try simp <;> omega), rfl⟩
    · have H : Hid (timeB n = true) := timeB_iff.2 (by omega)
      have hd2 : decide (1440 < n) = false := decide_eq_false h2
      go_enter Try.func24, Try.ntmps24
      go_wp2
      go_ret
      exact ⟨uret_bool (by rw [H.out]; try simp <;> omega), rfl⟩
set_option maxRecDepth 100000 in
set_option maxHeartbeats 1000000 in
theorem index_any (a : Option Addr) (n cap : Nat) (l : List Int) (w : World) (hc : Came w a l) (hn : l.length = n) (hm : n ≤ maxLen) :
    Calls Try.prog 28 #[.slice a n cap, .func (.func 24) #[] #[]] w fun e w' => ∃ i : Int, e = .returned (.int .i64 i) ∧ -1 ≤ i ∧ (i = -1 ↔ timesB l = true) ∧ Below w.heap.size w w' := by
  have hm' : n ≤ 9223372036854775807 := by unfold maxLen at hm; omega
  have HO := Lib.hid (fun h0 => hc.open hn h0)
  clear hm hc
  go_enter Try.func28, Try.ntmps28
  go_wp2_with fail
  go_loopw [8] (fun i wr => ∃ k : Nat, k ≤ n ∧ i = .int .i64 k ∧ (∀ j, j < k → timeB (nth l j) = true) ∧ Below w.heap.size w wr) (fun i _ => n - (intOf i).toNat)
  case atStart => exact ⟨0, Nat.zero_le _, rfl, fun j hj => by omega, Below.refl _ _⟩
  case round =>
    obtain ⟨k, hk, rfl, hall, hb⟩ := hrel
    have HA := Lib.hid hall
    have HB := Lib.hid hb
    clear hall hb
    by_cases hlt : k < n
    · have hlt' : (k : Int) < (n : Int) := by omega
      obtain ⟨b, off, rfl, hcell⟩ := HO.out (by omega)
      have x0 := hcell wr HB.out k hlt
      clear hcell
      cases hr : timeB (nth l k)
      · have HE := Lib.hid (timesB_not (l := l) (j := k) (by omega) hr)
        go_wp2_with fail
        refine (isNoTime_any _ _).mono ?_
        rintro e w' ⟨rfl, h'⟩
        subst w'
        rw [hr]
        go_wp2_with fail
        go_ret
        exact ⟨k, rfl, by omega, ⟨fun h => by omega, fun h => by rw [HE.out] at h; cases h⟩, HB.out⟩
      · go_wp2_with fail
        refine (isNoTime_any _ _).mono ?_
        rintro e w' ⟨rfl, h'⟩
        subst w'
        rw [hr]
        go_wp2_with fail
        go_roundw
        case rel =>
          refine ⟨k + 1, by omega, by go_num, ?_, HB.out⟩
          intro j hj
          by_cases e : j = k
          · subst e; exact hr
          · exact HA.out j (by omega)
        case measure => simp [intOf]; omega
    · have hkn : k = n := by omega
      subst hkn
      have HL := Lib.hid (timesB_of (l := l) (fun j hj => HA.out j (by omega)))
      go_wp2_with fail
      go_ret
      exact ⟨-1, rfl, by omega, ⟨fun _ => HL.out, fun _ => rfl⟩, HB.out⟩
set_option maxHeartbeats 1000000 in
theorem contains_any (a : Option Addr) (n cap : Nat) (l : List Int) (w : World) (hc : Came w a l) (hn : l.length = n) (hm : n ≤ maxLen) :
    Calls Try.prog 23 #[.slice a n cap, .func (.func 24) #[] #[]] w fun e w' => e = .returned (.bool (!timesB l)) ∧ Below w.heap.size w w' := by
  have HC := Lib.hid hc
  have HM := Lib.hid hm
  clear hc hm
  go_enter Try.func23, Try.ntmps23
  go_wp2_with fail
  refine (index_any a n cap l _ HC.out hn HM.out).mono ?_
  rintro e w1 ⟨i, rfl, hi, hall, hb⟩
  have HB := Lib.hid hb
  clear hb
  have HR : Hid ((!timesB l) = decide (0 ≤ i)) := by
    unfold Hid
    cases h : timesB l
    · rw [h] at hall
      have : i ≠ -1 := fun e => by have := hall.1 e; cases this
      simp; omega
    · obtain rfl := hall.2 h
      simp
  clear hall
  go_wp2_with fail
  go_ret
  exact ⟨uret_bool (by rw [HR.out]), HB.out⟩
set_option maxRecDepth 100000 in
set_option maxHeartbeats 1000000 in
theorem rise_any (a : Option Addr) (n cap : Nat) (l : List Int) (w : World) (hc : Came w a l) (hn : l.length = n) (hm : n ≤ maxLen) :
    Calls Try.prog 25 #[.slice a n cap] w fun e w' => e = .returned (.bool (upI l)) ∧ Below w.heap.size w w' := by
  have hm' : n ≤ 9223372036854775807 := by unfold maxLen at hm; omega
  have HO := Lib.hid (fun h0 => hc.open hn h0)
  clear hm hc
  go_enter Try.func25, Try.ntmps25
  go_wp2_with fail
  go_loopw [3] (fun i wr => ∃ r : Nat, (r + 1 ≤ n ∨ r = 0) ∧ i = .int .i64 ((r : Int) + 1) ∧ Below w.heap.size w wr ∧ ∀ j, j < r → nth l j < nth l (j + 1)) (fun i _ => n - (intOf i).toNat)
  case atStart => exact ⟨0, .inr rfl, rfl, Below.refl _ _, fun j hj => by omega⟩
  case round =>
    obtain ⟨r, hrk, rfl, hb, hall⟩ := hrel
    have HA := Lib.hid hall
    have HB := Lib.hid hb
    clear hall hb
    by_cases hlt : r + 1 < n
    · have hlt' : (r : Int) + 1 < (n : Int) := by omega
      have hlt0 : (r : Int) < (n : Int) := by omega
      obtain ⟨b, off, rfl, hcell⟩ := HO.out (by omega)
      have x0 := hcell _ HB.out r (by omega)
      have y0 := hcell _ HB.out (r + 1) (by omega)
      clear hcell
      have hsub : (r : Int) + 1 - 1 = (r : Int) := by omega
      have htn : ((r : Int) + 1).toNat = r + 1 := by omega
      by_cases hr : nth l (r + 1) ≤ nth l r
      · have HF := Lib.hid (upI_not (l := l) (j := r) (by omega) hr)
        go_wp2_with fail
        go_quiet (fail)
        go_wp2_with fail
        go_ret
        exact ⟨uret_bool HF.out.symm, ubelow_dN HB.out _⟩
      · have hrB : decide (nth l (r + 1) ≤ nth l r) = false := decide_eq_false hr
        go_wp2_with fail
        go_quiet (fail)
        go_wp2_with fail
        go_roundw
        case rel =>
          refine ⟨r + 1, .inl (by omega), by go_num, ubelow_dN HB.out _, ?_⟩
          intro j hj
          by_cases e : j = r
          · subst e; omega
          · exact HA.out j (by omega)
        case measure => simp [intOf]; omega
    · have hnl : ¬ ((r : Int) + 1 < (n : Int)) := by omega
      have HF := Lib.hid (upI_iff (l := l).2 (fun j hj => HA.out j (by omega)))
      go_wp2_with fail
      go_ret
      exact ⟨uret_bool HF.out.symm, HB.out⟩
end Go.Proofs.Ytikkeidapgmcnaa
