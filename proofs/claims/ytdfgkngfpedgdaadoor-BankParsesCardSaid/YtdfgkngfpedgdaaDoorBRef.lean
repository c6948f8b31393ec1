/-
  Promises P1, P2: the walks of the reference's IsDigit, IsLetter, AllDigits, IsPayee, Number, Digits (of one) and Padded; numbers with noughts ahead, as lists of bytes.
-/
import Derived.Test.YtdfgkngfpedgdaaDoorBText
import Derived.Lib.ItoaNum
import Derived.Laws.IdiomStrings
namespace Go.Proofs.YtdfgkngfpedgdaaDoor
open Go.RowKit

theorem isDigit_ref (s : ByteArray) (j : Nat) (w : World) : Calls Tryd.prog 27 #[.string s, .int .i64 (j : Int)] w fun e w' => e = .returned (.bool (digB (bt s j))) ∧ w' = w := by
  by_cases h : j < s.size
  · have hb := bt_in h
    have h' : (j : Int) < (s.size : Int) := by omega
    by_cases h1 : 48 ≤ (s[j].toNat : Int)
    · have H : Hid (digB (bt s j) = decide ((s[j].toNat : Int) ≤ 57)) := by unfold Hid digB; rw [hb, Bool.eq_iff_iff]; simp; omega
      clear hb
      go_enter Tryd.func27, Tryd.ntmps27
      go_wp2
      go_ret
      exact ⟨tret_bool (by rw [H.out]; try (simp <;> omega)), rfl⟩
    · have H : Hid (digB (bt s j) = false) := decide_eq_false (by rw [hb]; omega)
      have hd : decide (48 ≤ (s[j].toNat : Int)) = false := decide_eq_false h1
      clear hb
      go_enter Tryd.func27, Tryd.ntmps27
      go_wp2
      go_ret
      exact ⟨tret_bool (by rw [H.out]; try (simp <;> omega)), rfl⟩
  · have H : Hid (digB (bt s j) = false) := decide_eq_false (by rw [bt_out h]; omega)
    have hd : decide ((j : Int) < (s.size : Int)) = false := decide_eq_false (by omega)
    go_enter Tryd.func27, Tryd.ntmps27
    go_wp2
    go_ret
    exact ⟨tret_bool (by rw [H.out]; try (simp <;> omega)), rfl⟩
theorem isLetter_ref (s : ByteArray) (j : Nat) (w : World) : Calls Tryd.prog 56 #[.string s, .int .i64 (j : Int)] w fun e w' => e = .returned (.bool (letB (bt s j))) ∧ w' = w := by
  by_cases h : j < s.size
  · have hb := bt_in h
    have h' : (j : Int) < (s.size : Int) := by omega
    by_cases h1 : 97 ≤ (s[j].toNat : Int)
    · have H : Hid (letB (bt s j) = decide ((s[j].toNat : Int) ≤ 122)) := by unfold Hid letB; rw [hb, Bool.eq_iff_iff]; simp; omega
      clear hb
      go_enter Tryd.func56, Tryd.ntmps56
      go_wp2
      go_ret
      exact ⟨tret_bool (by rw [H.out]; try (simp <;> omega)), rfl⟩
    · have H : Hid (letB (bt s j) = false) := decide_eq_false (by rw [hb]; omega)
      have hd : decide (97 ≤ (s[j].toNat : Int)) = false := decide_eq_false h1
      clear hb
      go_enter Tryd.func56, Tryd.ntmps56
      go_wp2
      go_ret
      exact ⟨tret_bool (by rw [H.out]; try (simp <;> omega)), rfl⟩
  · have H : Hid (letB (bt s j) = false) := decide_eq_false (by rw [bt_out h]; omega)
    have hd : decide ((j : Int) < (s.size : Int)) = false := decide_eq_false (by omega)
    go_enter Tryd.func56, Tryd.ntmps56
    go_wp2
    go_ret
    exact ⟨tret_bool (by rw [H.out]; try (simp <;> omega)), rfl⟩
set_option maxRecDepth 100000 in
set_option maxHeartbeats 1000000 in
theorem allDigits_ref (s : ByteArray) (n : Int) (w : World) (hs : s.size ≤ 9223372036854775807) :
    Calls Tryd.prog 11 #[.string s, .int .i64 n] w fun e w' => e = .returned (.bool (allT digB s && decide ((s.size : Int) = n))) ∧ w' = w := by
  go_enter Tryd.func11, Tryd.ntmps11
  go_wp2_with fail
  go_loop [5] (fun i => ∃ k : Nat, k ≤ s.size ∧ i = .int .i64 k ∧ ∀ j, j < k → digB (bt s j) = true) (fun i => s.size - (intOf i).toNat)
  case atStart => exact ⟨0, Nat.zero_le _, rfl, fun j hj => by omega⟩
  case round =>
    obtain ⟨k, hk, rfl, hall⟩ := hrel
    have HA := Lib.hid hall
    clear hall
    by_cases hlt : k < s.size
    · have hlt' : (k : Int) < (s.size : Int) := by omega
      cases hr : digB (bt s k)
      · have HF := Lib.hid (allT_not (P := digB) hlt hr)
        go_wp2_with (go_at_call 27; refine (isDigit_ref _ _ _).mono ?_; rintro e w' ⟨rfl, h'⟩; subst w'; rw [hr])
        go_ret
        exact ⟨tret_bool (by rw [HF.out]; rfl), rfl⟩
      · go_wp2_with (go_at_call 27; refine (isDigit_ref _ _ _).mono ?_; rintro e w' ⟨rfl, h'⟩; subst w'; rw [hr])
        go_round
        case rel =>
          refine ⟨k + 1, by omega, by go_num, fun j hj => ?_⟩
          by_cases e : j = k
          · subst e; exact hr
          · exact HA.out j (by omega)
        case measure => simp [intOf]; omega
    · obtain rfl : k = s.size := by omega
      have HF : Hid (allT digB s = true) := allT_iff.2 HA.out
      go_wp2_with fail
      go_ret
      exact ⟨tret_bool (by rw [HF.out, Bool.eq_iff_iff]; simp), rfl⟩
/-- Is it somebody's name? -/
def nameB (s : ByteArray) : Bool := allT letB s && decide (1 ≤ s.size ∧ s.size ≤ 12)
set_option maxRecDepth 100000 in
set_option maxHeartbeats 1000000 in
theorem isPayee_ref (s : ByteArray)  (w : World) (hs : s.size ≤ 9223372036854775807) :
    Calls Tryd.prog 43 #[.string s] w fun e w' => e = .returned (.bool (allT letB s && decide (1 ≤ s.size ∧ s.size ≤ 12))) ∧ w' = w := by
  go_enter Tryd.func43, Tryd.ntmps43
  go_wp2_with fail
  go_loop [3] (fun i => ∃ k : Nat, k ≤ s.size ∧ i = .int .i64 k ∧ ∀ j, j < k → letB (bt s j) = true) (fun i => s.size - (intOf i).toNat)
  case atStart => exact ⟨0, Nat.zero_le _, rfl, fun j hj => by omega⟩
  case round =>
    obtain ⟨k, hk, rfl, hall⟩ := hrel
    have HA := Lib.hid hall
    clear hall
    by_cases hlt : k < s.size
    · have hlt' : (k : Int) < (s.size : Int) := by omega
      cases hr : letB (bt s k)
      · have HF := Lib.hid (allT_not (P := letB) hlt hr)
        go_wp2_with (go_at_call 56; refine (isLetter_ref _ _ _).mono ?_; rintro e w' ⟨rfl, h'⟩; subst w'; rw [hr])
        go_ret
        exact ⟨tret_bool (by rw [HF.out]; rfl), rfl⟩
      · go_wp2_with (go_at_call 56; refine (isLetter_ref _ _ _).mono ?_; rintro e w' ⟨rfl, h'⟩; subst w'; rw [hr])
        go_round
        case rel =>
          refine ⟨k + 1, by omega, by go_num, fun j hj => ?_⟩
          by_cases e : j = k
          · subst e; exact hr
          · exact HA.out j (by omega)
        case measure => simp [intOf]; omega
    · obtain rfl : k = s.size := by omega
      have HF : Hid (allT letB s = true) := allT_iff.2 HA.out
      by_cases h1 : 1 ≤ s.size
      · have h1' : (1 : Int) ≤ (s.size : Int) := by omega
        go_wp2_with fail
        go_ret
        exact ⟨tret_bool (by rw [HF.out, Bool.eq_iff_iff]; simp <;> omega), rfl⟩
      · have h1B : decide ((1 : Int) ≤ (s.size : Int)) = false := decide_eq_false (by omega)
        have h1N : decide (1 ≤ s.size) = false := decide_eq_false h1
        have HG : Hid ((allT letB s && decide (1 ≤ s.size ∧ s.size ≤ 12)) = false) := by unfold Hid; rw [HF.out, Bool.true_and]; exact decide_eq_false (by omega)
        go_wp2_with fail
        go_ret
        first | exact ⟨tret_bool HG.out.symm, rfl⟩ | exact ⟨rfl, rfl⟩ | exact ⟨tret_bool rfl, rfl⟩
set_option maxRecDepth 100000 in
set_option maxHeartbeats 1000000 in
theorem number_ref (s : ByteArray) (w : World) (hd : allT digB s = true) (hz : s.size ≤ 15) :
    Calls Tryd.prog 34 #[.string s] w fun e w' => e = .returned (.int .i64 (numN s s.size)) ∧ w' = w := by
  have HD := Lib.hid (allT_iff.1 hd)
  clear hd
  go_enter Tryd.func34, Tryd.ntmps34
  go_wp2_with fail
  go_loop [3, 4] (fun v i => ∃ k : Nat, k ≤ s.size ∧ i = .int .i64 k ∧ v = .int .i64 (numN s k)) (fun _ i => s.size - (intOf i).toNat)
  case atStart => exact ⟨0, Nat.zero_le _, rfl, rfl⟩
  case round =>
    obtain ⟨k, hk, rfl, rfl⟩ := hrel
    by_cases hlt : k < s.size
    · have hlt' : (k : Int) < (s.size : Int) := by omega
      have hdp := dig_bd (HD.out k hlt)
      have hbp := bt_in hlt
      have hcap := numN_cap (s := s) (k := k) (by omega) (fun j hj => HD.out j (by omega))
      have HN : Hid (numN s (k + 1) = 10 * numN s k + (s[k].toNat : Int) - 48) := by unfold Hid; rw [numN, hbp]; omega
      rw [hbp] at hdp
      generalize numN s k = n at *
      obtain ⟨hb0, hb1⟩ := hdp
      obtain ⟨hn0, hn1⟩ := hcap
      clear hbp
      go_wp2_with fail
      go_round
      case rel => exact ⟨k + 1, by omega, by go_num, by rw [HN.out]⟩
      case measure => simp [intOf]; omega
    · obtain rfl : k = s.size := by omega
      go_wp2_with fail
      go_ret
      exact ⟨rfl, rfl⟩
end Go.Proofs.YtdfgkngfpedgdaaDoor
