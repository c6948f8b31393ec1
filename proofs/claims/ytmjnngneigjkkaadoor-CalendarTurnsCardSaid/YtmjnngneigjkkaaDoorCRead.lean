/-
  Promise B2 (reading), first part: bytes of a text; walks of fits and number.
-/
import Derived.Test.YtmjnngneigjkkaaDoorCRefD
import Derived.Test.YtmjnngneigjkkaaDoorCDay
import Derived.Lib.Hide
namespace Go.Proofs.YtmjnngneigjkkaaDoor
open Go.RowKit

/-- The byte at a place, or -1 behind the end. -/
def bt (s : ByteArray) (j : Nat) : Int := if h : j < s.size then (s[j].toNat : Int) else -1
theorem bt_in {s : ByteArray} {j : Nat} (h : j < s.size) : bt s j = (s[j].toNat : Int) := by unfold bt; rw [dif_pos h]
theorem bt_out {s : ByteArray} {j : Nat} (h : ¬ j < s.size) : bt s j = -1 := by unfold bt; rw [dif_neg h]
/-- Does a byte fit the pattern's? -/
def fitB (c q : Int) : Bool := if q = 48 then decide (48 ≤ c ∧ c ≤ 57) else decide (c = q)
theorem fits_any (c q : Int) (w : World) : Calls Tryd.prog 48 #[.int .u8 c, .int .u8 q] w fun e w' => e = .returned (.bool (fitB c q)) ∧ w' = w := by
  by_cases hq : q = 48
  · subst hq
    by_cases h1 : 48 ≤ c
    · have H : Hid (fitB c 48 = decide (c ≤ 57)) := by unfold Hid fitB; rw [if_pos rfl]; simp [h1]
      go_enter Tryd.func48, Tryd.ntmps48
      go_wp2
      go_ret
      exact ⟨cret_bool (by rw [H.out]; try rfl), rfl⟩
    · have H : Hid (fitB c 48 = false) := by unfold Hid fitB; rw [if_pos rfl]; exact decide_eq_false (by omega)
      have hd : decide (48 ≤ c) = false := decide_eq_false h1
      go_enter Tryd.func48, Tryd.ntmps48
      go_wp2
      go_ret
      exact ⟨cret_bool (by rw [H.out]; try rfl), rfl⟩
  · have H : Hid (fitB c q = decide (c = q)) := if_neg hq
    have hd : decide (q = 48) = false := decide_eq_false hq
    go_enter Tryd.func48, Tryd.ntmps48
    go_wp2
    go_ret
    exact ⟨cret_bool (by rw [H.out]; try rfl), rfl⟩

/-- The number of the first digits of a text. -/
def numN (s : ByteArray) : Nat → Int
  | 0 => 0
  | k + 1 => 10 * numN s k + (bt s k - 48)
theorem numN_bd (s : ByteArray) (h : ∀ j, j < s.size → 48 ≤ bt s j ∧ bt s j ≤ 57) : ∀ k, k ≤ s.size → 0 ≤ numN s k ∧ numN s k < 10 ^ k
  | 0, _ => ⟨Int.le_refl _, show (0 : Int) < 10 ^ 0 by decide⟩
  | k + 1, hk => by
    have := numN_bd s h k (by omega)
    have := h k (by omega)
    have e : (10 : Int) ^ (k + 1) = 10 ^ k * 10 := Int.pow_succ ..
    rw [numN, e]
    omega
set_option maxHeartbeats 1000000 in
theorem number_any (s : ByteArray) (w : World) (hs : s.size ≤ 4) (h : ∀ j, j < s.size → 48 ≤ bt s j ∧ bt s j ≤ 57) : Calls Tryd.prog 49 #[.string s] w fun e w' => e = .returned (.int .i64 (numN s s.size)) ∧ w' = w := by
  have HD := Lib.hid h
  have HN := Lib.hid (numN_bd s h)
  clear h
  go_enter Tryd.func49, Tryd.ntmps49
  go_wp2
  go_loopw [3, 7] (fun nv iv wr => ∃ k : Nat, nv = .int .i64 (numN s k) ∧ iv = .int .i64 (k : Int) ∧ k ≤ s.size ∧ wr = w) (fun _ iv _ => (4 - intOf iv).toNat)
  case atStart => exact ⟨0, rfl, rfl, Nat.zero_le _, rfl⟩
  case round =>
    obtain ⟨k, rfl, rfl, hk, hw⟩ := hrel
    subst hw
    have hb := HN.out k hk
    have hp : (10 : Int) ^ k ≤ 10000 := by
      have : k = 0 ∨ k = 1 ∨ k = 2 ∨ k = 3 ∨ k = 4 := by omega
      rcases this with rfl | rfl | rfl | rfl | rfl <;> decide
    by_cases hlt : k < s.size
    · have hlt' : (k : Int) < (s.size : Int) := by omega
      have hd := HD.out k hlt
      have HE : Hid (numN s (k + 1) = 10 * numN s k + (bt s k - 48)) := rfl
      rw [bt_in hlt] at hd
      have hbt := Lib.hid (bt_in hlt)
      have n0 : 0 ≤ numN s k := hb.1
      have n1 : numN s k ≤ 10000 := by omega
      clear hb hp
      generalize numN s k = v at *
      go_wp2
      go_roundw
      case rel => exact ⟨k + 1, by rw [HE.out, hbt.out], by go_num, by omega, by first | trivial | rfl⟩
      case measure => simp [intOf] <;> omega
    · obtain rfl : k = s.size := by omega
      have hdl : decide ((s.size : Int) < (s.size : Int)) = false := decide_eq_false (by omega)
      go_wp2
      go_ret
      exact ⟨rfl, rfl⟩
/-- Is a digit there? -/
def digB (s : ByteArray) (j : Nat) : Bool := decide (48 ≤ bt s j ∧ bt s j ≤ 57)
theorem isDigit_refN (s : ByteArray) (j : Nat) (w : World) : Calls Tryd.prog 50 #[.string s, .int .i64 (j : Int)] w fun e w' => e = .returned (.bool (digB s j)) ∧ w' = w := by
  by_cases h : j < s.size
  · have hb := bt_in h
    have h' : (j : Int) < (s.size : Int) := by omega
    by_cases h1 : 48 ≤ (s[j].toNat : Int)
    · by_cases h2 : (s[j].toNat : Int) ≤ 57
      · have H : Hid (digB s j = true) := decide_eq_true (by rw [hb]; exact ⟨h1, h2⟩)
        clear hb
        go_enter Tryd.func50, Tryd.ntmps50
        go_wp2
        go_ret
        exact ⟨cret_bool (by rw [H.out]; try (simp <;> omega)), rfl⟩
      · have H : Hid (digB s j = false) := decide_eq_false (by rw [hb]; omega)
        clear hb
        go_enter Tryd.func50, Tryd.ntmps50
        go_wp2
        go_ret
        exact ⟨cret_bool (by rw [H.out]; try (simp <;> omega)), rfl⟩
    · have H : Hid (digB s j = false) := decide_eq_false (by rw [hb]; omega)
      have hd : decide (48 ≤ (s[j].toNat : Int)) = false := decide_eq_false h1
      clear hb
      go_enter Tryd.func50, Tryd.ntmps50
      go_wp2
      go_ret
      exact ⟨cret_bool (by rw [H.out]; try (simp <;> omega)), rfl⟩
  · have H : Hid (digB s j = false) := decide_eq_false (by rw [bt_out h]; omega)
    have hd : decide ((j : Int) < (s.size : Int)) = false := decide_eq_false (by omega)
    go_enter Tryd.func50, Tryd.ntmps50
    go_wp2
    go_ret
    exact ⟨cret_bool (by rw [H.out]; try (simp <;> omega)), rfl⟩
theorem isDigit_ref (s : ByteArray) (j : Int) (w : World) (h : 0 ≤ j) : Calls Tryd.prog 50 #[.string s, .int .i64 j] w fun e w' => e = .returned (.bool (digB s j.toNat)) ∧ w' = w := by
  obtain ⟨m, rfl⟩ := Int.eq_ofNat_of_zero_le h
  exact isDigit_refN s m w
end Go.Proofs.YtmjnngneigjkkaaDoor
