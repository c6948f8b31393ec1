/-
  Promise A3 (reading), first part: bytes of a text, its digits, and walks of isDigitAt, IsDigit, wholeEnd and withDigits: each returns what the plain functions say.
-/
import Derived.Test.YtmchanddfodhaaaDoorMText
import Derived.Lib.Hide
namespace Go.Proofs.YtmchanddfodhaaaDoor.Mny
open Go.RowKit

/-- The byte at a place, or -1 behind the end. -/
def bt (s : ByteArray) (j : Nat) : Int := if h : j < s.size then (s[j].toNat : Int) else -1
def digB (s : ByteArray) (j : Nat) : Bool := decide (48 ≤ bt s j ∧ bt s j ≤ 57)
theorem bt_in {s : ByteArray} {j : Nat} (h : j < s.size) : bt s j = (s[j].toNat : Int) := by unfold bt; rw [dif_pos h]
theorem bt_out {s : ByteArray} {j : Nat} (h : ¬ j < s.size) : bt s j = -1 := by unfold bt; rw [dif_neg h]
theorem bt_bd (s : ByteArray) (j : Nat) : -1 ≤ bt s j ∧ bt s j ≤ 255 := by
  by_cases h : j < s.size
  · rw [bt_in h]
    have := UInt8.toNat_lt s[j]
    omega
  · rw [bt_out h]; omega

theorem isDigitAt_anyN (s : ByteArray) (j : Nat) (w : World) : Calls Tryd.prog 86 #[.string s, .int .i64 (j : Int)] w fun e w' => e = .returned (.bool (digB s j)) ∧ w' = w := by
  by_cases h : j < s.size
  · have hb := bt_in h
    have h' : (j : Int) < (s.size : Int) := by omega
    by_cases h1 : 48 ≤ (s[j].toNat : Int)
    · by_cases h2 : (s[j].toNat : Int) ≤ 57
      · have H : Hid (digB s j = true) := decide_eq_true (by rw [hb]; exact ⟨h1, h2⟩)
        clear hb
        go_enter Tryd.func86, Tryd.ntmps86
        go_wp2
        go_ret
        exact ⟨ret_bool (by rw [H.out]; try (simp <;> omega)), rfl⟩
      · have H : Hid (digB s j = false) := decide_eq_false (by rw [hb]; omega)
        clear hb
        go_enter Tryd.func86, Tryd.ntmps86
        go_wp2
        go_ret
        exact ⟨ret_bool (by rw [H.out]; try (simp <;> omega)), rfl⟩
    · have H : Hid (digB s j = false) := decide_eq_false (by rw [hb]; omega)
      have hd : decide (48 ≤ (s[j].toNat : Int)) = false := decide_eq_false h1
      clear hb
      go_enter Tryd.func86, Tryd.ntmps86
      go_wp2
      go_ret
      exact ⟨ret_bool (by rw [H.out]; try (simp <;> omega)), rfl⟩
  · have H : Hid (digB s j = false) := decide_eq_false (by rw [bt_out h]; omega)
    have hd : decide ((j : Int) < (s.size : Int)) = false := decide_eq_false (by omega)
    go_enter Tryd.func86, Tryd.ntmps86
    go_wp2
    go_ret
    exact ⟨ret_bool (by rw [H.out]; try (simp <;> omega)), rfl⟩
theorem isDigitAt_any (s : ByteArray) (j : Int) (w : World) (h : 0 ≤ j) : Calls Tryd.prog 86 #[.string s, .int .i64 j] w fun e w' => e = .returned (.bool (digB s j.toNat)) ∧ w' = w := by
  obtain ⟨m, rfl⟩ := Int.eq_ofNat_of_zero_le h
  exact isDigitAt_anyN s m w

/-- Where digits end. -/
def dEnd (s : ByteArray) : Nat → Nat → Nat
  | 0, a => a
  | f + 1, a => if digB s a = true then dEnd s f (a + 1) else a
def wEnd (s : ByteArray) (a : Nat) : Nat := if bt s a = 48 then a + 1 else dEnd s (s.size - a) a
theorem digB_lt {s : ByteArray} {j : Nat} (h : digB s j = true) : j < s.size := by
  by_cases hj : j < s.size
  · exact hj
  · have := of_decide_eq_true h
    rw [bt_out hj] at this
    omega
theorem dEnd_step {s : ByteArray} {k : Nat} (h : digB s k = true) : dEnd s (s.size - k) k = dEnd s (s.size - (k + 1)) (k + 1) := by
  have := digB_lt h
  rw [show s.size - k = (s.size - (k + 1)) + 1 from by omega, dEnd, if_pos h]
theorem dEnd_stop {s : ByteArray} {k : Nat} (h : digB s k = false) (f : Nat) : dEnd s f k = k := by
  cases f with
  | zero => rfl
  | succ f => rw [dEnd, if_neg (by simp [h])]
theorem dEnd_ge (s : ByteArray) : ∀ f a, a ≤ dEnd s f a
  | 0, a => Nat.le_refl _
  | f + 1, a => by
    unfold dEnd
    split
    · exact Nat.le_trans (Nat.le_succ a) (dEnd_ge s f (a + 1))
    · exact Nat.le_refl _
theorem dEnd_le (s : ByteArray) : ∀ f a, a ≤ s.size → dEnd s f a ≤ s.size
  | 0, _, h => h
  | f + 1, a, h => by
    unfold dEnd
    split
    · exact dEnd_le s f (a + 1) (digB_lt (by assumption))
    · exact h
theorem dEnd_dig (s : ByteArray) : ∀ f a j, a ≤ j → j < dEnd s f a → digB s j = true
  | 0, a, j, h1, h2 => by simp [dEnd] at h2; omega
  | f + 1, a, j, h1, h2 => by
    unfold dEnd at h2
    split at h2
    · by_cases e : j = a
      · subst e; assumption
      · exact dEnd_dig s f (a + 1) j (by omega) h2
    · omega
theorem wEnd_ge (s : ByteArray) (a : Nat) : a ≤ wEnd s a := by
  unfold wEnd
  split
  · omega
  · exact dEnd_ge s _ a
theorem wEnd_le (s : ByteArray) (a : Nat) (h : a ≤ s.size) : wEnd s a ≤ s.size := by
  unfold wEnd
  split
  · have : a < s.size := by
      by_cases hj : a < s.size
      · exact hj
      · rename_i h48; rw [bt_out hj] at h48; omega
    omega
  · exact dEnd_le s _ a h
theorem wEnd_dig (s : ByteArray) (a j : Nat) (h1 : a ≤ j) (h2 : j < wEnd s a) : digB s j = true := by
  unfold wEnd at h2
  split at h2
  · have : j = a := by omega
    subst this
    rename_i h48
    exact decide_eq_true (by rw [h48]; omega)
  · exact dEnd_dig s _ a j h1 h2

set_option maxHeartbeats 1000000 in
theorem wholeEnd_any (s : ByteArray) (a : Nat) (w : World) (hs : s.size ≤ maxLen) (ha : a ≤ s.size) :
    Calls Tryd.prog 68 #[.string s, .int .i64 (a : Int)] w fun e w' => e = .returned (.int .i64 (wEnd s a : Nat)) ∧ w' = w := by
  unfold maxLen at hs
  have loop : bt s a ≠ 48 → wEnd s a = dEnd s (s.size - a) a := fun h => by unfold wEnd; rw [if_neg h]
  by_cases h0 : a < s.size ∧ bt s a = 48
  · obtain ⟨h1, h2⟩ := h0
    have H : Hid (wEnd s a = a + 1) := by unfold Hid wEnd; rw [if_pos h2]
    rw [bt_in h1] at h2
    have h1' : (a : Int) < (s.size : Int) := by omega
    have h2' : ((s[a].toNat : Int) == 48) = true := by rw [h2]; rfl
    clear loop h2
    go_enter Tryd.func68, Tryd.ntmps68
    go_wp2_with fail
    go_ret
    exact ⟨ret_int (by rw [H.out]; rfl), rfl⟩
  · have hne : bt s a ≠ 48 := fun h => by
      by_cases h1 : a < s.size
      · exact h0 ⟨h1, h⟩
      · rw [bt_out h1] at h; omega
    have H : Hid (wEnd s a = dEnd s (s.size - a) a) := loop hne
    clear loop h0
    by_cases h1 : a < s.size
    · rw [bt_in h1] at hne
      have h1' : (a : Int) < (s.size : Int) := by omega
      have h2' : ((s[a].toNat : Int) == 48) = false := by simpa using hne
      clear hne
      go_enter Tryd.func68, Tryd.ntmps68
      go_wp2_with fail
      go_loop [5] (fun i => ∃ k : Nat, k ≤ s.size ∧ i = .int .i64 k ∧ Hid (dEnd s (s.size - k) k = dEnd s (s.size - a) a)) (fun i => s.size - (intOf i).toNat)
      case atStart => exact ⟨a, ha, rfl, rfl⟩
      case round =>
        obtain ⟨k, hk, rfl, HK⟩ := hrel
        cases hdk : digB s k
        · go_wp2_with (go_at_call 86; refine (isDigitAt_any _ _ _ (by omega)).mono ?_; rintro e w' ⟨rfl, rfl⟩; rw [Int.toNat_natCast, hdk])
          go_ret
          exact ⟨ret_int (by rw [H.out, ← HK.out, dEnd_stop hdk]), rfl⟩
        · have hlt := digB_lt hdk
          go_wp2_with (go_at_call 86; refine (isDigitAt_any _ _ _ (by omega)).mono ?_; rintro e w' ⟨rfl, rfl⟩; rw [Int.toNat_natCast, hdk])
          go_round
          case rel => exact ⟨k + 1, by omega, by go_num, (dEnd_step hdk).symm.trans HK.out⟩
          case measure => simp [intOf]; omega
    · have h1' : decide ((a : Int) < (s.size : Int)) = false := decide_eq_false (by omega)
      clear hne
      go_enter Tryd.func68, Tryd.ntmps68
      go_wp2_with fail
      go_loop [5] (fun i => ∃ k : Nat, k ≤ s.size ∧ i = .int .i64 k ∧ Hid (dEnd s (s.size - k) k = dEnd s (s.size - a) a)) (fun i => s.size - (intOf i).toNat)
      case atStart => exact ⟨a, ha, rfl, rfl⟩
      case round =>
        obtain ⟨k, hk, rfl, HK⟩ := hrel
        cases hdk : digB s k
        · go_wp2_with (go_at_call 86; refine (isDigitAt_any _ _ _ (by omega)).mono ?_; rintro e w' ⟨rfl, rfl⟩; rw [Int.toNat_natCast, hdk])
          go_ret
          exact ⟨ret_int (by rw [H.out, ← HK.out, dEnd_stop hdk]), rfl⟩
        · have hlt := digB_lt hdk
          go_wp2_with (go_at_call 86; refine (isDigitAt_any _ _ _ (by omega)).mono ?_; rintro e w' ⟨rfl, rfl⟩; rw [Int.toNat_natCast, hdk])
          go_round
          case rel => exact ⟨k + 1, by omega, by go_num, (dEnd_step hdk).symm.trans HK.out⟩
          case measure => simp [intOf]; omega

/-- One digit more, but no more than money. -/
def sat (n c : Int) : Int := if n ≤ 1000000000000 then 10 * n + c else n
/-- The number that k digits from a place on make, ahead of them n. -/
def vTo (s : ByteArray) (a : Nat) (n : Int) : Nat → Int
  | 0 => n
  | k + 1 => sat (vTo s a n k) (bt s (a + k) - 48)
theorem vTo_bd (s : ByteArray) (a : Nat) (n : Int) (h0 : 0 ≤ n) (h1 : n ≤ 10000000000009) (k : Nat) (hd : ∀ j, j < k → digB s (a + j) = true) : 0 ≤ vTo s a n k ∧ vTo s a n k ≤ 10000000000009 := by
  induction k with
  | zero => exact ⟨h0, h1⟩
  | succ k ih =>
    have := ih (fun j hj => hd j (by omega))
    have h := of_decide_eq_true (hd k (by omega))
    simp only [vTo, sat]
    split <;> omega
theorem vTo_stay (s : ByteArray) (a : Nat) (n : Int) (k m : Nat) (h : ¬ vTo s a n k ≤ 1000000000000) : vTo s a n (k + m) = vTo s a n k := by
  induction m with
  | zero => rfl
  | succ m ih =>
    rw [← Nat.add_assoc, vTo, ih, sat, if_neg h]

set_option maxHeartbeats 1000000 in
theorem withDigits_any (n : Int) (d : ByteArray) (w : World) (h0 : 0 ≤ n) (h1 : n ≤ 10000000000009) (hs : d.size ≤ maxLen) (hd : ∀ j, j < d.size → digB d j = true) :
    Calls Tryd.prog 70 #[.int .i64 n, .string d] w fun e w' => e = .returned (.int .i64 (vTo d 0 n d.size)) ∧ w' = w := by
  unfold maxLen at hs
  have HB : Hid (∀ k, k ≤ d.size → 0 ≤ vTo d 0 n k ∧ vTo d 0 n k ≤ 10000000000009) := fun k hk => vTo_bd d 0 n h0 h1 k (fun j hj => by rw [Nat.zero_add]; exact hd j (by omega))
  have HD := Lib.hid hd
  clear hd
  go_enter Tryd.func70, Tryd.ntmps70
  go_wp2
  go_loop [0, 5] (fun v i => ∃ k : Nat, k ≤ d.size ∧ i = .int .i64 k ∧ v = .int .i64 (vTo d 0 n k)) (fun _ i => d.size - (intOf i).toNat)
  case atStart => exact ⟨0, Nat.zero_le _, rfl, rfl⟩
  case round =>
    obtain ⟨k, hk, rfl, rfl⟩ := hrel
    obtain ⟨b0, b1⟩ := HB.out k hk
    by_cases hlt : k < d.size
    · have hlt' : (k : Int) < (d.size : Int) := by omega
      by_cases hv : vTo d 0 n k ≤ 1000000000000
      · have hdg := of_decide_eq_true (HD.out k hlt)
        have HS : Hid (vTo d 0 n (k + 1) = 10 * vTo d 0 n k + ((d[k].toNat : Int) - 48)) := by
          unfold Hid
          rw [vTo, sat, if_pos hv, Nat.zero_add, bt_in hlt]
        rw [bt_in hlt] at hdg
        obtain ⟨g0, g1⟩ := hdg
        go_wp2
        go_round
        case rel =>
          refine ⟨k + 1, by omega, by go_num, ?_⟩
          rw [HS.out]
        case measure => simp [intOf]; omega
      · have HS : Hid (vTo d 0 n d.size = vTo d 0 n k) := by
          have := vTo_stay d 0 n k (d.size - k) hv
          rwa [show k + (d.size - k) = d.size from by omega] at this
        go_wp2
        go_ret
        exact ⟨ret_int HS.out.symm, rfl⟩
    · have hke : k = d.size := by omega
      subst hke
      have hb : decide ((d.size : Int) < (d.size : Int)) = false := by simp
      go_wp2
      go_ret
      exact ⟨rfl, rfl⟩
end Go.Proofs.YtmchanddfodhaaaDoor.Mny
