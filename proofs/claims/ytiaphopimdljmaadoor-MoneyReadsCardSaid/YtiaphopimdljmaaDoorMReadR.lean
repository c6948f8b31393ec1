/-
  Promise A3 (reading), fourth part: the reference's ReadMoney: at every text of at most 2^47 - 4096 bytes it returns just what money.Read does.
-/
import Derived.Test.YtiaphopimdljmaaDoorMReadV
namespace Go.Proofs.YtiaphopimdljmaaDoor
open Go.RowKit

theorem dEnd_not (s : ByteArray) : ∀ f a, s.size ≤ a + f → digB s (dEnd s f a) = false
  | 0, a, h => by
    cases hd : digB s a
    · exact hd
    · have := digB_lt hd; omega
  | f + 1, a, h => by
    unfold dEnd
    split
    · exact dEnd_not s f (a + 1) (by omega)
    · rename_i hd; simpa using hd
/-- Ahead of the end a digit is taken. -/
theorem w_go {s : ByteArray} {a k : Nat} (h1 : a ≤ k) (h2 : k < wEnd s a) : digB s k = true ∧ (k = a ∨ (a < s.size ∧ bt s a ≠ 48)) := by
  refine ⟨wEnd_dig s a k h1 h2, ?_⟩
  by_cases h : k = a
  · exact .inl h
  · refine .inr ⟨digB_lt (wEnd_dig s a a (Nat.le_refl _) (by omega)), fun h48 => ?_⟩
    unfold wEnd at h2
    rw [if_pos h48] at h2
    omega
/-- At the end none is. -/
theorem w_stop (s : ByteArray) (a : Nat) (ha : a ≤ s.size) : digB s (wEnd s a) = false ∨ (wEnd s a ≠ a ∧ a < s.size ∧ bt s a = 48 ∧ digB s (wEnd s a) = true) := by
  cases hd : digB s (wEnd s a)
  · exact .inl rfl
  · right
    have h48 : bt s a = 48 := by
      by_cases h : bt s a = 48
      · exact h
      · have := dEnd_not s (s.size - a) a (by omega)
        unfold wEnd at hd
        rw [if_neg h, this] at hd
        cases hd
    have e : wEnd s a = a + 1 := by unfold wEnd; rw [if_pos h48]
    have hlt : a < s.size := by
      by_cases h : a < s.size
      · exact h
      · rw [bt_out h] at h48; omega
    exact ⟨by omega, hlt, h48, rfl⟩
theorem vTo_next {s : ByteArray} {a k : Nat} (h : a ≤ k) (hk : k < s.size) : vTo s a 0 (k + 1 - a) = sat (vTo s a 0 (k - a)) ((s[k].toNat : Int) - 48) := by
  rw [show k + 1 - a = (k - a) + 1 from by omega, vTo, show a + (k - a) = k from by omega, bt_in hk]

set_option maxHeartbeats 4000000 in
theorem rm_empty0 (s : ByteArray) (w : World) (p : Nat) (v1 : Int) (hs : s.size ≤ 140737488351232) (h0 : 0 < s.size) (hpre : bt s 0 ≠ 45) (hp : p = wEnd s 0) (hv : v1 = vTo s 0 0 (p - 0)) (hpa : p = 0) (hdp : digB s p = false) :
    Calls Tryd.prog 25 #[.string s] w fun e w' => e = .returned (.tuple #[.int .i64 (0), .agg #[.int .i64 1, .int .i64 (p)]]) ∧ Below w.heap.size w w' := by
  have hge : 0 ≤ p := by rw [hp]; exact wEnd_ge s 0
  have hle : p ≤ s.size := by rw [hp]; exact wEnd_le s 0 (by omega)
  have HGO : Hid (∀ k, 0 ≤ k → k < p → digB s k = true ∧ (k = 0 ∨ (0 < s.size ∧ bt s 0 ≠ 48))) := fun k h1 h2 => w_go h1 (by rw [← hp]; exact h2)
  have HV := Lib.hid hv
  have HBD : Hid (∀ k, 0 ≤ k → k ≤ p → 0 ≤ vTo s 0 0 (k - 0) ∧ vTo s 0 0 (k - 0) ≤ 10000000000009) := fun k h1 h2 => vTo_bd s 0 0 (by omega) (by omega) (k - 0) (fun j hj => (HGO.out (0 + j) (by omega) (by omega)).1)
  rw [bt_in h0] at hpre
  have h00 : (0 : Int) < (s.size : Int) := by omega
  have hm : ((s[0].toNat : Int) == 45) = false := by simpa using hpre
  clear hpre hp hv
  go_enter Tryd.func25, Tryd.ntmps25
  go_wp2_with fail
  go_loop [4, 5] (fun i v => ∃ k : Nat, 0 ≤ k ∧ k ≤ p ∧ i = .int .i64 k ∧ v = .int .i64 (vTo s 0 0 (k - 0))) (fun i _ => p - (intOf i).toNat)
  case atStart => exact ⟨0, Nat.le_refl _, hge, rfl, rfl⟩
  case round =>
    obtain ⟨k, hk0, hk1, rfl, rfl⟩ := hrel
    obtain ⟨b0, b1⟩ := HBD.out k hk0 hk1
    by_cases hkp : k < p
    · obtain ⟨hd, hor⟩ := HGO.out k hk0 hkp
      have hklt : k < s.size := digB_lt hd
      have hklt' : (k : Int) < (s.size : Int) := by omega
      have HN := Lib.hid (vTo_next hk0 hklt)
      have hdig := of_decide_eq_true hd
      rw [bt_in hklt] at hdig
      obtain ⟨g0, g1⟩ := hdig
      generalize vTo s 0 0 (k - 0) = n0 at *
      by_cases hka : k = 0
      · have hkaB : ((k : Int) == 0) = true := by simp; omega
        clear hka hor
        by_cases hmx : n0 ≤ 1000000000000
        · have HS : Hid (vTo s 0 0 (k + 1 - 0) = 10 * n0 + (s[k].toNat : Int) - 48) := by
            unfold Hid; rw [HN.out, sat, if_pos hmx]; omega
          go_wp2_with (go_at_call 40; refine (isDigit_ref _ _ _ (by omega)).mono ?_; rintro e w' ⟨rfl, rfl⟩; rw [Int.toNat_natCast, hd])
          all_goals
            go_round
            case rel => exact ⟨k + 1, by omega, by omega, by go_num, by rw [HS.out]⟩
            case measure => simp [intOf]; omega
        · have HS : Hid (vTo s 0 0 (k + 1 - 0) = n0) := by
            unfold Hid; rw [HN.out, sat, if_neg hmx]
          go_wp2_with (go_at_call 40; refine (isDigit_ref _ _ _ (by omega)).mono ?_; rintro e w' ⟨rfl, rfl⟩; rw [Int.toNat_natCast, hd])
          all_goals
            go_round
            case rel => exact ⟨k + 1, by omega, by omega, by go_num, by rw [HS.out]⟩
            case measure => simp [intOf]; omega
      · have hkaB : ((k : Int) == 0) = false := by simp; omega
        have hor2 : 0 < s.size ∧ bt s 0 ≠ 48 := by rcases hor with h | h; exact absurd h hka; exact h
        obtain ⟨ha1, ha2⟩ := hor2
        rw [bt_in ha1] at ha2
        have ha3 : ((s[0].toNat : Int) != 48) = true := by simpa using ha2
        have ha4 : (0 : Int) < (s.size : Int) := by omega
        clear ha2 hor hka
        by_cases hmx : n0 ≤ 1000000000000
        · have HS : Hid (vTo s 0 0 (k + 1 - 0) = 10 * n0 + (s[k].toNat : Int) - 48) := by
            unfold Hid; rw [HN.out, sat, if_pos hmx]; omega
          go_wp2_with (go_at_call 40; refine (isDigit_ref _ _ _ (by omega)).mono ?_; rintro e w' ⟨rfl, rfl⟩; rw [Int.toNat_natCast, hd])
          all_goals
            go_round
            case rel => exact ⟨k + 1, by omega, by omega, by go_num, by rw [HS.out]⟩
            case measure => simp [intOf]; omega
        · have HS : Hid (vTo s 0 0 (k + 1 - 0) = n0) := by
            unfold Hid; rw [HN.out, sat, if_neg hmx]
          go_wp2_with (go_at_call 40; refine (isDigit_ref _ _ _ (by omega)).mono ?_; rintro e w' ⟨rfl, rfl⟩; rw [Int.toNat_natCast, hd])
          all_goals
            go_round
            case rel => exact ⟨k + 1, by omega, by omega, by go_num, by rw [HS.out]⟩
            case measure => simp [intOf]; omega
    · have hkp' : k = p := by omega
      subst hkp'
      rw [← HV.out]
      have hpaB : ((k : Int) == 0) = true := by simp; omega
      clear hpa
      go_wp2_with (go_at_call 40; refine (isDigit_ref _ _ _ (by omega)).mono ?_; rintro e w' ⟨rfl, rfl⟩; first | rw [Int.toNat_natCast, hdp] | rw [show ((k : Int) + 1).toNat = k + 1 from by omega, hd1] | rw [show ((k : Int) + 2).toNat = k + 2 from by omega, hd2])
      refine bodyPost_ret (v := .tuple #[.int .i64 _, .agg #[.int .i64 _, .int .i64 _]]) (by simp [results, Tryd.results25, go_sem] <;> rfl) rfl ⟨rfl, ?_⟩
      exact (Below.refl _ _).alloc (Nat.le_refl _) _
set_option maxHeartbeats 4000000 in
theorem rm_empty1 (s : ByteArray) (w : World) (p : Nat) (v1 : Int) (hs : s.size ≤ 140737488351232) (h0 : 0 < s.size) (hpre : bt s 0 = 45) (hp : p = wEnd s 1) (hv : v1 = vTo s 1 0 (p - 1)) (hpa : p = 1) (hdp : digB s p = false) :
    Calls Tryd.prog 25 #[.string s] w fun e w' => e = .returned (.tuple #[.int .i64 (0), .agg #[.int .i64 1, .int .i64 (p)]]) ∧ Below w.heap.size w w' := by
  have hge : 1 ≤ p := by rw [hp]; exact wEnd_ge s 1
  have hle : p ≤ s.size := by rw [hp]; exact wEnd_le s 1 (by omega)
  have HGO : Hid (∀ k, 1 ≤ k → k < p → digB s k = true ∧ (k = 1 ∨ (1 < s.size ∧ bt s 1 ≠ 48))) := fun k h1 h2 => w_go h1 (by rw [← hp]; exact h2)
  have HV := Lib.hid hv
  have HBD : Hid (∀ k, 1 ≤ k → k ≤ p → 0 ≤ vTo s 1 0 (k - 1) ∧ vTo s 1 0 (k - 1) ≤ 10000000000009) := fun k h1 h2 => vTo_bd s 1 0 (by omega) (by omega) (k - 1) (fun j hj => (HGO.out (1 + j) (by omega) (by omega)).1)
  rw [bt_in h0] at hpre
  have h00 : (0 : Int) < (s.size : Int) := by omega
  have hm : ((s[0].toNat : Int) == 45) = true := by rw [hpre]; rfl
  clear hpre hp hv
  go_enter Tryd.func25, Tryd.ntmps25
  go_wp2_with fail
  go_loop [4, 5] (fun i v => ∃ k : Nat, 1 ≤ k ∧ k ≤ p ∧ i = .int .i64 k ∧ v = .int .i64 (vTo s 1 0 (k - 1))) (fun i _ => p - (intOf i).toNat)
  case atStart => exact ⟨1, Nat.le_refl _, hge, rfl, rfl⟩
  case round =>
    obtain ⟨k, hk0, hk1, rfl, rfl⟩ := hrel
    obtain ⟨b0, b1⟩ := HBD.out k hk0 hk1
    by_cases hkp : k < p
    · obtain ⟨hd, hor⟩ := HGO.out k hk0 hkp
      have hklt : k < s.size := digB_lt hd
      have hklt' : (k : Int) < (s.size : Int) := by omega
      have HN := Lib.hid (vTo_next hk0 hklt)
      have hdig := of_decide_eq_true hd
      rw [bt_in hklt] at hdig
      obtain ⟨g0, g1⟩ := hdig
      generalize vTo s 1 0 (k - 1) = n0 at *
      by_cases hka : k = 1
      · have hkaB : ((k : Int) == 1) = true := by simp; omega
        clear hka hor
        by_cases hmx : n0 ≤ 1000000000000
        · have HS : Hid (vTo s 1 0 (k + 1 - 1) = 10 * n0 + (s[k].toNat : Int) - 48) := by
            unfold Hid; rw [HN.out, sat, if_pos hmx]; omega
          go_wp2_with (go_at_call 40; refine (isDigit_ref _ _ _ (by omega)).mono ?_; rintro e w' ⟨rfl, rfl⟩; rw [Int.toNat_natCast, hd])
          all_goals
            go_round
            case rel => exact ⟨k + 1, by omega, by omega, by go_num, by rw [HS.out]⟩
            case measure => simp [intOf]; omega
        · have HS : Hid (vTo s 1 0 (k + 1 - 1) = n0) := by
            unfold Hid; rw [HN.out, sat, if_neg hmx]
          go_wp2_with (go_at_call 40; refine (isDigit_ref _ _ _ (by omega)).mono ?_; rintro e w' ⟨rfl, rfl⟩; rw [Int.toNat_natCast, hd])
          all_goals
            go_round
            case rel => exact ⟨k + 1, by omega, by omega, by go_num, by rw [HS.out]⟩
            case measure => simp [intOf]; omega
      · have hkaB : ((k : Int) == 1) = false := by simp; omega
        have hor2 : 1 < s.size ∧ bt s 1 ≠ 48 := by rcases hor with h | h; exact absurd h hka; exact h
        obtain ⟨ha1, ha2⟩ := hor2
        rw [bt_in ha1] at ha2
        have ha3 : ((s[1].toNat : Int) != 48) = true := by simpa using ha2
        have ha4 : (1 : Int) < (s.size : Int) := by omega
        clear ha2 hor hka
        by_cases hmx : n0 ≤ 1000000000000
        · have HS : Hid (vTo s 1 0 (k + 1 - 1) = 10 * n0 + (s[k].toNat : Int) - 48) := by
            unfold Hid; rw [HN.out, sat, if_pos hmx]; omega
          go_wp2_with (go_at_call 40; refine (isDigit_ref _ _ _ (by omega)).mono ?_; rintro e w' ⟨rfl, rfl⟩; rw [Int.toNat_natCast, hd])
          all_goals
            go_round
            case rel => exact ⟨k + 1, by omega, by omega, by go_num, by rw [HS.out]⟩
            case measure => simp [intOf]; omega
        · have HS : Hid (vTo s 1 0 (k + 1 - 1) = n0) := by
            unfold Hid; rw [HN.out, sat, if_neg hmx]
          go_wp2_with (go_at_call 40; refine (isDigit_ref _ _ _ (by omega)).mono ?_; rintro e w' ⟨rfl, rfl⟩; rw [Int.toNat_natCast, hd])
          all_goals
            go_round
            case rel => exact ⟨k + 1, by omega, by omega, by go_num, by rw [HS.out]⟩
            case measure => simp [intOf]; omega
    · have hkp' : k = p := by omega
      subst hkp'
      rw [← HV.out]
      have hpaB : ((k : Int) == 1) = true := by simp; omega
      clear hpa
      go_wp2_with (go_at_call 40; refine (isDigit_ref _ _ _ (by omega)).mono ?_; rintro e w' ⟨rfl, rfl⟩; first | rw [Int.toNat_natCast, hdp] | rw [show ((k : Int) + 1).toNat = k + 1 from by omega, hd1] | rw [show ((k : Int) + 2).toNat = k + 2 from by omega, hd2])
      refine bodyPost_ret (v := .tuple #[.int .i64 _, .agg #[.int .i64 _, .int .i64 _]]) (by simp [results, Tryd.results25, go_sem] <;> rfl) rfl ⟨rfl, ?_⟩
      exact (Below.refl _ _).alloc (Nat.le_refl _) _
set_option maxHeartbeats 4000000 in
theorem rm_short0 (s : ByteArray) (w : World) (p : Nat) (v1 : Int) (hs : s.size ≤ 140737488351232) (h0 : 0 < s.size) (hpre : bt s 0 ≠ 45) (hp : p = wEnd s 0) (hv : v1 = vTo s 0 0 (p - 0)) (hpa : p ≠ 0) (hdp : digB s p = false) (hlt : ¬ p < s.size) :
    Calls Tryd.prog 25 #[.string s] w fun e w' => e = .returned (.tuple #[.int .i64 (0), .agg #[.int .i64 1, .int .i64 (p)]]) ∧ Below w.heap.size w w' := by
  have hge : 0 ≤ p := by rw [hp]; exact wEnd_ge s 0
  have hle : p ≤ s.size := by rw [hp]; exact wEnd_le s 0 (by omega)
  have HGO : Hid (∀ k, 0 ≤ k → k < p → digB s k = true ∧ (k = 0 ∨ (0 < s.size ∧ bt s 0 ≠ 48))) := fun k h1 h2 => w_go h1 (by rw [← hp]; exact h2)
  have HV := Lib.hid hv
  have HBD : Hid (∀ k, 0 ≤ k → k ≤ p → 0 ≤ vTo s 0 0 (k - 0) ∧ vTo s 0 0 (k - 0) ≤ 10000000000009) := fun k h1 h2 => vTo_bd s 0 0 (by omega) (by omega) (k - 0) (fun j hj => (HGO.out (0 + j) (by omega) (by omega)).1)
  rw [bt_in h0] at hpre
  have h00 : (0 : Int) < (s.size : Int) := by omega
  have hm : ((s[0].toNat : Int) == 45) = false := by simpa using hpre
  clear hpre hp hv
  go_enter Tryd.func25, Tryd.ntmps25
  go_wp2_with fail
  go_loop [4, 5] (fun i v => ∃ k : Nat, 0 ≤ k ∧ k ≤ p ∧ i = .int .i64 k ∧ v = .int .i64 (vTo s 0 0 (k - 0))) (fun i _ => p - (intOf i).toNat)
  case atStart => exact ⟨0, Nat.le_refl _, hge, rfl, rfl⟩
  case round =>
    obtain ⟨k, hk0, hk1, rfl, rfl⟩ := hrel
    obtain ⟨b0, b1⟩ := HBD.out k hk0 hk1
    by_cases hkp : k < p
    · obtain ⟨hd, hor⟩ := HGO.out k hk0 hkp
      have hklt : k < s.size := digB_lt hd
      have hklt' : (k : Int) < (s.size : Int) := by omega
      have HN := Lib.hid (vTo_next hk0 hklt)
      have hdig := of_decide_eq_true hd
      rw [bt_in hklt] at hdig
      obtain ⟨g0, g1⟩ := hdig
      generalize vTo s 0 0 (k - 0) = n0 at *
      by_cases hka : k = 0
      · have hkaB : ((k : Int) == 0) = true := by simp; omega
        clear hka hor
        by_cases hmx : n0 ≤ 1000000000000
        · have HS : Hid (vTo s 0 0 (k + 1 - 0) = 10 * n0 + (s[k].toNat : Int) - 48) := by
            unfold Hid; rw [HN.out, sat, if_pos hmx]; omega
          go_wp2_with (go_at_call 40; refine (isDigit_ref _ _ _ (by omega)).mono ?_; rintro e w' ⟨rfl, rfl⟩; rw [Int.toNat_natCast, hd])
          all_goals
            go_round
            case rel => exact ⟨k + 1, by omega, by omega, by go_num, by rw [HS.out]⟩
            case measure => simp [intOf]; omega
        · have HS : Hid (vTo s 0 0 (k + 1 - 0) = n0) := by
            unfold Hid; rw [HN.out, sat, if_neg hmx]
          go_wp2_with (go_at_call 40; refine (isDigit_ref _ _ _ (by omega)).mono ?_; rintro e w' ⟨rfl, rfl⟩; rw [Int.toNat_natCast, hd])
          all_goals
            go_round
            case rel => exact ⟨k + 1, by omega, by omega, by go_num, by rw [HS.out]⟩
            case measure => simp [intOf]; omega
      · have hkaB : ((k : Int) == 0) = false := by simp; omega
        have hor2 : 0 < s.size ∧ bt s 0 ≠ 48 := by rcases hor with h | h; exact absurd h hka; exact h
        obtain ⟨ha1, ha2⟩ := hor2
        rw [bt_in ha1] at ha2
        have ha3 : ((s[0].toNat : Int) != 48) = true := by simpa using ha2
        have ha4 : (0 : Int) < (s.size : Int) := by omega
        clear ha2 hor hka
        by_cases hmx : n0 ≤ 1000000000000
        · have HS : Hid (vTo s 0 0 (k + 1 - 0) = 10 * n0 + (s[k].toNat : Int) - 48) := by
            unfold Hid; rw [HN.out, sat, if_pos hmx]; omega
          go_wp2_with (go_at_call 40; refine (isDigit_ref _ _ _ (by omega)).mono ?_; rintro e w' ⟨rfl, rfl⟩; rw [Int.toNat_natCast, hd])
          all_goals
            go_round
            case rel => exact ⟨k + 1, by omega, by omega, by go_num, by rw [HS.out]⟩
            case measure => simp [intOf]; omega
        · have HS : Hid (vTo s 0 0 (k + 1 - 0) = n0) := by
            unfold Hid; rw [HN.out, sat, if_neg hmx]
          go_wp2_with (go_at_call 40; refine (isDigit_ref _ _ _ (by omega)).mono ?_; rintro e w' ⟨rfl, rfl⟩; rw [Int.toNat_natCast, hd])
          all_goals
            go_round
            case rel => exact ⟨k + 1, by omega, by omega, by go_num, by rw [HS.out]⟩
            case measure => simp [intOf]; omega
    · have hkp' : k = p := by omega
      subst hkp'
      rw [← HV.out]
      have hpaB : ((k : Int) == 0) = false := by simp; omega
      have hsz : decide ((s.size : Int) ≤ (k : Int)) = true := decide_eq_true (by omega)
      clear hpa
      go_wp2_with (go_at_call 40; refine (isDigit_ref _ _ _ (by omega)).mono ?_; rintro e w' ⟨rfl, rfl⟩; first | rw [Int.toNat_natCast, hdp] | rw [show ((k : Int) + 1).toNat = k + 1 from by omega, hd1] | rw [show ((k : Int) + 2).toNat = k + 2 from by omega, hd2])
      refine bodyPost_ret (v := .tuple #[.int .i64 _, .agg #[.int .i64 _, .int .i64 _]]) (by simp [results, Tryd.results25, go_sem] <;> rfl) rfl ⟨rfl, ?_⟩
      exact (Below.refl _ _).alloc (Nat.le_refl _) _
set_option maxHeartbeats 4000000 in
theorem rm_short1 (s : ByteArray) (w : World) (p : Nat) (v1 : Int) (hs : s.size ≤ 140737488351232) (h0 : 0 < s.size) (hpre : bt s 0 = 45) (hp : p = wEnd s 1) (hv : v1 = vTo s 1 0 (p - 1)) (hpa : p ≠ 1) (hdp : digB s p = false) (hlt : ¬ p < s.size) :
    Calls Tryd.prog 25 #[.string s] w fun e w' => e = .returned (.tuple #[.int .i64 (0), .agg #[.int .i64 1, .int .i64 (p)]]) ∧ Below w.heap.size w w' := by
  have hge : 1 ≤ p := by rw [hp]; exact wEnd_ge s 1
  have hle : p ≤ s.size := by rw [hp]; exact wEnd_le s 1 (by omega)
  have HGO : Hid (∀ k, 1 ≤ k → k < p → digB s k = true ∧ (k = 1 ∨ (1 < s.size ∧ bt s 1 ≠ 48))) := fun k h1 h2 => w_go h1 (by rw [← hp]; exact h2)
  have HV := Lib.hid hv
  have HBD : Hid (∀ k, 1 ≤ k → k ≤ p → 0 ≤ vTo s 1 0 (k - 1) ∧ vTo s 1 0 (k - 1) ≤ 10000000000009) := fun k h1 h2 => vTo_bd s 1 0 (by omega) (by omega) (k - 1) (fun j hj => (HGO.out (1 + j) (by omega) (by omega)).1)
  rw [bt_in h0] at hpre
  have h00 : (0 : Int) < (s.size : Int) := by omega
  have hm : ((s[0].toNat : Int) == 45) = true := by rw [hpre]; rfl
  clear hpre hp hv
  go_enter Tryd.func25, Tryd.ntmps25
  go_wp2_with fail
  go_loop [4, 5] (fun i v => ∃ k : Nat, 1 ≤ k ∧ k ≤ p ∧ i = .int .i64 k ∧ v = .int .i64 (vTo s 1 0 (k - 1))) (fun i _ => p - (intOf i).toNat)
  case atStart => exact ⟨1, Nat.le_refl _, hge, rfl, rfl⟩
  case round =>
    obtain ⟨k, hk0, hk1, rfl, rfl⟩ := hrel
    obtain ⟨b0, b1⟩ := HBD.out k hk0 hk1
    by_cases hkp : k < p
    · obtain ⟨hd, hor⟩ := HGO.out k hk0 hkp
      have hklt : k < s.size := digB_lt hd
      have hklt' : (k : Int) < (s.size : Int) := by omega
      have HN := Lib.hid (vTo_next hk0 hklt)
      have hdig := of_decide_eq_true hd
      rw [bt_in hklt] at hdig
      obtain ⟨g0, g1⟩ := hdig
      generalize vTo s 1 0 (k - 1) = n0 at *
      by_cases hka : k = 1
      · have hkaB : ((k : Int) == 1) = true := by simp; omega
        clear hka hor
        by_cases hmx : n0 ≤ 1000000000000
        · have HS : Hid (vTo s 1 0 (k + 1 - 1) = 10 * n0 + (s[k].toNat : Int) - 48) := by
            unfold Hid; rw [HN.out, sat, if_pos hmx]; omega
          go_wp2_with (go_at_call 40; refine (isDigit_ref _ _ _ (by omega)).mono ?_; rintro e w' ⟨rfl, rfl⟩; rw [Int.toNat_natCast, hd])
          all_goals
            go_round
            case rel => exact ⟨k + 1, by omega, by omega, by go_num, by rw [HS.out]⟩
            case measure => simp [intOf]; omega
        · have HS : Hid (vTo s 1 0 (k + 1 - 1) = n0) := by
            unfold Hid; rw [HN.out, sat, if_neg hmx]
          go_wp2_with (go_at_call 40; refine (isDigit_ref _ _ _ (by omega)).mono ?_; rintro e w' ⟨rfl, rfl⟩; rw [Int.toNat_natCast, hd])
          all_goals
            go_round
            case rel => exact ⟨k + 1, by omega, by omega, by go_num, by rw [HS.out]⟩
            case measure => simp [intOf]; omega
      · have hkaB : ((k : Int) == 1) = false := by simp; omega
        have hor2 : 1 < s.size ∧ bt s 1 ≠ 48 := by rcases hor with h | h; exact absurd h hka; exact h
        obtain ⟨ha1, ha2⟩ := hor2
        rw [bt_in ha1] at ha2
        have ha3 : ((s[1].toNat : Int) != 48) = true := by simpa using ha2
        have ha4 : (1 : Int) < (s.size : Int) := by omega
        clear ha2 hor hka
        by_cases hmx : n0 ≤ 1000000000000
        · have HS : Hid (vTo s 1 0 (k + 1 - 1) = 10 * n0 + (s[k].toNat : Int) - 48) := by
            unfold Hid; rw [HN.out, sat, if_pos hmx]; omega
          go_wp2_with (go_at_call 40; refine (isDigit_ref _ _ _ (by omega)).mono ?_; rintro e w' ⟨rfl, rfl⟩; rw [Int.toNat_natCast, hd])
          all_goals
            go_round
            case rel => exact ⟨k + 1, by omega, by omega, by go_num, by rw [HS.out]⟩
            case measure => simp [intOf]; omega
        · have HS : Hid (vTo s 1 0 (k + 1 - 1) = n0) := by
            unfold Hid; rw [HN.out, sat, if_neg hmx]
          go_wp2_with (go_at_call 40; refine (isDigit_ref _ _ _ (by omega)).mono ?_; rintro e w' ⟨rfl, rfl⟩; rw [Int.toNat_natCast, hd])
          all_goals
            go_round
            case rel => exact ⟨k + 1, by omega, by omega, by go_num, by rw [HS.out]⟩
            case measure => simp [intOf]; omega
    · have hkp' : k = p := by omega
      subst hkp'
      rw [← HV.out]
      have hpaB : ((k : Int) == 1) = false := by simp; omega
      have hsz : decide ((s.size : Int) ≤ (k : Int)) = true := decide_eq_true (by omega)
      clear hpa
      go_wp2_with (go_at_call 40; refine (isDigit_ref _ _ _ (by omega)).mono ?_; rintro e w' ⟨rfl, rfl⟩; first | rw [Int.toNat_natCast, hdp] | rw [show ((k : Int) + 1).toNat = k + 1 from by omega, hd1] | rw [show ((k : Int) + 2).toNat = k + 2 from by omega, hd2])
      refine bodyPost_ret (v := .tuple #[.int .i64 _, .agg #[.int .i64 _, .int .i64 _]]) (by simp [results, Tryd.results25, go_sem] <;> rfl) rfl ⟨rfl, ?_⟩
      exact (Below.refl _ _).alloc (Nat.le_refl _) _
set_option maxHeartbeats 4000000 in
theorem rm_nopoint0 (s : ByteArray) (w : World) (p : Nat) (v1 : Int) (hs : s.size ≤ 140737488351232) (h0 : 0 < s.size) (hpre : bt s 0 ≠ 45) (hp : p = wEnd s 0) (hv : v1 = vTo s 0 0 (p - 0)) (hpa : p ≠ 0) (hdp : digB s p = false) (hlt : p < s.size) (hne : bt s p ≠ 46) :
    Calls Tryd.prog 25 #[.string s] w fun e w' => e = .returned (.tuple #[.int .i64 (0), .agg #[.int .i64 1, .int .i64 (p)]]) ∧ Below w.heap.size w w' := by
  have hge : 0 ≤ p := by rw [hp]; exact wEnd_ge s 0
  have hle : p ≤ s.size := by rw [hp]; exact wEnd_le s 0 (by omega)
  have HGO : Hid (∀ k, 0 ≤ k → k < p → digB s k = true ∧ (k = 0 ∨ (0 < s.size ∧ bt s 0 ≠ 48))) := fun k h1 h2 => w_go h1 (by rw [← hp]; exact h2)
  have HV := Lib.hid hv
  have HBD : Hid (∀ k, 0 ≤ k → k ≤ p → 0 ≤ vTo s 0 0 (k - 0) ∧ vTo s 0 0 (k - 0) ≤ 10000000000009) := fun k h1 h2 => vTo_bd s 0 0 (by omega) (by omega) (k - 0) (fun j hj => (HGO.out (0 + j) (by omega) (by omega)).1)
  rw [bt_in h0] at hpre
  have h00 : (0 : Int) < (s.size : Int) := by omega
  have hm : ((s[0].toNat : Int) == 45) = false := by simpa using hpre
  clear hpre hp hv
  go_enter Tryd.func25, Tryd.ntmps25
  go_wp2_with fail
  go_loop [4, 5] (fun i v => ∃ k : Nat, 0 ≤ k ∧ k ≤ p ∧ i = .int .i64 k ∧ v = .int .i64 (vTo s 0 0 (k - 0))) (fun i _ => p - (intOf i).toNat)
  case atStart => exact ⟨0, Nat.le_refl _, hge, rfl, rfl⟩
  case round =>
    obtain ⟨k, hk0, hk1, rfl, rfl⟩ := hrel
    obtain ⟨b0, b1⟩ := HBD.out k hk0 hk1
    by_cases hkp : k < p
    · obtain ⟨hd, hor⟩ := HGO.out k hk0 hkp
      have hklt : k < s.size := digB_lt hd
      have hklt' : (k : Int) < (s.size : Int) := by omega
      have HN := Lib.hid (vTo_next hk0 hklt)
      have hdig := of_decide_eq_true hd
      rw [bt_in hklt] at hdig
      obtain ⟨g0, g1⟩ := hdig
      generalize vTo s 0 0 (k - 0) = n0 at *
      by_cases hka : k = 0
      · have hkaB : ((k : Int) == 0) = true := by simp; omega
        clear hka hor
        by_cases hmx : n0 ≤ 1000000000000
        · have HS : Hid (vTo s 0 0 (k + 1 - 0) = 10 * n0 + (s[k].toNat : Int) - 48) := by
            unfold Hid; rw [HN.out, sat, if_pos hmx]; omega
          go_wp2_with (go_at_call 40; refine (isDigit_ref _ _ _ (by omega)).mono ?_; rintro e w' ⟨rfl, rfl⟩; rw [Int.toNat_natCast, hd])
          all_goals
            go_round
            case rel => exact ⟨k + 1, by omega, by omega, by go_num, by rw [HS.out]⟩
            case measure => simp [intOf]; omega
        · have HS : Hid (vTo s 0 0 (k + 1 - 0) = n0) := by
            unfold Hid; rw [HN.out, sat, if_neg hmx]
          go_wp2_with (go_at_call 40; refine (isDigit_ref _ _ _ (by omega)).mono ?_; rintro e w' ⟨rfl, rfl⟩; rw [Int.toNat_natCast, hd])
          all_goals
            go_round
            case rel => exact ⟨k + 1, by omega, by omega, by go_num, by rw [HS.out]⟩
            case measure => simp [intOf]; omega
      · have hkaB : ((k : Int) == 0) = false := by simp; omega
        have hor2 : 0 < s.size ∧ bt s 0 ≠ 48 := by rcases hor with h | h; exact absurd h hka; exact h
        obtain ⟨ha1, ha2⟩ := hor2
        rw [bt_in ha1] at ha2
        have ha3 : ((s[0].toNat : Int) != 48) = true := by simpa using ha2
        have ha4 : (0 : Int) < (s.size : Int) := by omega
        clear ha2 hor hka
        by_cases hmx : n0 ≤ 1000000000000
        · have HS : Hid (vTo s 0 0 (k + 1 - 0) = 10 * n0 + (s[k].toNat : Int) - 48) := by
            unfold Hid; rw [HN.out, sat, if_pos hmx]; omega
          go_wp2_with (go_at_call 40; refine (isDigit_ref _ _ _ (by omega)).mono ?_; rintro e w' ⟨rfl, rfl⟩; rw [Int.toNat_natCast, hd])
          all_goals
            go_round
            case rel => exact ⟨k + 1, by omega, by omega, by go_num, by rw [HS.out]⟩
            case measure => simp [intOf]; omega
        · have HS : Hid (vTo s 0 0 (k + 1 - 0) = n0) := by
            unfold Hid; rw [HN.out, sat, if_neg hmx]
          go_wp2_with (go_at_call 40; refine (isDigit_ref _ _ _ (by omega)).mono ?_; rintro e w' ⟨rfl, rfl⟩; rw [Int.toNat_natCast, hd])
          all_goals
            go_round
            case rel => exact ⟨k + 1, by omega, by omega, by go_num, by rw [HS.out]⟩
            case measure => simp [intOf]; omega
    · have hkp' : k = p := by omega
      subst hkp'
      rw [← HV.out]
      have hpaB : ((k : Int) == 0) = false := by simp; omega
      have hsz : (k : Int) < (s.size : Int) := by omega
      have h46 : ((s[k].toNat : Int) != 46) = true := by rw [bt_in hlt] at hne; simpa using hne
      clear hpa hne
      go_wp2_with (go_at_call 40; refine (isDigit_ref _ _ _ (by omega)).mono ?_; rintro e w' ⟨rfl, rfl⟩; first | rw [Int.toNat_natCast, hdp] | rw [show ((k : Int) + 1).toNat = k + 1 from by omega, hd1] | rw [show ((k : Int) + 2).toNat = k + 2 from by omega, hd2])
      refine bodyPost_ret (v := .tuple #[.int .i64 _, .agg #[.int .i64 _, .int .i64 _]]) (by simp [results, Tryd.results25, go_sem] <;> rfl) rfl ⟨rfl, ?_⟩
      exact (Below.refl _ _).alloc (Nat.le_refl _) _
set_option maxHeartbeats 4000000 in
theorem rm_nopoint1 (s : ByteArray) (w : World) (p : Nat) (v1 : Int) (hs : s.size ≤ 140737488351232) (h0 : 0 < s.size) (hpre : bt s 0 = 45) (hp : p = wEnd s 1) (hv : v1 = vTo s 1 0 (p - 1)) (hpa : p ≠ 1) (hdp : digB s p = false) (hlt : p < s.size) (hne : bt s p ≠ 46) :
    Calls Tryd.prog 25 #[.string s] w fun e w' => e = .returned (.tuple #[.int .i64 (0), .agg #[.int .i64 1, .int .i64 (p)]]) ∧ Below w.heap.size w w' := by
  have hge : 1 ≤ p := by rw [hp]; exact wEnd_ge s 1
  have hle : p ≤ s.size := by rw [hp]; exact wEnd_le s 1 (by omega)
  have HGO : Hid (∀ k, 1 ≤ k → k < p → digB s k = true ∧ (k = 1 ∨ (1 < s.size ∧ bt s 1 ≠ 48))) := fun k h1 h2 => w_go h1 (by rw [← hp]; exact h2)
  have HV := Lib.hid hv
  have HBD : Hid (∀ k, 1 ≤ k → k ≤ p → 0 ≤ vTo s 1 0 (k - 1) ∧ vTo s 1 0 (k - 1) ≤ 10000000000009) := fun k h1 h2 => vTo_bd s 1 0 (by omega) (by omega) (k - 1) (fun j hj => (HGO.out (1 + j) (by omega) (by omega)).1)
  rw [bt_in h0] at hpre
  have h00 : (0 : Int) < (s.size : Int) := by omega
  have hm : ((s[0].toNat : Int) == 45) = true := by rw [hpre]; rfl
  clear hpre hp hv
  go_enter Tryd.func25, Tryd.ntmps25
  go_wp2_with fail
  go_loop [4, 5] (fun i v => ∃ k : Nat, 1 ≤ k ∧ k ≤ p ∧ i = .int .i64 k ∧ v = .int .i64 (vTo s 1 0 (k - 1))) (fun i _ => p - (intOf i).toNat)
  case atStart => exact ⟨1, Nat.le_refl _, hge, rfl, rfl⟩
  case round =>
    obtain ⟨k, hk0, hk1, rfl, rfl⟩ := hrel
    obtain ⟨b0, b1⟩ := HBD.out k hk0 hk1
    by_cases hkp : k < p
    · obtain ⟨hd, hor⟩ := HGO.out k hk0 hkp
      have hklt : k < s.size := digB_lt hd
      have hklt' : (k : Int) < (s.size : Int) := by omega
      have HN := Lib.hid (vTo_next hk0 hklt)
      have hdig := of_decide_eq_true hd
      rw [bt_in hklt] at hdig
      obtain ⟨g0, g1⟩ := hdig
      generalize vTo s 1 0 (k - 1) = n0 at *
      by_cases hka : k = 1
      · have hkaB : ((k : Int) == 1) = true := by simp; omega
        clear hka hor
        by_cases hmx : n0 ≤ 1000000000000
        · have HS : Hid (vTo s 1 0 (k + 1 - 1) = 10 * n0 + (s[k].toNat : Int) - 48) := by
            unfold Hid; rw [HN.out, sat, if_pos hmx]; omega
          go_wp2_with (go_at_call 40; refine (isDigit_ref _ _ _ (by omega)).mono ?_; rintro e w' ⟨rfl, rfl⟩; rw [Int.toNat_natCast, hd])
          all_goals
            go_round
            case rel => exact ⟨k + 1, by omega, by omega, by go_num, by rw [HS.out]⟩
            case measure => simp [intOf]; omega
        · have HS : Hid (vTo s 1 0 (k + 1 - 1) = n0) := by
            unfold Hid; rw [HN.out, sat, if_neg hmx]
          go_wp2_with (go_at_call 40; refine (isDigit_ref _ _ _ (by omega)).mono ?_; rintro e w' ⟨rfl, rfl⟩; rw [Int.toNat_natCast, hd])
          all_goals
            go_round
            case rel => exact ⟨k + 1, by omega, by omega, by go_num, by rw [HS.out]⟩
            case measure => simp [intOf]; omega
      · have hkaB : ((k : Int) == 1) = false := by simp; omega
        have hor2 : 1 < s.size ∧ bt s 1 ≠ 48 := by rcases hor with h | h; exact absurd h hka; exact h
        obtain ⟨ha1, ha2⟩ := hor2
        rw [bt_in ha1] at ha2
        have ha3 : ((s[1].toNat : Int) != 48) = true := by simpa using ha2
        have ha4 : (1 : Int) < (s.size : Int) := by omega
        clear ha2 hor hka
        by_cases hmx : n0 ≤ 1000000000000
        · have HS : Hid (vTo s 1 0 (k + 1 - 1) = 10 * n0 + (s[k].toNat : Int) - 48) := by
            unfold Hid; rw [HN.out, sat, if_pos hmx]; omega
          go_wp2_with (go_at_call 40; refine (isDigit_ref _ _ _ (by omega)).mono ?_; rintro e w' ⟨rfl, rfl⟩; rw [Int.toNat_natCast, hd])
          all_goals
            go_round
            case rel => exact ⟨k + 1, by omega, by omega, by go_num, by rw [HS.out]⟩
            case measure => simp [intOf]; omega
        · have HS : Hid (vTo s 1 0 (k + 1 - 1) = n0) := by
            unfold Hid; rw [HN.out, sat, if_neg hmx]
          go_wp2_with (go_at_call 40; refine (isDigit_ref _ _ _ (by omega)).mono ?_; rintro e w' ⟨rfl, rfl⟩; rw [Int.toNat_natCast, hd])
          all_goals
            go_round
            case rel => exact ⟨k + 1, by omega, by omega, by go_num, by rw [HS.out]⟩
            case measure => simp [intOf]; omega
    · have hkp' : k = p := by omega
      subst hkp'
      rw [← HV.out]
      have hpaB : ((k : Int) == 1) = false := by simp; omega
      have hsz : (k : Int) < (s.size : Int) := by omega
      have h46 : ((s[k].toNat : Int) != 46) = true := by rw [bt_in hlt] at hne; simpa using hne
      clear hpa hne
      go_wp2_with (go_at_call 40; refine (isDigit_ref _ _ _ (by omega)).mono ?_; rintro e w' ⟨rfl, rfl⟩; first | rw [Int.toNat_natCast, hdp] | rw [show ((k : Int) + 1).toNat = k + 1 from by omega, hd1] | rw [show ((k : Int) + 2).toNat = k + 2 from by omega, hd2])
      refine bodyPost_ret (v := .tuple #[.int .i64 _, .agg #[.int .i64 _, .int .i64 _]]) (by simp [results, Tryd.results25, go_sem] <;> rfl) rfl ⟨rfl, ?_⟩
      exact (Below.refl _ _).alloc (Nat.le_refl _) _
set_option maxHeartbeats 4000000 in
theorem rm_nought0 (s : ByteArray) (w : World) (p : Nat) (v1 : Int) (hs : s.size ≤ 140737488351232) (h0 : 0 < s.size) (hpre : bt s 0 ≠ 45) (hp : p = wEnd s 0) (hv : v1 = vTo s 0 0 (p - 0)) (hpa : p ≠ 0) (hdp : digB s p = true) (hlt : p < s.size) (ha1 : 0 < s.size) (ha48 : bt s 0 = 48) :
    Calls Tryd.prog 25 #[.string s] w fun e w' => e = .returned (.tuple #[.int .i64 (0), .agg #[.int .i64 1, .int .i64 (p)]]) ∧ Below w.heap.size w w' := by
  have hge : 0 ≤ p := by rw [hp]; exact wEnd_ge s 0
  have hle : p ≤ s.size := by rw [hp]; exact wEnd_le s 0 (by omega)
  have HGO : Hid (∀ k, 0 ≤ k → k < p → digB s k = true ∧ (k = 0 ∨ (0 < s.size ∧ bt s 0 ≠ 48))) := fun k h1 h2 => w_go h1 (by rw [← hp]; exact h2)
  have HV := Lib.hid hv
  have HBD : Hid (∀ k, 0 ≤ k → k ≤ p → 0 ≤ vTo s 0 0 (k - 0) ∧ vTo s 0 0 (k - 0) ≤ 10000000000009) := fun k h1 h2 => vTo_bd s 0 0 (by omega) (by omega) (k - 0) (fun j hj => (HGO.out (0 + j) (by omega) (by omega)).1)
  rw [bt_in h0] at hpre
  have h00 : (0 : Int) < (s.size : Int) := by omega
  have hm : ((s[0].toNat : Int) == 45) = false := by simpa using hpre
  clear hpre hp hv
  go_enter Tryd.func25, Tryd.ntmps25
  go_wp2_with fail
  go_loop [4, 5] (fun i v => ∃ k : Nat, 0 ≤ k ∧ k ≤ p ∧ i = .int .i64 k ∧ v = .int .i64 (vTo s 0 0 (k - 0))) (fun i _ => p - (intOf i).toNat)
  case atStart => exact ⟨0, Nat.le_refl _, hge, rfl, rfl⟩
  case round =>
    obtain ⟨k, hk0, hk1, rfl, rfl⟩ := hrel
    obtain ⟨b0, b1⟩ := HBD.out k hk0 hk1
    by_cases hkp : k < p
    · obtain ⟨hd, hor⟩ := HGO.out k hk0 hkp
      have hklt : k < s.size := digB_lt hd
      have hklt' : (k : Int) < (s.size : Int) := by omega
      have HN := Lib.hid (vTo_next hk0 hklt)
      have hdig := of_decide_eq_true hd
      rw [bt_in hklt] at hdig
      obtain ⟨g0, g1⟩ := hdig
      generalize vTo s 0 0 (k - 0) = n0 at *
      by_cases hka : k = 0
      · have hkaB : ((k : Int) == 0) = true := by simp; omega
        clear hka hor
        by_cases hmx : n0 ≤ 1000000000000
        · have HS : Hid (vTo s 0 0 (k + 1 - 0) = 10 * n0 + (s[k].toNat : Int) - 48) := by
            unfold Hid; rw [HN.out, sat, if_pos hmx]; omega
          go_wp2_with (go_at_call 40; refine (isDigit_ref _ _ _ (by omega)).mono ?_; rintro e w' ⟨rfl, rfl⟩; rw [Int.toNat_natCast, hd])
          all_goals
            go_round
            case rel => exact ⟨k + 1, by omega, by omega, by go_num, by rw [HS.out]⟩
            case measure => simp [intOf]; omega
        · have HS : Hid (vTo s 0 0 (k + 1 - 0) = n0) := by
            unfold Hid; rw [HN.out, sat, if_neg hmx]
          go_wp2_with (go_at_call 40; refine (isDigit_ref _ _ _ (by omega)).mono ?_; rintro e w' ⟨rfl, rfl⟩; rw [Int.toNat_natCast, hd])
          all_goals
            go_round
            case rel => exact ⟨k + 1, by omega, by omega, by go_num, by rw [HS.out]⟩
            case measure => simp [intOf]; omega
      · have hkaB : ((k : Int) == 0) = false := by simp; omega
        have hor2 : 0 < s.size ∧ bt s 0 ≠ 48 := by rcases hor with h | h; exact absurd h hka; exact h
        obtain ⟨ha1, ha2⟩ := hor2
        rw [bt_in ha1] at ha2
        have ha3 : ((s[0].toNat : Int) != 48) = true := by simpa using ha2
        have ha4 : (0 : Int) < (s.size : Int) := by omega
        clear ha2 hor hka
        by_cases hmx : n0 ≤ 1000000000000
        · have HS : Hid (vTo s 0 0 (k + 1 - 0) = 10 * n0 + (s[k].toNat : Int) - 48) := by
            unfold Hid; rw [HN.out, sat, if_pos hmx]; omega
          go_wp2_with (go_at_call 40; refine (isDigit_ref _ _ _ (by omega)).mono ?_; rintro e w' ⟨rfl, rfl⟩; rw [Int.toNat_natCast, hd])
          all_goals
            go_round
            case rel => exact ⟨k + 1, by omega, by omega, by go_num, by rw [HS.out]⟩
            case measure => simp [intOf]; omega
        · have HS : Hid (vTo s 0 0 (k + 1 - 0) = n0) := by
            unfold Hid; rw [HN.out, sat, if_neg hmx]
          go_wp2_with (go_at_call 40; refine (isDigit_ref _ _ _ (by omega)).mono ?_; rintro e w' ⟨rfl, rfl⟩; rw [Int.toNat_natCast, hd])
          all_goals
            go_round
            case rel => exact ⟨k + 1, by omega, by omega, by go_num, by rw [HS.out]⟩
            case measure => simp [intOf]; omega
    · have hkp' : k = p := by omega
      subst hkp'
      rw [← HV.out]
      have hpaB : ((k : Int) == 0) = false := by simp; omega
      have hsz : (k : Int) < (s.size : Int) := by omega
      have hsa : (0 : Int) < (s.size : Int) := by omega
      have h46 : ((s[k].toNat : Int) != 46) = true := by
        have := of_decide_eq_true hdp
        rw [bt_in hlt] at this
        simp
        omega
      have h48 : ((s[0].toNat : Int) != 48) = false := by rw [bt_in ha1] at ha48; simp [ha48]
      clear hpa ha48
      go_wp2_with (go_at_call 40; refine (isDigit_ref _ _ _ (by omega)).mono ?_; rintro e w' ⟨rfl, rfl⟩; first | rw [Int.toNat_natCast, hdp] | rw [show ((k : Int) + 1).toNat = k + 1 from by omega, hd1] | rw [show ((k : Int) + 2).toNat = k + 2 from by omega, hd2])
      refine bodyPost_ret (v := .tuple #[.int .i64 _, .agg #[.int .i64 _, .int .i64 _]]) (by simp [results, Tryd.results25, go_sem] <;> rfl) rfl ⟨rfl, ?_⟩
      exact (Below.refl _ _).alloc (Nat.le_refl _) _
set_option maxHeartbeats 4000000 in
theorem rm_nought1 (s : ByteArray) (w : World) (p : Nat) (v1 : Int) (hs : s.size ≤ 140737488351232) (h0 : 0 < s.size) (hpre : bt s 0 = 45) (hp : p = wEnd s 1) (hv : v1 = vTo s 1 0 (p - 1)) (hpa : p ≠ 1) (hdp : digB s p = true) (hlt : p < s.size) (ha1 : 1 < s.size) (ha48 : bt s 1 = 48) :
    Calls Tryd.prog 25 #[.string s] w fun e w' => e = .returned (.tuple #[.int .i64 (0), .agg #[.int .i64 1, .int .i64 (p)]]) ∧ Below w.heap.size w w' := by
  have hge : 1 ≤ p := by rw [hp]; exact wEnd_ge s 1
  have hle : p ≤ s.size := by rw [hp]; exact wEnd_le s 1 (by omega)
  have HGO : Hid (∀ k, 1 ≤ k → k < p → digB s k = true ∧ (k = 1 ∨ (1 < s.size ∧ bt s 1 ≠ 48))) := fun k h1 h2 => w_go h1 (by rw [← hp]; exact h2)
  have HV := Lib.hid hv
  have HBD : Hid (∀ k, 1 ≤ k → k ≤ p → 0 ≤ vTo s 1 0 (k - 1) ∧ vTo s 1 0 (k - 1) ≤ 10000000000009) := fun k h1 h2 => vTo_bd s 1 0 (by omega) (by omega) (k - 1) (fun j hj => (HGO.out (1 + j) (by omega) (by omega)).1)
  rw [bt_in h0] at hpre
  have h00 : (0 : Int) < (s.size : Int) := by omega
  have hm : ((s[0].toNat : Int) == 45) = true := by rw [hpre]; rfl
  clear hpre hp hv
  go_enter Tryd.func25, Tryd.ntmps25
  go_wp2_with fail
  go_loop [4, 5] (fun i v => ∃ k : Nat, 1 ≤ k ∧ k ≤ p ∧ i = .int .i64 k ∧ v = .int .i64 (vTo s 1 0 (k - 1))) (fun i _ => p - (intOf i).toNat)
  case atStart => exact ⟨1, Nat.le_refl _, hge, rfl, rfl⟩
  case round =>
    obtain ⟨k, hk0, hk1, rfl, rfl⟩ := hrel
    obtain ⟨b0, b1⟩ := HBD.out k hk0 hk1
    by_cases hkp : k < p
    · obtain ⟨hd, hor⟩ := HGO.out k hk0 hkp
      have hklt : k < s.size := digB_lt hd
      have hklt' : (k : Int) < (s.size : Int) := by omega
      have HN := Lib.hid (vTo_next hk0 hklt)
      have hdig := of_decide_eq_true hd
      rw [bt_in hklt] at hdig
      obtain ⟨g0, g1⟩ := hdig
      generalize vTo s 1 0 (k - 1) = n0 at *
      by_cases hka : k = 1
      · have hkaB : ((k : Int) == 1) = true := by simp; omega
        clear hka hor
        by_cases hmx : n0 ≤ 1000000000000
        · have HS : Hid (vTo s 1 0 (k + 1 - 1) = 10 * n0 + (s[k].toNat : Int) - 48) := by
            unfold Hid; rw [HN.out, sat, if_pos hmx]; omega
          go_wp2_with (go_at_call 40; refine (isDigit_ref _ _ _ (by omega)).mono ?_; rintro e w' ⟨rfl, rfl⟩; rw [Int.toNat_natCast, hd])
          all_goals
            go_round
            case rel => exact ⟨k + 1, by omega, by omega, by go_num, by rw [HS.out]⟩
            case measure => simp [intOf]; omega
        · have HS : Hid (vTo s 1 0 (k + 1 - 1) = n0) := by
            unfold Hid; rw [HN.out, sat, if_neg hmx]
          go_wp2_with (go_at_call 40; refine (isDigit_ref _ _ _ (by omega)).mono ?_; rintro e w' ⟨rfl, rfl⟩; rw [Int.toNat_natCast, hd])
          all_goals
            go_round
            case rel => exact ⟨k + 1, by omega, by omega, by go_num, by rw [HS.out]⟩
            case measure => simp [intOf]; omega
      · have hkaB : ((k : Int) == 1) = false := by simp; omega
        have hor2 : 1 < s.size ∧ bt s 1 ≠ 48 := by rcases hor with h | h; exact absurd h hka; exact h
        obtain ⟨ha1, ha2⟩ := hor2
        rw [bt_in ha1] at ha2
        have ha3 : ((s[1].toNat : Int) != 48) = true := by simpa using ha2
        have ha4 : (1 : Int) < (s.size : Int) := by omega
        clear ha2 hor hka
        by_cases hmx : n0 ≤ 1000000000000
        · have HS : Hid (vTo s 1 0 (k + 1 - 1) = 10 * n0 + (s[k].toNat : Int) - 48) := by
            unfold Hid; rw [HN.out, sat, if_pos hmx]; omega
          go_wp2_with (go_at_call 40; refine (isDigit_ref _ _ _ (by omega)).mono ?_; rintro e w' ⟨rfl, rfl⟩; rw [Int.toNat_natCast, hd])
          all_goals
            go_round
            case rel => exact ⟨k + 1, by omega, by omega, by go_num, by rw [HS.out]⟩
            case measure => simp [intOf]; omega
        · have HS : Hid (vTo s 1 0 (k + 1 - 1) = n0) := by
            unfold Hid; rw [HN.out, sat, if_neg hmx]
          go_wp2_with (go_at_call 40; refine (isDigit_ref _ _ _ (by omega)).mono ?_; rintro e w' ⟨rfl, rfl⟩; rw [Int.toNat_natCast, hd])
          all_goals
            go_round
            case rel => exact ⟨k + 1, by omega, by omega, by go_num, by rw [HS.out]⟩
            case measure => simp [intOf]; omega
    · have hkp' : k = p := by omega
      subst hkp'
      rw [← HV.out]
      have hpaB : ((k : Int) == 1) = false := by simp; omega
      have hsz : (k : Int) < (s.size : Int) := by omega
      have hsa : (1 : Int) < (s.size : Int) := by omega
      have h46 : ((s[k].toNat : Int) != 46) = true := by
        have := of_decide_eq_true hdp
        rw [bt_in hlt] at this
        simp
        omega
      have h48 : ((s[1].toNat : Int) != 48) = false := by rw [bt_in ha1] at ha48; simp [ha48]
      clear hpa ha48
      go_wp2_with (go_at_call 40; refine (isDigit_ref _ _ _ (by omega)).mono ?_; rintro e w' ⟨rfl, rfl⟩; first | rw [Int.toNat_natCast, hdp] | rw [show ((k : Int) + 1).toNat = k + 1 from by omega, hd1] | rw [show ((k : Int) + 2).toNat = k + 2 from by omega, hd2])
      refine bodyPost_ret (v := .tuple #[.int .i64 _, .agg #[.int .i64 _, .int .i64 _]]) (by simp [results, Tryd.results25, go_sem] <;> rfl) rfl ⟨rfl, ?_⟩
      exact (Below.refl _ _).alloc (Nat.le_refl _) _
set_option maxHeartbeats 4000000 in
theorem rm_one0 (s : ByteArray) (w : World) (p : Nat) (v1 : Int) (hs : s.size ≤ 140737488351232) (h0 : 0 < s.size) (hpre : bt s 0 ≠ 45) (hp : p = wEnd s 0) (hv : v1 = vTo s 0 0 (p - 0)) (hpa : p ≠ 0) (hdp : digB s p = false) (hlt : p < s.size) (heq : bt s p = 46) (hd1 : digB s (p + 1) = false) :
    Calls Tryd.prog 25 #[.string s] w fun e w' => e = .returned (.tuple #[.int .i64 (0), .agg #[.int .i64 1, .int .i64 (p + 1)]]) ∧ Below w.heap.size w w' := by
  have hge : 0 ≤ p := by rw [hp]; exact wEnd_ge s 0
  have hle : p ≤ s.size := by rw [hp]; exact wEnd_le s 0 (by omega)
  have HGO : Hid (∀ k, 0 ≤ k → k < p → digB s k = true ∧ (k = 0 ∨ (0 < s.size ∧ bt s 0 ≠ 48))) := fun k h1 h2 => w_go h1 (by rw [← hp]; exact h2)
  have HV := Lib.hid hv
  have HBD : Hid (∀ k, 0 ≤ k → k ≤ p → 0 ≤ vTo s 0 0 (k - 0) ∧ vTo s 0 0 (k - 0) ≤ 10000000000009) := fun k h1 h2 => vTo_bd s 0 0 (by omega) (by omega) (k - 0) (fun j hj => (HGO.out (0 + j) (by omega) (by omega)).1)
  rw [bt_in h0] at hpre
  have h00 : (0 : Int) < (s.size : Int) := by omega
  have hm : ((s[0].toNat : Int) == 45) = false := by simpa using hpre
  clear hpre hp hv
  go_enter Tryd.func25, Tryd.ntmps25
  go_wp2_with fail
  go_loop [4, 5] (fun i v => ∃ k : Nat, 0 ≤ k ∧ k ≤ p ∧ i = .int .i64 k ∧ v = .int .i64 (vTo s 0 0 (k - 0))) (fun i _ => p - (intOf i).toNat)
  case atStart => exact ⟨0, Nat.le_refl _, hge, rfl, rfl⟩
  case round =>
    obtain ⟨k, hk0, hk1, rfl, rfl⟩ := hrel
    obtain ⟨b0, b1⟩ := HBD.out k hk0 hk1
    by_cases hkp : k < p
    · obtain ⟨hd, hor⟩ := HGO.out k hk0 hkp
      have hklt : k < s.size := digB_lt hd
      have hklt' : (k : Int) < (s.size : Int) := by omega
      have HN := Lib.hid (vTo_next hk0 hklt)
      have hdig := of_decide_eq_true hd
      rw [bt_in hklt] at hdig
      obtain ⟨g0, g1⟩ := hdig
      generalize vTo s 0 0 (k - 0) = n0 at *
      by_cases hka : k = 0
      · have hkaB : ((k : Int) == 0) = true := by simp; omega
        clear hka hor
        by_cases hmx : n0 ≤ 1000000000000
        · have HS : Hid (vTo s 0 0 (k + 1 - 0) = 10 * n0 + (s[k].toNat : Int) - 48) := by
            unfold Hid; rw [HN.out, sat, if_pos hmx]; omega
          go_wp2_with (go_at_call 40; refine (isDigit_ref _ _ _ (by omega)).mono ?_; rintro e w' ⟨rfl, rfl⟩; rw [Int.toNat_natCast, hd])
          all_goals
            go_round
            case rel => exact ⟨k + 1, by omega, by omega, by go_num, by rw [HS.out]⟩
            case measure => simp [intOf]; omega
        · have HS : Hid (vTo s 0 0 (k + 1 - 0) = n0) := by
            unfold Hid; rw [HN.out, sat, if_neg hmx]
          go_wp2_with (go_at_call 40; refine (isDigit_ref _ _ _ (by omega)).mono ?_; rintro e w' ⟨rfl, rfl⟩; rw [Int.toNat_natCast, hd])
          all_goals
            go_round
            case rel => exact ⟨k + 1, by omega, by omega, by go_num, by rw [HS.out]⟩
            case measure => simp [intOf]; omega
      · have hkaB : ((k : Int) == 0) = false := by simp; omega
        have hor2 : 0 < s.size ∧ bt s 0 ≠ 48 := by rcases hor with h | h; exact absurd h hka; exact h
        obtain ⟨ha1, ha2⟩ := hor2
        rw [bt_in ha1] at ha2
        have ha3 : ((s[0].toNat : Int) != 48) = true := by simpa using ha2
        have ha4 : (0 : Int) < (s.size : Int) := by omega
        clear ha2 hor hka
        by_cases hmx : n0 ≤ 1000000000000
        · have HS : Hid (vTo s 0 0 (k + 1 - 0) = 10 * n0 + (s[k].toNat : Int) - 48) := by
            unfold Hid; rw [HN.out, sat, if_pos hmx]; omega
          go_wp2_with (go_at_call 40; refine (isDigit_ref _ _ _ (by omega)).mono ?_; rintro e w' ⟨rfl, rfl⟩; rw [Int.toNat_natCast, hd])
          all_goals
            go_round
            case rel => exact ⟨k + 1, by omega, by omega, by go_num, by rw [HS.out]⟩
            case measure => simp [intOf]; omega
        · have HS : Hid (vTo s 0 0 (k + 1 - 0) = n0) := by
            unfold Hid; rw [HN.out, sat, if_neg hmx]
          go_wp2_with (go_at_call 40; refine (isDigit_ref _ _ _ (by omega)).mono ?_; rintro e w' ⟨rfl, rfl⟩; rw [Int.toNat_natCast, hd])
          all_goals
            go_round
            case rel => exact ⟨k + 1, by omega, by omega, by go_num, by rw [HS.out]⟩
            case measure => simp [intOf]; omega
    · have hkp' : k = p := by omega
      subst hkp'
      rw [← HV.out]
      have hpaB : ((k : Int) == 0) = false := by simp; omega
      have hsz : (k : Int) < (s.size : Int) := by omega
      have hlt : k < s.size := by omega
      have h46 : ((s[k].toNat : Int) != 46) = false := by rw [bt_in hlt] at heq; simp [heq]
      have hszB : decide (s.size ≤ k) = false := decide_eq_false (by omega)
      clear hpa heq
      go_wp2_with (go_at_call 40; refine (isDigit_ref _ _ _ (by omega)).mono ?_; rintro e w' ⟨rfl, rfl⟩; first | rw [Int.toNat_natCast, hdp] | rw [show ((k : Int) + 1).toNat = k + 1 from by omega, hd1] | rw [show ((k : Int) + 2).toNat = k + 2 from by omega, hd2])
      go_loop [5, 8] (fun v i => i = .int .i64 1 ∧ v = .int .i64 v1) (fun _ _ => 0)
      case atStart => exact ⟨rfl, rfl⟩
      case round =>
        obtain ⟨rfl, rfl⟩ := hrel
        go_wp2_with (go_at_call 40; refine (isDigit_ref _ _ _ (by omega)).mono ?_; rintro e w' ⟨rfl, rfl⟩; first | rw [Int.toNat_natCast, hdp] | rw [show ((k : Int) + 1).toNat = k + 1 from by omega, hd1] | rw [show ((k : Int) + 2).toNat = k + 2 from by omega, hd2])
        refine bodyPost_ret (v := .tuple #[.int .i64 _, .agg #[.int .i64 _, .int .i64 _]]) (by simp [results, Tryd.results25, go_sem] <;> rfl) rfl ⟨rfl, ?_⟩
        exact (Below.refl _ _).alloc (Nat.le_refl _) _
set_option maxHeartbeats 4000000 in
theorem rm_one1 (s : ByteArray) (w : World) (p : Nat) (v1 : Int) (hs : s.size ≤ 140737488351232) (h0 : 0 < s.size) (hpre : bt s 0 = 45) (hp : p = wEnd s 1) (hv : v1 = vTo s 1 0 (p - 1)) (hpa : p ≠ 1) (hdp : digB s p = false) (hlt : p < s.size) (heq : bt s p = 46) (hd1 : digB s (p + 1) = false) :
    Calls Tryd.prog 25 #[.string s] w fun e w' => e = .returned (.tuple #[.int .i64 (0), .agg #[.int .i64 1, .int .i64 (p + 1)]]) ∧ Below w.heap.size w w' := by
  have hge : 1 ≤ p := by rw [hp]; exact wEnd_ge s 1
  have hle : p ≤ s.size := by rw [hp]; exact wEnd_le s 1 (by omega)
  have HGO : Hid (∀ k, 1 ≤ k → k < p → digB s k = true ∧ (k = 1 ∨ (1 < s.size ∧ bt s 1 ≠ 48))) := fun k h1 h2 => w_go h1 (by rw [← hp]; exact h2)
  have HV := Lib.hid hv
  have HBD : Hid (∀ k, 1 ≤ k → k ≤ p → 0 ≤ vTo s 1 0 (k - 1) ∧ vTo s 1 0 (k - 1) ≤ 10000000000009) := fun k h1 h2 => vTo_bd s 1 0 (by omega) (by omega) (k - 1) (fun j hj => (HGO.out (1 + j) (by omega) (by omega)).1)
  rw [bt_in h0] at hpre
  have h00 : (0 : Int) < (s.size : Int) := by omega
  have hm : ((s[0].toNat : Int) == 45) = true := by rw [hpre]; rfl
  clear hpre hp hv
  go_enter Tryd.func25, Tryd.ntmps25
  go_wp2_with fail
  go_loop [4, 5] (fun i v => ∃ k : Nat, 1 ≤ k ∧ k ≤ p ∧ i = .int .i64 k ∧ v = .int .i64 (vTo s 1 0 (k - 1))) (fun i _ => p - (intOf i).toNat)
  case atStart => exact ⟨1, Nat.le_refl _, hge, rfl, rfl⟩
  case round =>
    obtain ⟨k, hk0, hk1, rfl, rfl⟩ := hrel
    obtain ⟨b0, b1⟩ := HBD.out k hk0 hk1
    by_cases hkp : k < p
    · obtain ⟨hd, hor⟩ := HGO.out k hk0 hkp
      have hklt : k < s.size := digB_lt hd
      have hklt' : (k : Int) < (s.size : Int) := by omega
      have HN := Lib.hid (vTo_next hk0 hklt)
      have hdig := of_decide_eq_true hd
      rw [bt_in hklt] at hdig
      obtain ⟨g0, g1⟩ := hdig
      generalize vTo s 1 0 (k - 1) = n0 at *
      by_cases hka : k = 1
      · have hkaB : ((k : Int) == 1) = true := by simp; omega
        clear hka hor
        by_cases hmx : n0 ≤ 1000000000000
        · have HS : Hid (vTo s 1 0 (k + 1 - 1) = 10 * n0 + (s[k].toNat : Int) - 48) := by
            unfold Hid; rw [HN.out, sat, if_pos hmx]; omega
          go_wp2_with (go_at_call 40; refine (isDigit_ref _ _ _ (by omega)).mono ?_; rintro e w' ⟨rfl, rfl⟩; rw [Int.toNat_natCast, hd])
          all_goals
            go_round
            case rel => exact ⟨k + 1, by omega, by omega, by go_num, by rw [HS.out]⟩
            case measure => simp [intOf]; omega
        · have HS : Hid (vTo s 1 0 (k + 1 - 1) = n0) := by
            unfold Hid; rw [HN.out, sat, if_neg hmx]
          go_wp2_with (go_at_call 40; refine (isDigit_ref _ _ _ (by omega)).mono ?_; rintro e w' ⟨rfl, rfl⟩; rw [Int.toNat_natCast, hd])
          all_goals
            go_round
            case rel => exact ⟨k + 1, by omega, by omega, by go_num, by rw [HS.out]⟩
            case measure => simp [intOf]; omega
      · have hkaB : ((k : Int) == 1) = false := by simp; omega
        have hor2 : 1 < s.size ∧ bt s 1 ≠ 48 := by rcases hor with h | h; exact absurd h hka; exact h
        obtain ⟨ha1, ha2⟩ := hor2
        rw [bt_in ha1] at ha2
        have ha3 : ((s[1].toNat : Int) != 48) = true := by simpa using ha2
        have ha4 : (1 : Int) < (s.size : Int) := by omega
        clear ha2 hor hka
        by_cases hmx : n0 ≤ 1000000000000
        · have HS : Hid (vTo s 1 0 (k + 1 - 1) = 10 * n0 + (s[k].toNat : Int) - 48) := by
            unfold Hid; rw [HN.out, sat, if_pos hmx]; omega
          go_wp2_with (go_at_call 40; refine (isDigit_ref _ _ _ (by omega)).mono ?_; rintro e w' ⟨rfl, rfl⟩; rw [Int.toNat_natCast, hd])
          all_goals
            go_round
            case rel => exact ⟨k + 1, by omega, by omega, by go_num, by rw [HS.out]⟩
            case measure => simp [intOf]; omega
        · have HS : Hid (vTo s 1 0 (k + 1 - 1) = n0) := by
            unfold Hid; rw [HN.out, sat, if_neg hmx]
          go_wp2_with (go_at_call 40; refine (isDigit_ref _ _ _ (by omega)).mono ?_; rintro e w' ⟨rfl, rfl⟩; rw [Int.toNat_natCast, hd])
          all_goals
            go_round
            case rel => exact ⟨k + 1, by omega, by omega, by go_num, by rw [HS.out]⟩
            case measure => simp [intOf]; omega
    · have hkp' : k = p := by omega
      subst hkp'
      rw [← HV.out]
      have hpaB : ((k : Int) == 1) = false := by simp; omega
      have hsz : (k : Int) < (s.size : Int) := by omega
      have hlt : k < s.size := by omega
      have h46 : ((s[k].toNat : Int) != 46) = false := by rw [bt_in hlt] at heq; simp [heq]
      have hszB : decide (s.size ≤ k) = false := decide_eq_false (by omega)
      clear hpa heq
      go_wp2_with (go_at_call 40; refine (isDigit_ref _ _ _ (by omega)).mono ?_; rintro e w' ⟨rfl, rfl⟩; first | rw [Int.toNat_natCast, hdp] | rw [show ((k : Int) + 1).toNat = k + 1 from by omega, hd1] | rw [show ((k : Int) + 2).toNat = k + 2 from by omega, hd2])
      go_loop [5, 8] (fun v i => i = .int .i64 1 ∧ v = .int .i64 v1) (fun _ _ => 0)
      case atStart => exact ⟨rfl, rfl⟩
      case round =>
        obtain ⟨rfl, rfl⟩ := hrel
        go_wp2_with (go_at_call 40; refine (isDigit_ref _ _ _ (by omega)).mono ?_; rintro e w' ⟨rfl, rfl⟩; first | rw [Int.toNat_natCast, hdp] | rw [show ((k : Int) + 1).toNat = k + 1 from by omega, hd1] | rw [show ((k : Int) + 2).toNat = k + 2 from by omega, hd2])
        refine bodyPost_ret (v := .tuple #[.int .i64 _, .agg #[.int .i64 _, .int .i64 _]]) (by simp [results, Tryd.results25, go_sem] <;> rfl) rfl ⟨rfl, ?_⟩
        exact (Below.refl _ _).alloc (Nat.le_refl _) _
set_option maxHeartbeats 4000000 in
theorem rm_two0 (s : ByteArray) (w : World) (p : Nat) (v1 : Int) (hs : s.size ≤ 140737488351232) (h0 : 0 < s.size) (hpre : bt s 0 ≠ 45) (hp : p = wEnd s 0) (hv : v1 = vTo s 0 0 (p - 0)) (hpa : p ≠ 0) (hdp : digB s p = false) (hlt : p < s.size) (heq : bt s p = 46) (hd1 : digB s (p + 1) = true) (hd2 : digB s (p + 2) = false) :
    Calls Tryd.prog 25 #[.string s] w fun e w' => e = .returned (.tuple #[.int .i64 (0), .agg #[.int .i64 1, .int .i64 (p + 2)]]) ∧ Below w.heap.size w w' := by
  have hge : 0 ≤ p := by rw [hp]; exact wEnd_ge s 0
  have hle : p ≤ s.size := by rw [hp]; exact wEnd_le s 0 (by omega)
  have HGO : Hid (∀ k, 0 ≤ k → k < p → digB s k = true ∧ (k = 0 ∨ (0 < s.size ∧ bt s 0 ≠ 48))) := fun k h1 h2 => w_go h1 (by rw [← hp]; exact h2)
  have HV := Lib.hid hv
  have HBD : Hid (∀ k, 0 ≤ k → k ≤ p → 0 ≤ vTo s 0 0 (k - 0) ∧ vTo s 0 0 (k - 0) ≤ 10000000000009) := fun k h1 h2 => vTo_bd s 0 0 (by omega) (by omega) (k - 0) (fun j hj => (HGO.out (0 + j) (by omega) (by omega)).1)
  rw [bt_in h0] at hpre
  have h00 : (0 : Int) < (s.size : Int) := by omega
  have hm : ((s[0].toNat : Int) == 45) = false := by simpa using hpre
  clear hpre hp hv
  go_enter Tryd.func25, Tryd.ntmps25
  go_wp2_with fail
  go_loop [4, 5] (fun i v => ∃ k : Nat, 0 ≤ k ∧ k ≤ p ∧ i = .int .i64 k ∧ v = .int .i64 (vTo s 0 0 (k - 0))) (fun i _ => p - (intOf i).toNat)
  case atStart => exact ⟨0, Nat.le_refl _, hge, rfl, rfl⟩
  case round =>
    obtain ⟨k, hk0, hk1, rfl, rfl⟩ := hrel
    obtain ⟨b0, b1⟩ := HBD.out k hk0 hk1
    by_cases hkp : k < p
    · obtain ⟨hd, hor⟩ := HGO.out k hk0 hkp
      have hklt : k < s.size := digB_lt hd
      have hklt' : (k : Int) < (s.size : Int) := by omega
      have HN := Lib.hid (vTo_next hk0 hklt)
      have hdig := of_decide_eq_true hd
      rw [bt_in hklt] at hdig
      obtain ⟨g0, g1⟩ := hdig
      generalize vTo s 0 0 (k - 0) = n0 at *
      by_cases hka : k = 0
      · have hkaB : ((k : Int) == 0) = true := by simp; omega
        clear hka hor
        by_cases hmx : n0 ≤ 1000000000000
        · have HS : Hid (vTo s 0 0 (k + 1 - 0) = 10 * n0 + (s[k].toNat : Int) - 48) := by
            unfold Hid; rw [HN.out, sat, if_pos hmx]; omega
          go_wp2_with (go_at_call 40; refine (isDigit_ref _ _ _ (by omega)).mono ?_; rintro e w' ⟨rfl, rfl⟩; rw [Int.toNat_natCast, hd])
          all_goals
            go_round
            case rel => exact ⟨k + 1, by omega, by omega, by go_num, by rw [HS.out]⟩
            case measure => simp [intOf]; omega
        · have HS : Hid (vTo s 0 0 (k + 1 - 0) = n0) := by
            unfold Hid; rw [HN.out, sat, if_neg hmx]
          go_wp2_with (go_at_call 40; refine (isDigit_ref _ _ _ (by omega)).mono ?_; rintro e w' ⟨rfl, rfl⟩; rw [Int.toNat_natCast, hd])
          all_goals
            go_round
            case rel => exact ⟨k + 1, by omega, by omega, by go_num, by rw [HS.out]⟩
            case measure => simp [intOf]; omega
      · have hkaB : ((k : Int) == 0) = false := by simp; omega
        have hor2 : 0 < s.size ∧ bt s 0 ≠ 48 := by rcases hor with h | h; exact absurd h hka; exact h
        obtain ⟨ha1, ha2⟩ := hor2
        rw [bt_in ha1] at ha2
        have ha3 : ((s[0].toNat : Int) != 48) = true := by simpa using ha2
        have ha4 : (0 : Int) < (s.size : Int) := by omega
        clear ha2 hor hka
        by_cases hmx : n0 ≤ 1000000000000
        · have HS : Hid (vTo s 0 0 (k + 1 - 0) = 10 * n0 + (s[k].toNat : Int) - 48) := by
            unfold Hid; rw [HN.out, sat, if_pos hmx]; omega
          go_wp2_with (go_at_call 40; refine (isDigit_ref _ _ _ (by omega)).mono ?_; rintro e w' ⟨rfl, rfl⟩; rw [Int.toNat_natCast, hd])
          all_goals
            go_round
            case rel => exact ⟨k + 1, by omega, by omega, by go_num, by rw [HS.out]⟩
            case measure => simp [intOf]; omega
        · have HS : Hid (vTo s 0 0 (k + 1 - 0) = n0) := by
            unfold Hid; rw [HN.out, sat, if_neg hmx]
          go_wp2_with (go_at_call 40; refine (isDigit_ref _ _ _ (by omega)).mono ?_; rintro e w' ⟨rfl, rfl⟩; rw [Int.toNat_natCast, hd])
          all_goals
            go_round
            case rel => exact ⟨k + 1, by omega, by omega, by go_num, by rw [HS.out]⟩
            case measure => simp [intOf]; omega
    · have hkp' : k = p := by omega
      subst hkp'
      rw [← HV.out]
      have hpaB : ((k : Int) == 0) = false := by simp; omega
      have hsz : (k : Int) < (s.size : Int) := by omega
      have hlt : k < s.size := by omega
      have h46 : ((s[k].toNat : Int) != 46) = false := by rw [bt_in hlt] at heq; simp [heq]
      have hszB : decide (s.size ≤ k) = false := decide_eq_false (by omega)
      clear hpa heq
      go_wp2_with (go_at_call 40; refine (isDigit_ref _ _ _ (by omega)).mono ?_; rintro e w' ⟨rfl, rfl⟩; first | rw [Int.toNat_natCast, hdp] | rw [show ((k : Int) + 1).toNat = k + 1 from by omega, hd1] | rw [show ((k : Int) + 2).toNat = k + 2 from by omega, hd2])
      obtain ⟨v10, v11⟩ := HBD.out k hk0 (Nat.le_refl _)
      rw [← HV.out] at v10 v11
      have hl1 : k + 1 < s.size := digB_lt hd1
      have hl1' : (k : Int) + 1 < (s.size : Int) := by omega
      have hg1 := of_decide_eq_true hd1
      rw [bt_in hl1] at hg1
      obtain ⟨q0, q1⟩ := hg1
      go_loop [5, 8] (fun v i => (i = .int .i64 1 ∧ v = .int .i64 v1) ∨ (i = .int .i64 2 ∧ ∃ v2, v = .int .i64 v2)) (fun _ i => 2 - (intOf i).toNat)
      case atStart => exact .inl ⟨rfl, rfl⟩
      case round =>
        rcases hrel with ⟨rfl, rfl⟩ | ⟨rfl, v2, rfl⟩
        · go_wp2_with (go_at_call 40; refine (isDigit_ref _ _ _ (by omega)).mono ?_; rintro e w' ⟨rfl, rfl⟩; first | rw [Int.toNat_natCast, hdp] | rw [show ((k : Int) + 1).toNat = k + 1 from by omega, hd1] | rw [show ((k : Int) + 2).toNat = k + 2 from by omega, hd2])
          go_round
          case rel => exact .inr ⟨rfl, _, rfl⟩
          case measure => simp [intOf]
        · go_wp2_with (go_at_call 40; refine (isDigit_ref _ _ _ (by omega)).mono ?_; rintro e w' ⟨rfl, rfl⟩; first | rw [Int.toNat_natCast, hdp] | rw [show ((k : Int) + 1).toNat = k + 1 from by omega, hd1] | rw [show ((k : Int) + 2).toNat = k + 2 from by omega, hd2])
          refine bodyPost_ret (v := .tuple #[.int .i64 _, .agg #[.int .i64 _, .int .i64 _]]) (by simp [results, Tryd.results25, go_sem] <;> rfl) rfl ⟨rfl, ?_⟩
          exact (Below.refl _ _).alloc (Nat.le_refl _) _
set_option maxHeartbeats 4000000 in
theorem rm_two1 (s : ByteArray) (w : World) (p : Nat) (v1 : Int) (hs : s.size ≤ 140737488351232) (h0 : 0 < s.size) (hpre : bt s 0 = 45) (hp : p = wEnd s 1) (hv : v1 = vTo s 1 0 (p - 1)) (hpa : p ≠ 1) (hdp : digB s p = false) (hlt : p < s.size) (heq : bt s p = 46) (hd1 : digB s (p + 1) = true) (hd2 : digB s (p + 2) = false) :
    Calls Tryd.prog 25 #[.string s] w fun e w' => e = .returned (.tuple #[.int .i64 (0), .agg #[.int .i64 1, .int .i64 (p + 2)]]) ∧ Below w.heap.size w w' := by
  have hge : 1 ≤ p := by rw [hp]; exact wEnd_ge s 1
  have hle : p ≤ s.size := by rw [hp]; exact wEnd_le s 1 (by omega)
  have HGO : Hid (∀ k, 1 ≤ k → k < p → digB s k = true ∧ (k = 1 ∨ (1 < s.size ∧ bt s 1 ≠ 48))) := fun k h1 h2 => w_go h1 (by rw [← hp]; exact h2)
  have HV := Lib.hid hv
  have HBD : Hid (∀ k, 1 ≤ k → k ≤ p → 0 ≤ vTo s 1 0 (k - 1) ∧ vTo s 1 0 (k - 1) ≤ 10000000000009) := fun k h1 h2 => vTo_bd s 1 0 (by omega) (by omega) (k - 1) (fun j hj => (HGO.out (1 + j) (by omega) (by omega)).1)
  rw [bt_in h0] at hpre
  have h00 : (0 : Int) < (s.size : Int) := by omega
  have hm : ((s[0].toNat : Int) == 45) = true := by rw [hpre]; rfl
  clear hpre hp hv
  go_enter Tryd.func25, Tryd.ntmps25
  go_wp2_with fail
  go_loop [4, 5] (fun i v => ∃ k : Nat, 1 ≤ k ∧ k ≤ p ∧ i = .int .i64 k ∧ v = .int .i64 (vTo s 1 0 (k - 1))) (fun i _ => p - (intOf i).toNat)
  case atStart => exact ⟨1, Nat.le_refl _, hge, rfl, rfl⟩
  case round =>
    obtain ⟨k, hk0, hk1, rfl, rfl⟩ := hrel
    obtain ⟨b0, b1⟩ := HBD.out k hk0 hk1
    by_cases hkp : k < p
    · obtain ⟨hd, hor⟩ := HGO.out k hk0 hkp
      have hklt : k < s.size := digB_lt hd
      have hklt' : (k : Int) < (s.size : Int) := by omega
      have HN := Lib.hid (vTo_next hk0 hklt)
      have hdig := of_decide_eq_true hd
      rw [bt_in hklt] at hdig
      obtain ⟨g0, g1⟩ := hdig
      generalize vTo s 1 0 (k - 1) = n0 at *
      by_cases hka : k = 1
      · have hkaB : ((k : Int) == 1) = true := by simp; omega
        clear hka hor
        by_cases hmx : n0 ≤ 1000000000000
        · have HS : Hid (vTo s 1 0 (k + 1 - 1) = 10 * n0 + (s[k].toNat : Int) - 48) := by
            unfold Hid; rw [HN.out, sat, if_pos hmx]; omega
          go_wp2_with (go_at_call 40; refine (isDigit_ref _ _ _ (by omega)).mono ?_; rintro e w' ⟨rfl, rfl⟩; rw [Int.toNat_natCast, hd])
          all_goals
            go_round
            case rel => exact ⟨k + 1, by omega, by omega, by go_num, by rw [HS.out]⟩
            case measure => simp [intOf]; omega
        · have HS : Hid (vTo s 1 0 (k + 1 - 1) = n0) := by
            unfold Hid; rw [HN.out, sat, if_neg hmx]
          go_wp2_with (go_at_call 40; refine (isDigit_ref _ _ _ (by omega)).mono ?_; rintro e w' ⟨rfl, rfl⟩; rw [Int.toNat_natCast, hd])
          all_goals
            go_round
            case rel => exact ⟨k + 1, by omega, by omega, by go_num, by rw [HS.out]⟩
            case measure => simp [intOf]; omega
      · have hkaB : ((k : Int) == 1) = false := by simp; omega
        have hor2 : 1 < s.size ∧ bt s 1 ≠ 48 := by rcases hor with h | h; exact absurd h hka; exact h
        obtain ⟨ha1, ha2⟩ := hor2
        rw [bt_in ha1] at ha2
        have ha3 : ((s[1].toNat : Int) != 48) = true := by simpa using ha2
        have ha4 : (1 : Int) < (s.size : Int) := by omega
        clear ha2 hor hka
        by_cases hmx : n0 ≤ 1000000000000
        · have HS : Hid (vTo s 1 0 (k + 1 - 1) = 10 * n0 + (s[k].toNat : Int) - 48) := by
            unfold Hid; rw [HN.out, sat, if_pos hmx]; omega
          go_wp2_with (go_at_call 40; refine (isDigit_ref _ _ _ (by omega)).mono ?_; rintro e w' ⟨rfl, rfl⟩; rw [Int.toNat_natCast, hd])
          all_goals
            go_round
            case rel => exact ⟨k + 1, by omega, by omega, by go_num, by rw [HS.out]⟩
            case measure => simp [intOf]; omega
        · have HS : Hid (vTo s 1 0 (k + 1 - 1) = n0) := by
            unfold Hid; rw [HN.out, sat, if_neg hmx]
          go_wp2_with (go_at_call 40; refine (isDigit_ref _ _ _ (by omega)).mono ?_; rintro e w' ⟨rfl, rfl⟩; rw [Int.toNat_natCast, hd])
          all_goals
            go_round
            case rel => exact ⟨k + 1, by omega, by omega, by go_num, by rw [HS.out]⟩
            case measure => simp [intOf]; omega
    · have hkp' : k = p := by omega
      subst hkp'
      rw [← HV.out]
      have hpaB : ((k : Int) == 1) = false := by simp; omega
      have hsz : (k : Int) < (s.size : Int) := by omega
      have hlt : k < s.size := by omega
      have h46 : ((s[k].toNat : Int) != 46) = false := by rw [bt_in hlt] at heq; simp [heq]
      have hszB : decide (s.size ≤ k) = false := decide_eq_false (by omega)
      clear hpa heq
      go_wp2_with (go_at_call 40; refine (isDigit_ref _ _ _ (by omega)).mono ?_; rintro e w' ⟨rfl, rfl⟩; first | rw [Int.toNat_natCast, hdp] | rw [show ((k : Int) + 1).toNat = k + 1 from by omega, hd1] | rw [show ((k : Int) + 2).toNat = k + 2 from by omega, hd2])
      obtain ⟨v10, v11⟩ := HBD.out k hk0 (Nat.le_refl _)
      rw [← HV.out] at v10 v11
      have hl1 : k + 1 < s.size := digB_lt hd1
      have hl1' : (k : Int) + 1 < (s.size : Int) := by omega
      have hg1 := of_decide_eq_true hd1
      rw [bt_in hl1] at hg1
      obtain ⟨q0, q1⟩ := hg1
      go_loop [5, 8] (fun v i => (i = .int .i64 1 ∧ v = .int .i64 v1) ∨ (i = .int .i64 2 ∧ ∃ v2, v = .int .i64 v2)) (fun _ i => 2 - (intOf i).toNat)
      case atStart => exact .inl ⟨rfl, rfl⟩
      case round =>
        rcases hrel with ⟨rfl, rfl⟩ | ⟨rfl, v2, rfl⟩
        · go_wp2_with (go_at_call 40; refine (isDigit_ref _ _ _ (by omega)).mono ?_; rintro e w' ⟨rfl, rfl⟩; first | rw [Int.toNat_natCast, hdp] | rw [show ((k : Int) + 1).toNat = k + 1 from by omega, hd1] | rw [show ((k : Int) + 2).toNat = k + 2 from by omega, hd2])
          go_round
          case rel => exact .inr ⟨rfl, _, rfl⟩
          case measure => simp [intOf]
        · go_wp2_with (go_at_call 40; refine (isDigit_ref _ _ _ (by omega)).mono ?_; rintro e w' ⟨rfl, rfl⟩; first | rw [Int.toNat_natCast, hdp] | rw [show ((k : Int) + 1).toNat = k + 1 from by omega, hd1] | rw [show ((k : Int) + 2).toNat = k + 2 from by omega, hd2])
          refine bodyPost_ret (v := .tuple #[.int .i64 _, .agg #[.int .i64 _, .int .i64 _]]) (by simp [results, Tryd.results25, go_sem] <;> rfl) rfl ⟨rfl, ?_⟩
          exact (Below.refl _ _).alloc (Nat.le_refl _) _
end Go.Proofs.YtiaphopimdljmaaDoor
