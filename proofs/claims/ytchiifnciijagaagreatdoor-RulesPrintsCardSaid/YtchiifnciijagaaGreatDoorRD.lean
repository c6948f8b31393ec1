/-
  Walks of the reference's Digits and MoneyText: at a number from 0 on Digits returns its decimal digits; MoneyText returns what money is printed as.
-/
import Derived.Test.YtchiifnciijagaaGreatDoorRM
import Derived.Test.YtchiifnciijagaaGreatDoorJB
import Derived.Lib.Hide
namespace Go.Proofs.YtchiifnciijagaaGreatDoor.Mny
open Go.RowKit

theorem dig_toNat (m : Nat) (h : m < 10) : ((dig m).toNat : Int) = 48 + (m : Int) := by
  unfold dig
  rw [UInt8.toNat_ofNat']
  omega
theorem conv_one (m : Nat) (hm : m < 10) (w : World) :
    (convert 42 9 (.slice (some ⟨w.heap.size, 0, none⟩) 1 1)).run Tryz.prog (w.alloc (.cells #[.int .u8 (48 + (m : Int))] 5)) = .ok (.string ⟨#[dig m]⟩) (w.alloc (.cells #[.int .u8 (48 + (m : Int))] 5)) := by
  have := run_convert_bytes_back (P := Tryz.prog) (w.alloc (.cells #[.int .u8 (48 + (m : Int))] 5)) 42 9 5 ⟨w.heap.size, 0, none⟩ 1 [dig m] Tryz.underlying42 Tryz.underlying5 Tryz.underlying9 (fun j hj => by
    match j, hj with
    | 0, _ =>
      rw [Addr.add_lit, Nat.zero_add, World.cell?_alloc_at (w := w) _ _ _ _ rfl]
      simp [dig_toNat m hm])
  exact this

set_option maxHeartbeats 1000000 in
theorem digits_small (n : Int) (w : World) (h0 : 0 ≤ n) (hn : n < 10) : Calls Tryz.prog 44 #[.int .i64 n] w fun e w' => ∃ s : ByteArray, e = .returned (.string s) ∧ Hid (s.data.toList = Lib.decDigits n.toNat) ∧ s.size ≤ 1 ∧ Below w.heap.size w w' := by
  obtain ⟨m, rfl⟩ := Int.eq_ofNat_of_zero_le h0
  have hm : m < 10 := by omega
  have hcv := conv_one m hm
  have HD : Hid (Lib.decDigits m = [dig m]) := Lib.decDigits_one hm
  go_enter Tryz.func44, Tryz.ntmps44
  go_wp2_with fail
  go_ret
  refine ⟨_, rfl, ?_, ?_, (Below.refl _ _).alloc (Nat.le_refl _) _⟩
  · unfold Hid; rw [Int.toNat_natCast, HD.out]
  · exact Nat.le_refl _

theorem decDigits_len (m : Nat) : (Lib.decDigits m).length ≤ m + 1 := by
  induction m using Nat.strongRecOn with
  | _ m ih =>
    by_cases h : m < 10
    · rw [Lib.decDigits_one h]; simp
    · rw [Lib.decDigits, dif_neg h]
      have := ih (m / 10) (by omega)
      simp
      omega

set_option maxHeartbeats 1000000 in
theorem digits_any (k : Nat) : ∀ (n : Int) (w : World), 0 ≤ n → n ≤ k → n ≤ 1000000000000000000 →
    Calls Tryz.prog 44 #[.int .i64 n] w fun e w' => ∃ s : ByteArray, e = .returned (.string s) ∧ Hid (s.data.toList = Lib.decDigits n.toNat) ∧ s.size ≤ 2 * n.toNat + 1 ∧ Below w.heap.size w w' := by
  induction k with
  | zero =>
    intro n w h0 hk _
    refine (digits_small n w h0 (by omega)).mono ?_
    rintro e w' ⟨s, rfl, h1, h2, h3⟩
    exact ⟨s, rfl, h1, by omega, h3⟩
  | succ k ih =>
    intro n w h0 hk hM
    by_cases h10 : n < 10
    · refine (digits_small n w h0 h10).mono ?_
      rintro e w' ⟨s, rfl, h1, h2, h3⟩
      exact ⟨s, rfl, h1, by omega, h3⟩
    · have IH := Lib.hid ih
      clear ih
      have HD : Hid (Lib.decDigits n.toNat = Lib.decDigits (n.toNat / 10) ++ [dig (n.toNat % 10)]) := by
        unfold Hid
        rw [Lib.decDigits, dif_neg (by omega)]
        rfl
      go_enter Tryz.func44, Tryz.ntmps44
      go_wp2_with fail
      refine (IH.out (n / 10) w (by omega) (by omega) (by omega)).mono ?_
      rintro e w1 ⟨s1, rfl, HS1, hs1, hb1⟩
      have HB1 := Lib.hid hb1
      clear hb1
      go_wp2_with fail
      refine (digits_small (n % 10) w1 (by omega) (by omega)).mono ?_
      rintro e w2 ⟨s2, rfl, HS2, hs2, hb2⟩
      have HB2 : Hid (Below w.heap.size w w2) := HB1.out.trans (hb2.mono HB1.out.size)
      clear hb2
      go_wp2_with fail
      go_ret
      refine ⟨_, rfl, ?_, ?_, HB2.out⟩
      · unfold Hid
        rw [ba_append, HS1.out, HS2.out, HD.out, Lib.decDigits_one (i := (n % 10).toNat) (by omega)]
        have e1 : (n / 10).toNat = n.toNat / 10 := by omega
        have e2 : (n % 10).toNat = n.toNat % 10 := by omega
        rw [e1, e2]
        rfl
      · rw [size_toList, ba_append, List.length_append, ← size_toList s1, ← size_toList s2]
        omega

set_option maxHeartbeats 1000000 in
theorem moneyText_pos (m : Nat) (w : World) (hm : m ≤ 1000000000000) :
    Calls Tryz.prog 43 #[.int .i64 (m : Int)] w fun e w' => ∃ s : ByteArray, e = .returned (.string s) ∧ Hid (s.data.toList = printL (m : Int)) ∧ s.size ≤ 100000000000000 ∧ Below w.heap.size w w' := by
  have HP : Hid (printL (m : Int) = Lib.decDigits (m / 100) ++ [46] ++ [dig (m / 10 % 10)] ++ [dig (m % 10)]) := by
    unfold Hid printL
    rw [if_neg (by omega), Int.natAbs_natCast]
    simp
  go_enter Tryz.func43, Tryz.ntmps43
  go_wp2_with fail
  refine (digits_any m ((m : Int) / 100) w (by omega) (by omega) (by omega)).mono ?_
  rintro e w1 ⟨s1, rfl, HS1, hs1, hb1⟩
  have HB1 := Lib.hid hb1
  have hs1' : s1.size ≤ 2 * m + 1 := by omega
  clear hb1 hs1
  go_wp2_with fail
  refine (digits_small ((m : Int) / 10 % 10) w1 (by omega) (by omega)).mono ?_
  rintro e w2 ⟨s2, rfl, HS2, hs2, hb2⟩
  have HB2 : Hid (Below w.heap.size w w2) := HB1.out.trans (hb2.mono HB1.out.size)
  clear hb2
  go_wp2_with fail
  refine (digits_small ((m : Int) % 10) w2 (by omega) (by omega)).mono ?_
  rintro e w3 ⟨s3, rfl, HS3, hs3, hb3⟩
  have HB3 : Hid (Below w.heap.size w w3) := HB2.out.trans (hb3.mono HB2.out.size)
  clear hb3
  go_wp2_with fail
  go_ret
  refine ⟨_, rfl, ?_, ?_, HB3.out⟩
  · unfold Hid
    rw [ba_append, ba_append, ba_append, HS1.out, HS2.out, HS3.out, HP.out, Lib.decDigits_one (i := ((m : Int) / 10 % 10).toNat) (by omega), Lib.decDigits_one (i := ((m : Int) % 10).toNat) (by omega)]
    have e1 : ((m : Int) / 100).toNat = m / 100 := by omega
    have e2 : ((m : Int) / 10 % 10).toNat = m / 10 % 10 := by omega
    have e3 : ((m : Int) % 10).toNat = m % 10 := by omega
    rw [e1, e2, e3]
    rfl
  · rw [size_toList, ba_append, ba_append, ba_append, List.length_append, List.length_append, List.length_append, ← size_toList s1, ← size_toList s2, ← size_toList s3]
    have : (⟨#[46]⟩ : ByteArray).data.toList.length = 1 := rfl
    omega

set_option maxHeartbeats 1000000 in
theorem moneyText_any (n : Int) (w : World) (h : monB n = true) :
    Calls Tryz.prog 43 #[.int .i64 n] w fun e w' => ∃ s : ByteArray, e = .returned (.string s) ∧ s.data.toList = printL n ∧ Below w.heap.size w w' := by
  obtain ⟨n0, n1⟩ := monB_iff.1 h
  clear h
  by_cases hn : n < 0
  · obtain ⟨m, rfl⟩ : ∃ m : Nat, n = -(m : Int) := ⟨n.natAbs, by omega⟩
    have HP : Hid (printL (-(m : Int)) = [45] ++ printL (m : Int)) := by
      unfold Hid printL
      rw [if_pos (by omega), if_neg (by omega)]
      simp
    go_enter Tryz.func43, Tryz.ntmps43
    go_wp2_with fail
    refine (moneyText_pos m w (by omega)).mono ?_
    rintro e w1 ⟨s1, rfl, HS1, hs1, hb1⟩
    have HB1 := Lib.hid hb1
    clear hb1
    go_wp2_with fail
    go_ret
    refine ⟨_, rfl, ?_, HB1.out⟩
    rw [ba_append, HS1.out, HP.out]
  · obtain ⟨m, rfl⟩ := Int.eq_ofNat_of_zero_le (show 0 ≤ n by omega)
    refine (moneyText_pos m w (by omega)).mono ?_
    rintro e w1 ⟨s1, rfl, HS1, hs1, hb1⟩
    exact ⟨s1, rfl, HS1.out, hb1⟩
end Go.Proofs.YtchiifnciijagaaGreatDoor.Mny
