/-
  Promise P1: the walks of the reference's BankAccount, of what must be in any case (bankBegun), and of the law BankAccounts: it answers true at every input.
-/
import Derived.Test.YtdfgkngfpedgdaaDoorBAcc
namespace Go.Proofs.YtdfgkngfpedgdaaDoor
open Go.RowKit

set_option maxRecDepth 100000 in
set_option maxHeartbeats 1000000 in
theorem bankAccount_ref (b : ByteArray) (w : World) (hb : bodyB b = true) :
    Calls Tryd.prog 12 #[.string b] w fun e w' => e = .returned (.string (accT b)) ∧ Below w.heap.size w w' := by
  have HA := Lib.hid (fun (k : Nat) (h2 : 2 ≤ k) (h98 : k ≤ 98) => acc_pad hb h2 h98)
  have HZ := Lib.hid (bodyB_iff.1 hb).2
  have HE := Lib.hid (endOf_bd b)
  have HT : Hid (accT b = b ++ padT (endOf b) 2) := rfl
  generalize endOf b = en at *
  clear hb
  go_enter Tryd.func12, Tryd.ntmps12
  go_wp2_with fail
  go_loopw [3] (fun i wr => ∃ k : Nat, 2 ≤ k ∧ k ≤ en ∧ i = .int .i64 (k : Int) ∧ Below w.heap.size w wr) (fun i _ => 99 - (intOf i).toNat)
  case atStart => exact ⟨2, Nat.le_refl _, HE.out.1, rfl, Below.refl _ _⟩
  case round =>
    obtain ⟨k, hk2, hke, rfl, hb⟩ := hrel
    have HB := Lib.hid hb
    have hk98 : k ≤ 98 := Nat.le_trans hke HE.out.2.1
    have hk98' : (k : Int) ≤ 98 := by omega
    have hsum : b.size + (padT k 2).size ≤ 9223372036854775807 := by rw [HZ.out, padT_size]; omega
    have HZ2 : Hid ((b ++ padT k 2).size ≤ 9223372036854775807) := by unfold Hid; rw [ByteArray.size_append]; exact hsum
    have HAK := Lib.hid (HA.out k hk2 hk98)
    clear hb
    go_wp2_with fail
    refine (padded_ref k 2 _ (by omega) (by omega)).mono ?_
    rintro e w1 ⟨rfl, hb1⟩
    have HB1 := Lib.hid (HB.out.trans (hb1.mono HB.out.size))
    clear hb1
    go_wp2_with fail
    refine (isBankAccount_ref _ _ HZ2.out).mono ?_
    rintro e w' ⟨rfl, h'⟩
    subst w'
    rw [HAK.out]
    by_cases hke' : k = en
    · rw [decide_eq_true hke']
      have HK := Lib.hid hke'
      clear hke'
      go_wp2_with fail
      go_ret
      exact ⟨by rw [HT.out, HK.out]; rfl, HB1.out⟩
    · rw [decide_eq_false hke']
      go_wp2_with fail
      go_roundw
      case rel => exact ⟨k + 1, by omega, by omega, by go_num, HB1.out⟩
      case measure => simp [intOf]; omega
def bgBody : ByteArray := ⟨#[49, 50, 51, 52, 53, 54, 55, 56, 57, 48]⟩
theorem bg_body : bodyB bgBody = true := by decide +kernel
set_option maxRecDepth 100000 in
set_option maxHeartbeats 1000000 in
theorem begun_any (w : World) (ht : Tab w) : Calls Tryd.prog 13 #[] w fun e w' => e = .returned (.bool true) ∧ Below w.heap.size w w' := by
  have HT := Lib.hid ht
  have HK := Lib.hid (fun w ht => Account_any bgBody w ht)
  rw [(acc_ok bg_body).1, (acc_ok bg_body).2] at HK
  have hsz : (accT bgBody).size = 12 := accT_size (bodyB_iff.1 bg_body).2
  have HA : Hid (accB (accT bgBody) = true) := by
    have := acc_pad bg_body (endOf_bd bgBody).1 (endOf_bd bgBody).2.1
    rw [decide_eq_true rfl] at this
    exact this
  have hszI : ((accT bgBody).size : Int) = 12 := by omega
  clear ht hsz
  generalize accT bgBody = at' at *
  go_enter Tryd.func13, Tryd.ntmps13
  go_wp2_with fail
  refine (HK.out _ HT.out).mono ?_
  rintro e w1 ⟨rfl, hb1⟩
  have HB1 := Lib.hid hb1
  clear hb1
  go_wp2_with fail
  refine (IsAccount_any at' _ (HT.out.below HB1.out)).mono ?_
  rintro e w2 ⟨rfl, hb2⟩
  have HB2 := Lib.hid (HB1.out.trans (hb2.mono HB1.out.size))
  rw [HA.out]
  clear hb2
  go_wp2_with fail
  go_ret
  exact ⟨rfl, HB2.out⟩
theorem textIs_ok (s : ByteArray) (w : World) : Calls Tryd.prog 14 #[.string s, .int .i64 0, .int .i64 0, .string s] w fun r w' => r = .returned (.bool true) ∧ w' = w := by
  go_enter Tryd.func14, Tryd.ntmps14
  go_wp2_with fail
  go_ret
  exact ⟨tret_bool (by simp), rfl⟩
theorem textIs_bad (e : Int) (x : ByteArray) (w : World) (he : e ≠ 0) : Calls Tryd.prog 14 #[.string nilT, .int .i64 e, .int .i64 e, .string x] w fun r w' => r = .returned (.bool true) ∧ w' = w := by
  have hb : (e != 0) = true := by simp [he]
  go_enter Tryd.func14, Tryd.ntmps14
  go_wp2_with fail
  go_ret
  exact ⟨tret_bool (by simp [nilT]), rfl⟩
set_option maxRecDepth 100000 in
set_option maxHeartbeats 1000000 in
theorem walk_bankAccounts (b : ByteArray) (hbz0 : b.size ≤ 140737488351232) (s : ByteArray) (hs0 : s.size ≤ 140737488351232) {w : World} (ht : Tab w) :
    Calls Tryd.prog 3 #[.string b, .string s] w fun e w' => e = .returned (.bool true) ∧ Below w.heap.size w w' := by
  have hbz : b.size ≤ 9223372036854775807 := by omega
  have hs : s.size ≤ 9223372036854775807 := by omega
  have HT := Lib.hid ht
  have HK := Lib.hid (Account_any b w ht)
  clear hbz0 hs0
  clear ht
  cases hB : bodyB b
  · rw [(acc_no hB).1, (acc_no hB).2] at HK
    have hA : (allT digB b && decide ((b.size : Int) = 10)) = false := by
      rw [← hB]; unfold bodyB; congr 1; rw [Bool.eq_iff_iff]; simp; omega
    go_enter Tryd.func3, Tryd.ntmps3
    go_wp2_with fail
    refine HK.out.mono ?_
    rintro e w1 ⟨rfl, hb1⟩
    have HB2 := Lib.hid hb1
    clear hb1
    go_wp2_with fail
    refine (allDigits_ref b 10 _ hbz).mono ?_
    rintro e w' ⟨rfl, h'⟩
    subst w'
    rw [hA]
    go_wp2_with fail
    refine (begun_any _ (HT.out.below HB2.out)).mono ?_
    rintro e w3 ⟨rfl, hb3⟩
    have HB3 := Lib.hid (HB2.out.trans (hb3.mono HB2.out.size))
    clear hb3
    go_wp2_with fail
    refine (textIs_bad 1 _ _ (by decide)).mono ?_
    rintro e w' ⟨rfl, h'⟩
    subst w'
    go_wp2_with fail
    refine (IsAccount_any s _ (HT.out.below HB3.out)).mono ?_
    rintro e w4 ⟨rfl, hb4⟩
    have HB4 := Lib.hid (HB3.out.trans (hb4.mono HB3.out.size))
    clear hb4
    go_wp2_with fail
    refine (isBankAccount_ref s _ hs).mono ?_
    rintro e w' ⟨rfl, h'⟩
    subst w'
    go_wp2_with fail
    go_ret
    exact ⟨tret_bool (by simp), HB4.out⟩
  · rw [(acc_ok hB).1, (acc_ok hB).2] at HK
    have hA : (allT digB b && decide ((b.size : Int) = 10)) = true := by
      rw [← hB]; unfold bodyB; congr 1; rw [Bool.eq_iff_iff]; simp; omega
    have HR := Lib.hid (fun w => bankAccount_ref b w hB)
    generalize accT b = at' at *
    go_enter Tryd.func3, Tryd.ntmps3
    go_wp2_with fail
    refine HK.out.mono ?_
    rintro e w1 ⟨rfl, hb1⟩
    have HB1 := Lib.hid hb1
    clear hb1
    go_wp2_with fail
    refine (allDigits_ref b 10 _ hbz).mono ?_
    rintro e w' ⟨rfl, h'⟩
    subst w'
    rw [hA]
    go_wp2_with fail
    refine (HR.out _).mono ?_
    rintro e w2 ⟨rfl, hb2⟩
    have HB2 := Lib.hid (HB1.out.trans (hb2.mono HB1.out.size))
    clear hb2
    go_wp2_with fail
    refine (begun_any _ (HT.out.below HB2.out)).mono ?_
    rintro e w3 ⟨rfl, hb3⟩
    have HB3 := Lib.hid (HB2.out.trans (hb3.mono HB2.out.size))
    clear hb3
    go_wp2_with fail
    refine (textIs_ok at' _).mono ?_
    rintro e w' ⟨rfl, h'⟩
    subst w'
    go_wp2_with fail
    refine (IsAccount_any s _ (HT.out.below HB3.out)).mono ?_
    rintro e w4 ⟨rfl, hb4⟩
    have HB4 := Lib.hid (HB3.out.trans (hb4.mono HB3.out.size))
    clear hb4
    go_wp2_with fail
    refine (isBankAccount_ref s _ hs).mono ?_
    rintro e w' ⟨rfl, h'⟩
    subst w'
    go_wp2_with fail
    go_ret
    exact ⟨tret_bool (by simp), HB4.out⟩
end Go.Proofs.YtdfgkngfpedgdaaDoor
