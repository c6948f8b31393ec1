/-
  Promise P1: texts of digits and of letters, and the numbers that digits are: the walks of isAll and number, and of the reference's AllDigits, IsPayee and Number.
  Promises P1, P2: the walks of the reference's IsDigit, IsLetter, AllDigits, IsPayee, Number, Digits (of one) and Padded; numbers with noughts ahead, as lists of bytes.
  Promises P1, P2: numbers with noughts ahead: the walks of padded and of the reference's Digits (of one) and Padded: both are sfx.
  Promise P1: accounts: the walks of Account and IsAccount, and of the reference's IsBankAccount and BankAccount.
  Promise P3: payments, as they lie in memory; what is wrong with them; the walks of isName, placesByRef and checkPayments.
  Promise P3: the walks of placesByRef and checkPayments.
  Promise P3: the walk of the reference's CheckPayments.
-/
import Derived.Test.YtkalfdjmklakdaaGreatDoorKA
import Derived.Lib.ItoaNum
import Derived.Laws.IdiomStrings
import Derived.Test.YtkalfdjmklakdaaGreatDoorKH
import Derived.Lib.Repeat
import Derived.Maps.OwnSet
import Derived.OpenShut
import Derived.Deep.Slices
import Derived.Lib.SmallJoins
namespace Go.Proofs.YtkalfdjmklakdaaGreatDoor.Cal.Bnk
open Go.RowKit
theorem bt_extract (s : ByteArray) (a e j : Nat) (he : e ≤ s.size) (hj : j < e - a) : bt (s.extract a e) j = bt s (a + j) := by
 have h1 : j < (s.extract a e).size := by rw [ByteArray.size_extract]; omega
 have h2 : a + j < s.size := by omega
 rw [bt_in h1, bt_in h2, ByteArray.getElem_extract]
theorem bt_append_l (s t : ByteArray) (j : Nat) (h : j < s.size) : bt (s ++ t) j = bt s j := by
 have h1 : j < (s ++ t).size := by rw [ByteArray.size_append]; omega
 rw [bt_in h1, bt_in h, ByteArray.getElem_append_left h]
theorem bt_append_r (s t : ByteArray) (j : Nat) : bt (s ++ t) (s.size + j) = bt t j := by
 by_cases h : j < t.size
 ·have h1 : s.size + j < (s ++ t).size := by rw [ByteArray.size_append]; omega
  rw [bt_in h1, bt_in h, ByteArray.getElem_append_right (by omega)]
  simp
 ·rw [bt_out h, bt_out (by rw [ByteArray.size_append]; omega)]
theorem ba_eq {s t : ByteArray} (hs : s.size = t.size) (h : ∀ j, j < s.size → bt s j = bt t j) : s = t := by
 apply ByteArray.ext_getElem hs
 intro j h1 h2
 have := h j h1
 rw [bt_in h1, bt_in h2] at this
 exact UInt8.toNat_inj.1 (by omega)
def allT (P : Int → Bool) (s : ByteArray) : Bool := (List.range s.size).all fun k => P (bt s k)
theorem allT_iff {P : Int → Bool} {s : ByteArray} : allT P s = true ↔ ∀ k, k < s.size → P (bt s k) = true := by
 unfold allT
 rw [List.all_eq_true]
 exact ⟨fun h k hk => h k (List.mem_range.2 hk), fun h k hk => h k (List.mem_range.1 hk)⟩
theorem allT_not {P : Int → Bool} {s : ByteArray} {k : Nat} (hk : k < s.size) (h : P (bt s k) = false) : allT P s = false := by
 rw [Bool.eq_false_iff]
 intro e
 rw [allT_iff.1 e k hk] at h
 cases h
theorem bDigit_one (r : Int) (w : World) : Calls Tryz.prog 258 #[.int .i32 r] w fun e w' => e = .returned (.bool (digB r)) ∧ w' = w := by
 by_cases h1 : 48 ≤ r
 ·have H : Hid (digB r = decide (r ≤ 57)) := by unfold Hid digB; simp [h1]
  go_enter Tryz.func258, Tryz.ntmps258
  go_wp2
  go_ret
  exact ⟨tret_bool (by rw [H.out]; try rfl), rfl⟩
 ·have H : Hid (digB r = false) := decide_eq_false (by omega)
  have hd : decide (48 ≤ r) = false := decide_eq_false h1
  go_enter Tryz.func258, Tryz.ntmps258
  go_wp2
  go_ret
  exact ⟨tret_bool (by rw [H.out]; try rfl), rfl⟩
theorem bLetter_one (r : Int) (w : World) : Calls Tryz.prog 242 #[.int .i32 r] w fun e w' => e = .returned (.bool (letB r)) ∧ w' = w := by
 by_cases h1 : 97 ≤ r
 ·have H : Hid (letB r = decide (r ≤ 122)) := by unfold Hid letB; simp [h1]
  go_enter Tryz.func242, Tryz.ntmps242
  go_wp2
  go_ret
  exact ⟨tret_bool (by rw [H.out]; try rfl), rfl⟩
 ·have H : Hid (letB r = false) := decide_eq_false (by omega)
  have hd : decide (97 ≤ r) = false := decide_eq_false h1
  go_enter Tryz.func242, Tryz.ntmps242
  go_wp2
  go_ret
  exact ⟨tret_bool (by rw [H.out]; try rfl), rfl⟩
set_option maxRecDepth 100000 in
set_option maxHeartbeats 1000000 in
theorem isAll_dig (s : ByteArray) (w : World) :
 Calls Tryz.prog 241 #[.string s, .func (.func 258) #[] #[]] w fun e w' => e = .returned (.bool (allT digB s)) ∧ Below w.heap.size w w' := by
 go_enter Tryz.func241, Tryz.ntmps241
 go_wp2_with fail
 go_loopw [] (fun w' => ∃ pos : Nat, w' = w.iter s pos ∧ pos ≤ s.size ∧ ∀ k, k < pos → digB (bt s k) = true) (fun w' => s.size - w'.iterPos w.heap.size)
 case atStart => exact ⟨0, rfl, Nat.zero_le _, fun k hk => absurd hk (by omega)⟩
 case round =>
  obtain ⟨pos, rfl, hpos, hall⟩ := hrel
  have HA := Lib.hid hall
  clear hall
  by_cases hp : pos < s.size
  ·have hnx : ∀ ty, (Instr.next (.pointer (some ⟨w.heap.size, 0, none⟩)) true ty).run Tryz.prog (w.iter s pos) = _ := fun ty => run_next_any w s pos ty hp
   have HW : Hid (1 ≤ (Utf8.decode s pos).2 ∧ pos + (Utf8.decode s pos).2 ≤ s.size ∧ digB ((Utf8.decode s pos).1 : Int) = digB (bt s pos) ∧ (digB (bt s pos) = true → ∀ k, k < pos + (Utf8.decode s pos).2 → digB (bt s k) = true)) := by
    have hbp := bt_in hp
    by_cases ha : (s[pos]'hp).toNat < 128
    ·rw [Hid, decode_ascii s pos hp ha]
     refine ⟨Nat.le_refl _, hp, by rw [hbp], fun h k hk => ?_⟩
     rcases (show k < pos ∨ k = pos by simp at hk; omega) with h' | rfl
     ·exact HA.out k h'
     ·exact h
    ·have h1 := decode_high s pos hp (by omega)
     have h2 := decode_wide s pos hp (by omega)
     refine ⟨h1.2, ?_, ?_, fun h k hk => ?_⟩
     ·have := (h2 ((Utf8.decode s pos).2 - 1) (by omega)).1
      omega
     ·rw [digB_hi _ (by omega), digB_hi _ (by rw [hbp]; omega)]
     ·by_cases e : k < pos
      ·exact HA.out k e
      ·obtain ⟨q, rfl⟩ : ∃ q, k = pos + q := ⟨k - pos, by omega⟩
       exact (digB_hi _ (h2 q (by omega)).2).trans ((digB_hi (bt s pos) (by rw [hbp]; omega)).symm.trans h)
   have HC := Lib.hid (fun w => bDigit_one ((Utf8.decode s pos).1 : Int) w)
   obtain ⟨hw1, hw2, HW3, HW4⟩ := HW.out
   have HW3 := Lib.hid HW3
   have HW4 := Lib.hid HW4
   clear HW
   generalize hr : ((Utf8.decode s pos).1 : Int) = r at *
   clear hr
   cases hb : digB r
   ·have HF : Hid (allT digB s = false) := allT_not hp (by rw [← HW3.out]; exact hb)
    go_wp2_with fail
    refine (HC.out _).mono ?_
    rintro e w' ⟨rfl, h'⟩
    subst w'
    rw [hb]
    go_wp2_with fail
    go_ret
    exact ⟨tret_bool HF.out.symm, iter_below _ _ _⟩
   ·have HT := Lib.hid (HW4.out (by rw [← HW3.out]; exact hb))
    go_wp2_with fail
    refine (HC.out _).mono ?_
    rintro e w' ⟨rfl, h'⟩
    subst w'
    rw [hb]
    go_wp2_with fail
    go_roundw
    case rel => exact ⟨_, rfl, hw2, HT.out⟩
    case measure => simp; omega
  ·obtain rfl : pos = s.size := by omega
   have hnx : ∀ ty, (Instr.next (.pointer (some ⟨w.heap.size, 0, none⟩)) true ty).run Tryz.prog (w.iter s s.size) = _ := fun ty => run_next_end w s s.size ty hp
   have HF : Hid (allT digB s = true) := allT_iff.2 HA.out
   go_wp2_with fail
   go_ret
   exact ⟨tret_bool HF.out.symm, iter_below _ _ _⟩
set_option maxRecDepth 100000 in
set_option maxHeartbeats 1000000 in
theorem isAll_let (s : ByteArray) (w : World) :
 Calls Tryz.prog 241 #[.string s, .func (.func 242) #[] #[]] w fun e w' => e = .returned (.bool (allT letB s)) ∧ Below w.heap.size w w' := by
 go_enter Tryz.func241, Tryz.ntmps241
 go_wp2_with fail
 go_loopw [] (fun w' => ∃ pos : Nat, w' = w.iter s pos ∧ pos ≤ s.size ∧ ∀ k, k < pos → letB (bt s k) = true) (fun w' => s.size - w'.iterPos w.heap.size)
 case atStart => exact ⟨0, rfl, Nat.zero_le _, fun k hk => absurd hk (by omega)⟩
 case round =>
  obtain ⟨pos, rfl, hpos, hall⟩ := hrel
  have HA := Lib.hid hall
  clear hall
  by_cases hp : pos < s.size
  ·have hnx : ∀ ty, (Instr.next (.pointer (some ⟨w.heap.size, 0, none⟩)) true ty).run Tryz.prog (w.iter s pos) = _ := fun ty => run_next_any w s pos ty hp
   have HW : Hid (1 ≤ (Utf8.decode s pos).2 ∧ pos + (Utf8.decode s pos).2 ≤ s.size ∧ letB ((Utf8.decode s pos).1 : Int) = letB (bt s pos) ∧ (letB (bt s pos) = true → ∀ k, k < pos + (Utf8.decode s pos).2 → letB (bt s k) = true)) := by
    have hbp := bt_in hp
    by_cases ha : (s[pos]'hp).toNat < 128
    ·rw [Hid, decode_ascii s pos hp ha]
     refine ⟨Nat.le_refl _, hp, by rw [hbp], fun h k hk => ?_⟩
     rcases (show k < pos ∨ k = pos by simp at hk; omega) with h' | rfl
     ·exact HA.out k h'
     ·exact h
    ·have h1 := decode_high s pos hp (by omega)
     have h2 := decode_wide s pos hp (by omega)
     refine ⟨h1.2, ?_, ?_, fun h k hk => ?_⟩
     ·have := (h2 ((Utf8.decode s pos).2 - 1) (by omega)).1
      omega
     ·rw [letB_hi _ (by omega), letB_hi _ (by rw [hbp]; omega)]
     ·by_cases e : k < pos
      ·exact HA.out k e
      ·obtain ⟨q, rfl⟩ : ∃ q, k = pos + q := ⟨k - pos, by omega⟩
       exact (letB_hi _ (h2 q (by omega)).2).trans ((letB_hi (bt s pos) (by rw [hbp]; omega)).symm.trans h)
   have HC := Lib.hid (fun w => bLetter_one ((Utf8.decode s pos).1 : Int) w)
   obtain ⟨hw1, hw2, HW3, HW4⟩ := HW.out
   have HW3 := Lib.hid HW3
   have HW4 := Lib.hid HW4
   clear HW
   generalize hr : ((Utf8.decode s pos).1 : Int) = r at *
   clear hr
   cases hb : letB r
   ·have HF : Hid (allT letB s = false) := allT_not hp (by rw [← HW3.out]; exact hb)
    go_wp2_with fail
    refine (HC.out _).mono ?_
    rintro e w' ⟨rfl, h'⟩
    subst w'
    rw [hb]
    go_wp2_with fail
    go_ret
    exact ⟨tret_bool HF.out.symm, iter_below _ _ _⟩
   ·have HT := Lib.hid (HW4.out (by rw [← HW3.out]; exact hb))
    go_wp2_with fail
    refine (HC.out _).mono ?_
    rintro e w' ⟨rfl, h'⟩
    subst w'
    rw [hb]
    go_wp2_with fail
    go_roundw
    case rel => exact ⟨_, rfl, hw2, HT.out⟩
    case measure => simp; omega
  ·obtain rfl : pos = s.size := by omega
   have hnx : ∀ ty, (Instr.next (.pointer (some ⟨w.heap.size, 0, none⟩)) true ty).run Tryz.prog (w.iter s s.size) = _ := fun ty => run_next_end w s s.size ty hp
   have HF : Hid (allT letB s = true) := allT_iff.2 HA.out
   go_wp2_with fail
   go_ret
   exact ⟨tret_bool HF.out.symm, iter_below _ _ _⟩
def numN (s : ByteArray) : Nat → Int
 | 0 => 0
 | k + 1 => 10 * numN s k + (bt s k - 48)
theorem dig_bd {s : ByteArray} {k : Nat} (h : digB (bt s k) = true) : 48 ≤ bt s k ∧ bt s k ≤ 57 := by unfold digB at h; exact of_decide_eq_true h
theorem numN_bd {s : ByteArray} : ∀ {k : Nat}, (∀ j, j < k → digB (bt s j) = true) → 0 ≤ numN s k ∧ numN s k < 10 ^ k
 | 0, _ => by simp [numN]
 | k + 1, h => by
   have ih := numN_bd (k := k) (fun j hj => h j (by omega))
   have := dig_bd (h k (by omega))
   rw [numN, Int.pow_succ]
   generalize (10 : Int) ^ k = p at *
   omega
theorem numN_cap {s : ByteArray} {k : Nat} (hk : k ≤ 15) (h : ∀ j, j < k → digB (bt s j) = true) : 0 ≤ numN s k ∧ numN s k < 1000000000000000 := by
 have := numN_bd h
 have e : (10 : Int) ^ k ≤ 10 ^ 15 := by
  have := Nat.pow_le_pow_right (show 0 < 10 by omega) hk
  exact_mod_cast this
 have e2 : (10 : Int) ^ 15 = 1000000000000000 := by decide
 omega
set_option maxRecDepth 100000 in
set_option maxHeartbeats 1000000 in
theorem number_any (s : ByteArray) (w : World) (hd : allT digB s = true) (hz : s.size ≤ 15) :
 Calls Tryz.prog 224 #[.string s] w fun e w' => e = .returned (.int .i64 (numN s s.size)) ∧ Below w.heap.size w w' := by
 have HD := Lib.hid (allT_iff.1 hd)
 clear hd
 go_enter Tryz.func224, Tryz.ntmps224
 go_wp2_with fail
 go_loopw [3] (fun v w' => ∃ pos : Nat, w' = w.iter s pos ∧ pos ≤ s.size ∧ v = .int .i64 (numN s pos)) (fun _ w' => s.size - w'.iterPos w.heap.size)
 case atStart => exact ⟨0, rfl, Nat.zero_le _, rfl⟩
 case round =>
  obtain ⟨pos, rfl, hpos, rfl⟩ := hrel
  by_cases hp : pos < s.size
  ·have hnx : ∀ ty, (Instr.next (.pointer (some ⟨w.heap.size, 0, none⟩)) true ty).run Tryz.prog (w.iter s pos) = _ := fun ty => run_next_any w s pos ty hp
   have hdp := dig_bd (HD.out pos hp)
   have hbp := bt_in hp
   have hdc := decode_ascii s pos hp (by omega)
   have hcap := numN_cap (s := s) (k := pos) (by omega) (fun j hj => HD.out j (by omega))
   have HN : Hid (numN s (pos + 1) = 10 * numN s pos + (bt s pos - 48)) := rfl
   rw [hdc] at hnx
   simp only [] at hnx
   rw [← hbp] at hnx
   generalize numN s pos = n at *
   generalize bt s pos = b at *
   obtain ⟨hb0, hb1⟩ := hdp
   obtain ⟨hn0, hn1⟩ := hcap
   clear hdc hbp
   have hw1 : IntKind.i32.wrap (b - 48) = b - 48 := by rw [IntKind.wrap_i32]; omega
   go_wp2_with fail
   go_roundw
   case rel => exact ⟨pos + 1, rfl, hp, by rw [HN.out]⟩
   case measure => simp; omega
  ·obtain rfl : pos = s.size := by omega
   have hnx : ∀ ty, (Instr.next (.pointer (some ⟨w.heap.size, 0, none⟩)) true ty).run Tryz.prog (w.iter s s.size) = _ := fun ty => run_next_end w s s.size ty hp
   go_wp2_with fail
   go_ret
   exact ⟨rfl, iter_below _ _ _⟩
end Go.Proofs.YtkalfdjmklakdaaGreatDoor.Cal.Bnk
namespace Go.Proofs.YtkalfdjmklakdaaGreatDoor.Cal.Bnk
open Go.RowKit
theorem isDigit_ref (s : ByteArray) (j : Nat) (w : World) : Calls Tryz.prog 154 #[.string s, .int .i64 (j : Int)] w fun e w' => e = .returned (.bool (digB (bt s j))) ∧ w' = w := by
 by_cases h : j < s.size
 ·have hb := bt_in h
  have h' : (j : Int) < (s.size : Int) := by omega
  by_cases h1 : 48 ≤ (s[j].toNat : Int)
  ·have H : Hid (digB (bt s j) = decide ((s[j].toNat : Int) ≤ 57)) := by unfold Hid digB; rw [hb, Bool.eq_iff_iff]; simp; omega
   clear hb
   go_enter Tryz.func154, Tryz.ntmps154
   go_wp2
   go_ret
   exact ⟨tret_bool (by rw [H.out]; try (simp <;> omega)), rfl⟩
  ·have H : Hid (digB (bt s j) = false) := decide_eq_false (by rw [hb]; omega)
   have hd : decide (48 ≤ (s[j].toNat : Int)) = false := decide_eq_false h1
   clear hb
   go_enter Tryz.func154, Tryz.ntmps154
   go_wp2
   go_ret
   exact ⟨tret_bool (by rw [H.out]; try (simp <;> omega)), rfl⟩
 ·have H : Hid (digB (bt s j) = false) := decide_eq_false (by rw [bt_out h]; omega)
  have hd : decide ((j : Int) < (s.size : Int)) = false := decide_eq_false (by omega)
  go_enter Tryz.func154, Tryz.ntmps154
  go_wp2
  go_ret
  exact ⟨tret_bool (by rw [H.out]; try (simp <;> omega)), rfl⟩
theorem isLetter_ref (s : ByteArray) (j : Nat) (w : World) : Calls Tryz.prog 105 #[.string s, .int .i64 (j : Int)] w fun e w' => e = .returned (.bool (letB (bt s j))) ∧ w' = w := by
 by_cases h : j < s.size
 ·have hb := bt_in h
  have h' : (j : Int) < (s.size : Int) := by omega
  by_cases h1 : 97 ≤ (s[j].toNat : Int)
  ·have H : Hid (letB (bt s j) = decide ((s[j].toNat : Int) ≤ 122)) := by unfold Hid letB; rw [hb, Bool.eq_iff_iff]; simp; omega
   clear hb
   go_enter Tryz.func105, Tryz.ntmps105
   go_wp2
   go_ret
   exact ⟨tret_bool (by rw [H.out]; try (simp <;> omega)), rfl⟩
  ·have H : Hid (letB (bt s j) = false) := decide_eq_false (by rw [hb]; omega)
   have hd : decide (97 ≤ (s[j].toNat : Int)) = false := decide_eq_false h1
   clear hb
   go_enter Tryz.func105, Tryz.ntmps105
   go_wp2
   go_ret
   exact ⟨tret_bool (by rw [H.out]; try (simp <;> omega)), rfl⟩
 ·have H : Hid (letB (bt s j) = false) := decide_eq_false (by rw [bt_out h]; omega)
  have hd : decide ((j : Int) < (s.size : Int)) = false := decide_eq_false (by omega)
  go_enter Tryz.func105, Tryz.ntmps105
  go_wp2
  go_ret
  exact ⟨tret_bool (by rw [H.out]; try (simp <;> omega)), rfl⟩
set_option maxRecDepth 100000 in
set_option maxHeartbeats 1000000 in
theorem allDigits_ref (s : ByteArray) (n : Int) (w : World) (hs : s.size ≤ 9223372036854775807) :
 Calls Tryz.prog 103 #[.string s, .int .i64 n] w fun e w' => e = .returned (.bool (allT digB s && decide ((s.size : Int) = n))) ∧ w' = w := by
 go_enter Tryz.func103, Tryz.ntmps103
 go_wp2_with fail
 go_loop [5] (fun i => ∃ k : Nat, k ≤ s.size ∧ i = .int .i64 k ∧ ∀ j, j < k → digB (bt s j) = true) (fun i => s.size - (intOf i).toNat)
 case atStart => exact ⟨0, Nat.zero_le _, rfl, fun j hj => by omega⟩
 case round =>
  obtain ⟨k, hk, rfl, hall⟩ := hrel
  have HA := Lib.hid hall
  clear hall
  by_cases hlt : k < s.size
  ·have hlt' : (k : Int) < (s.size : Int) := by omega
   cases hr : digB (bt s k)
   ·have HF := Lib.hid (allT_not (P := digB) hlt hr)
    go_wp2_with (go_at_call 154; refine (isDigit_ref _ _ _).mono ?_; rintro e w' ⟨rfl, h'⟩; subst w'; rw [hr])
    go_ret
    exact ⟨tret_bool (by rw [HF.out]; rfl), rfl⟩
   ·go_wp2_with (go_at_call 154; refine (isDigit_ref _ _ _).mono ?_; rintro e w' ⟨rfl, h'⟩; subst w'; rw [hr])
    go_round
    case rel =>
     refine ⟨k + 1, by omega, by go_num, fun j hj => ?_⟩
     by_cases e : j = k
     ·subst e; exact hr
     ·exact HA.out j (by omega)
    case measure => simp [intOf]; omega
  ·obtain rfl : k = s.size := by omega
   have HF : Hid (allT digB s = true) := allT_iff.2 HA.out
   go_wp2_with fail
   go_ret
   exact ⟨tret_bool (by rw [HF.out, Bool.eq_iff_iff]; simp), rfl⟩
def nameB (s : ByteArray) : Bool := allT letB s && decide (1 ≤ s.size ∧ s.size ≤ 12)
set_option maxRecDepth 100000 in
set_option maxHeartbeats 1000000 in
theorem isPayee_ref (s : ByteArray)  (w : World) (hs : s.size ≤ 9223372036854775807) :
 Calls Tryz.prog 41 #[.string s] w fun e w' => e = .returned (.bool (allT letB s && decide (1 ≤ s.size ∧ s.size ≤ 12))) ∧ w' = w := by
 go_enter Tryz.func41, Tryz.ntmps41
 go_wp2_with fail
 go_loop [3] (fun i => ∃ k : Nat, k ≤ s.size ∧ i = .int .i64 k ∧ ∀ j, j < k → letB (bt s j) = true) (fun i => s.size - (intOf i).toNat)
 case atStart => exact ⟨0, Nat.zero_le _, rfl, fun j hj => by omega⟩
 case round =>
  obtain ⟨k, hk, rfl, hall⟩ := hrel
  have HA := Lib.hid hall
  clear hall
  by_cases hlt : k < s.size
  ·have hlt' : (k : Int) < (s.size : Int) := by omega
   cases hr : letB (bt s k)
   ·have HF := Lib.hid (allT_not (P := letB) hlt hr)
    go_wp2_with (go_at_call 105; refine (isLetter_ref _ _ _).mono ?_; rintro e w' ⟨rfl, h'⟩; subst w'; rw [hr])
    go_ret
    exact ⟨tret_bool (by rw [HF.out]; rfl), rfl⟩
   ·go_wp2_with (go_at_call 105; refine (isLetter_ref _ _ _).mono ?_; rintro e w' ⟨rfl, h'⟩; subst w'; rw [hr])
    go_round
    case rel =>
     refine ⟨k + 1, by omega, by go_num, fun j hj => ?_⟩
     by_cases e : j = k
     ·subst e; exact hr
     ·exact HA.out j (by omega)
    case measure => simp [intOf]; omega
  ·obtain rfl : k = s.size := by omega
   have HF : Hid (allT letB s = true) := allT_iff.2 HA.out
   by_cases h1 : 1 ≤ s.size
   ·have h1' : (1 : Int) ≤ (s.size : Int) := by omega
    go_wp2_with fail
    go_ret
    exact ⟨tret_bool (by rw [HF.out, Bool.eq_iff_iff]; simp <;> omega), rfl⟩
   ·have h1B : decide ((1 : Int) ≤ (s.size : Int)) = false := decide_eq_false (by omega)
    have h1N : decide (1 ≤ s.size) = false := decide_eq_false h1
    have HG : Hid ((allT letB s && decide (1 ≤ s.size ∧ s.size ≤ 12)) = false) := by unfold Hid; rw [HF.out, Bool.true_and]; exact decide_eq_false (by omega)
    go_wp2_with fail
    go_ret
    first | exact ⟨tret_bool HG.out.symm, rfl⟩ | exact ⟨rfl, rfl⟩ | exact ⟨tret_bool rfl, rfl⟩
set_option maxRecDepth 100000 in
set_option maxHeartbeats 1000000 in
theorem number_ref (s : ByteArray) (w : World) (hd : allT digB s = true) (hz : s.size ≤ 15) :
 Calls Tryz.prog 104 #[.string s] w fun e w' => e = .returned (.int .i64 (numN s s.size)) ∧ w' = w := by
 have HD := Lib.hid (allT_iff.1 hd)
 clear hd
 go_enter Tryz.func104, Tryz.ntmps104
 go_wp2_with fail
 go_loop [3, 4] (fun v i => ∃ k : Nat, k ≤ s.size ∧ i = .int .i64 k ∧ v = .int .i64 (numN s k)) (fun _ i => s.size - (intOf i).toNat)
 case atStart => exact ⟨0, Nat.zero_le _, rfl, rfl⟩
 case round =>
  obtain ⟨k, hk, rfl, rfl⟩ := hrel
  by_cases hlt : k < s.size
  ·have hlt' : (k : Int) < (s.size : Int) := by omega
   have hdp := dig_bd (HD.out k hlt)
   have hbp := bt_in hlt
   have hcap := numN_cap (s := s) (k := k) (by omega) (fun j hj => HD.out j (by omega))
   have HN : Hid (numN s (k + 1) = 10 * numN s k + (s[k].toNat : Int) - 48) := by unfold Hid; rw [numN, hbp]; omega
   rw [hbp] at hdp
   generalize numN s k = n at *
   obtain ⟨hb0, hb1⟩ := hdp
   obtain ⟨hn0, hn1⟩ := hcap
   clear hbp
   go_wp2_with fail
   go_round
   case rel => exact ⟨k + 1, by omega, by go_num, by rw [HN.out]⟩
   case measure => simp [intOf]; omega
  ·obtain rfl : k = s.size := by omega
   go_wp2_with fail
   go_ret
   exact ⟨rfl, rfl⟩
end Go.Proofs.YtkalfdjmklakdaaGreatDoor.Cal.Bnk
namespace Go.Proofs.YtkalfdjmklakdaaGreatDoor.Cal.Bnk
open Go.RowKit
def sfx (n : Nat) : Nat → List UInt8
 | 0 => []
 | d + 1 => dig (n / 10 ^ d % 10) :: sfx n d
theorem sfx_len (n : Nat) : ∀ d, (sfx n d).length = d
 | 0 => rfl
 | d + 1 => by rw [sfx, List.length_cons, sfx_len n d]
theorem sfx_snoc (n : Nat) : ∀ d, sfx n (d + 1) = sfx (n / 10) d ++ [dig (n % 10)]
 | 0 => by simp [sfx]
 | d + 1 => by
   rw [sfx, sfx_snoc n d]
   show _ = dig (n / 10 / 10 ^ d % 10) :: sfx (n / 10) d ++ [dig (n % 10)]
   rw [Nat.div_div_eq_div_mul, Nat.pow_succ, Nat.mul_comm (10 ^ d) 10]
   rfl
theorem sfx_zero : ∀ d, sfx 0 d = List.replicate d 48
 | 0 => rfl
 | d + 1 => by rw [sfx, sfx_zero d, List.replicate_succ]; simp [dig]
theorem dec_pad : ∀ (d n : Nat), n < 10 ^ (d + 1) → (Lib.decDigits n).length ≤ d + 1 ∧ List.replicate (d + 1 - (Lib.decDigits n).length) 48 ++ Lib.decDigits n = sfx n (d + 1)
 | 0, n, h => by
   have h' : n < 10 := by simpa using h
   rw [Lib.decDigits_one h']
   refine ⟨by simp, ?_⟩
   simp [sfx, dig, Nat.mod_eq_of_lt h']
 | d + 1, n, h => by
   by_cases h10 : n < 10
   ·rw [Lib.decDigits_one h10]
    refine ⟨by simp, ?_⟩
    rw [sfx_snoc, Nat.div_eq_of_lt h10, sfx_zero, Nat.mod_eq_of_lt h10]
    simp [dig]
   ·have e : Lib.decDigits n = Lib.decDigits (n / 10) ++ [dig (n % 10)] := by
     rw [Lib.decDigits, dif_neg h10]; rfl
    obtain ⟨i1, i2⟩ := dec_pad d (n / 10) (by rw [Nat.pow_succ] at h; omega)
    rw [e, List.length_append, sfx_snoc, ← i2]
    refine ⟨by simp; omega, ?_⟩
    simp
def padT (n d : Nat) : ByteArray := ⟨(sfx n d).toArray⟩
theorem padT_list (n d : Nat) : (padT n d).data.toList = sfx n d := by simp [padT]
theorem padT_size (n d : Nat) : (padT n d).size = d := by rw [size_toList, padT_list, sfx_len]
theorem repeatL_one (c : UInt8) : ∀ n, Lib.repeatL [c] n = List.replicate n c := by
 intro n
 induction n with
 | zero => simp [Lib.repeatL]
 | succ k ih => simpa [Lib.repeatL, List.replicate_succ] using ih
set_option maxRecDepth 100000 in
set_option maxHeartbeats 1000000 in
theorem padded_any (n d : Nat) (w : World) (ht : Tab w) (hd : d < 15) (hn : n < 10 ^ (d + 1)) :
 Calls Tryz.prog 182 #[.int .i64 (n : Int), .int .i64 ((d : Int) + 1)] w fun e w' => e = .returned (.string (padT n (d + 1))) ∧ Below w.heap.size w w' := by
 obtain ⟨hl, hp⟩ := dec_pad d n hn
 have hn15 : n < 10 ^ 15 := Nat.lt_of_lt_of_le hn (Nat.pow_le_pow_right (by omega) (by omega))
 have e15 : (10 : Nat) ^ 15 = 1000000000000000 := by decide
 have HT := Lib.hid ht
 clear ht hn
 go_enter Tryz.func182, Tryz.ntmps182
 go_wp2_with fail
 refine (itoa_any (n : Int) (by omega) (by omega) w HT.out).mono ?_
 rintro e w1 ⟨s, rfl, hs, hs21, hb1⟩
 have hs' : s.data.toList = Lib.decDigits n := by rw [hs.out, itoa_nat]
 have HB1 := Lib.hid hb1
 have HS := Lib.hid hs'
 have hsz : s.size = (Lib.decDigits n).length := by rw [size_toList, hs']
 obtain ⟨r, hr⟩ : ∃ r : Nat, r = d + 1 - s.size := ⟨_, rfl⟩
 have hrI : (d : Int) + 1 - (s.size : Int) = (r : Int) := by omega
 have HP : Hid (List.replicate r 48 ++ s.data.toList = sfx n (d + 1)) := by unfold Hid; rw [hr, hsz, hs']; exact hp
 have hr15 : r ≤ 15 := by omega
 have HR : Hid (max 0 ((d : Int) + 1 - (s.size : Int)) = (r : Int)) := by unfold Hid; omega
 have HRP : Hid (Lib.repeatL (⟨#[48]⟩ : ByteArray).data.toList r = List.replicate r 48) := repeatL_one 48 r
 clear hs hs' hb1 hp hl hsz hn15 e15 hr hrI
 go_wp2_with fail
 rw [HR.out]
 refine (sh_strings_Repeat ⟨#[48]⟩ r w1 (by omega) (by show 1 * r ≤ _; omega)).mono ?_
 rintro e w2 ⟨rfl, hb2⟩
 have HB2 := Lib.hid (HB1.out.trans (hb2.mono HB1.out.size))
 rw [HRP.out]
 clear hb2
 go_wp2_with fail
 go_ret
 refine ⟨?_, HB2.out⟩
 refine congrArg (fun x => Ending.returned (Value.string x)) (ba_ext ?_)
 rw [ba_append, padT_list, ← HP.out]
 simp
theorem dig_toNat (m : Nat) (h : m < 10) : ((dig m).toNat : Int) = 48 + (m : Int) := by
 unfold dig
 rw [UInt8.toNat_ofNat']
 omega
theorem conv_one (m : Nat) (hm : m < 10) (w : World) :
 (convert 204 9 (.slice (some ⟨w.heap.size, 0, none⟩) 1 1)).run Tryz.prog (w.alloc (.cells #[.int .u8 (48 + (m : Int))] 5)) = .ok (.string ⟨#[dig m]⟩) (w.alloc (.cells #[.int .u8 (48 + (m : Int))] 5)) := by
 have := run_convert_bytes_back (P := Tryz.prog) (w.alloc (.cells #[.int .u8 (48 + (m : Int))] 5)) 204 9 5 ⟨w.heap.size, 0, none⟩ 1 [dig m] Tryz.underlying204 Tryz.underlying5 Tryz.underlying9 (fun j hj => by
  match j, hj with
  | 0, _ =>
    rw [Addr.add_lit, Nat.zero_add, World.cell?_alloc_at (w := w) _ _ _ _ rfl]
    simp [dig_toNat m hm])
 exact this
theorem bbelow_box (w : World) (o : Obj) : Below w.heap.size w (w.alloc o) := (Below.refl w.heap.size w).alloc (Nat.le_refl _) o
end Go.Proofs.YtkalfdjmklakdaaGreatDoor.Cal.Bnk
namespace Go.Proofs.YtkalfdjmklakdaaGreatDoor.Cal.Bnk
open Go.RowKit
theorem bt_mk (l : List UInt8) {j : Nat} {x : UInt8} (h : l[j]? = some x) : bt ⟨l.toArray⟩ j = (x.toNat : Int) := by
 obtain ⟨hj, hx⟩ := List.getElem?_eq_some_iff.1 h
 have h1 : j < (⟨l.toArray⟩ : ByteArray).size := by show j < l.toArray.size; simpa using hj
 rw [bt_in h1]
 have e : (⟨l.toArray⟩ : ByteArray)[j] = x := by
  show l.toArray[j]'_ = x
  simpa using hx
 rw [e]
theorem bt_pad2 (n : Nat) (h : n < 100) : bt (padT n 2) 0 = 48 + ((n / 10 : Nat) : Int) ∧ bt (padT n 2) 1 = 48 + ((n % 10 : Nat) : Int) := by
 unfold padT
 refine ⟨?_, ?_⟩
 ·rw [bt_mk (sfx n 2) (j := 0) (x := dig (n / 10 % 10)) (by simp [sfx]), dig_toNat _ (by omega)]
  omega
 ·rw [bt_mk (sfx n 2) (j := 1) (x := dig (n % 10)) (by simp [sfx]), dig_toNat _ (by omega)]
theorem numN_congr {s t : ByteArray} : ∀ {k : Nat}, (∀ j, j < k → bt s j = bt t j) → numN s k = numN t k
 | 0, _ => rfl
 | k + 1, h => by rw [numN, numN, numN_congr (k := k) (fun j hj => h j (by omega)), h k (by omega)]
theorem digB_of {x : Int} (h : 48 ≤ x ∧ x ≤ 57) : digB x = true := decide_eq_true h
def bodyB (b : ByteArray) : Bool := allT digB b && decide (b.size = 10)
theorem bodyB_iff {b : ByteArray} : bodyB b = true ↔ allT digB b = true ∧ b.size = 10 := by unfold bodyB; rw [Bool.and_eq_true, decide_eq_true_iff]
def endOf (b : ByteArray) : Nat := (98 - numN b 10 * 100 % 97).toNat
theorem endOf_bd (b : ByteArray) : 2 ≤ endOf b ∧ endOf b ≤ 98 ∧ (endOf b : Int) = 98 - numN b 10 * 100 % 97 := by unfold endOf; omega
def accT (b : ByteArray) : ByteArray := b ++ padT (endOf b) 2
theorem accT_size {b : ByteArray} (h : b.size = 10) : (accT b).size = 12 := by unfold accT; rw [ByteArray.size_append, padT_size, h]
def e2 (s : ByteArray) : Int := 10 * (bt s 10 - 48) + (bt s 11 - 48)
def accB (s : ByteArray) : Bool := (allT digB s && decide (s.size = 12)) && decide ((2 ≤ e2 s ∧ e2 s ≤ 98) ∧ numN s 12 % 97 = 1)
theorem accB_iff {s : ByteArray} : accB s = true ↔ allT digB s = true ∧ s.size = 12 ∧ (2 ≤ e2 s ∧ e2 s ≤ 98) ∧ numN s 12 % 97 = 1 := by
 unfold accB; rw [Bool.and_eq_true, Bool.and_eq_true, decide_eq_true_iff, decide_eq_true_iff, and_assoc]
theorem accB_not {s : ByteArray} (h : ¬ (allT digB s = true ∧ s.size = 12)) : accB s = false := by
 rw [Bool.eq_false_iff]
 intro e
 have := accB_iff.1 e
 exact h ⟨this.1, this.2.1⟩
theorem acc_pad {b : ByteArray} (hb : bodyB b = true) {k : Nat} (h2 : 2 ≤ k) (h98 : k ≤ 98) : accB (b ++ padT k 2) = decide (k = endOf b) := by
 obtain ⟨hd, hz⟩ := bodyB_iff.1 hb
 have hd' := allT_iff.1 hd
 obtain ⟨p0, p1⟩ := bt_pad2 k (by omega)
 have q0 : bt (b ++ padT k 2) 10 = 48 + ((k / 10 : Nat) : Int) := by have := bt_append_r b (padT k 2) 0; rw [hz] at this; exact this.trans p0
 have q1 : bt (b ++ padT k 2) 11 = 48 + ((k % 10 : Nat) : Int) := by have := bt_append_r b (padT k 2) 1; rw [hz] at this; exact this.trans p1
 have qj : ∀ j, j < 10 → bt (b ++ padT k 2) j = bt b j := fun j hj => bt_append_l b _ j (by omega)
 have hsz : (b ++ padT k 2).size = 12 := by rw [ByteArray.size_append, padT_size, hz]
 have hall : allT digB (b ++ padT k 2) = true := allT_iff.2 fun j hj => by
  rw [hsz] at hj
  by_cases h : j < 10
  ·rw [qj j h]; exact hd' j (by omega)
  ·by_cases h' : j = 10
   ·subst h'; rw [q0]; exact digB_of (by omega)
   ·obtain rfl : j = 11 := by omega
    rw [q1]; exact digB_of (by omega)
 have hn : numN (b ++ padT k 2) 12 = numN b 10 * 100 + k := by
  show 10 * (10 * numN (b ++ padT k 2) 10 + (bt (b ++ padT k 2) 10 - 48)) + (bt (b ++ padT k 2) 11 - 48) = _
  rw [numN_congr (s := b ++ padT k 2) (t := b) (k := 10) qj, q0, q1]
  omega
 have he : e2 (b ++ padT k 2) = k := by unfold e2; rw [q0, q1]; omega
 have hE := endOf_bd b
 rw [Bool.eq_iff_iff, accB_iff, decide_eq_true_iff, hn, he]
 constructor
 ·rintro ⟨_, _, _, h⟩
  omega
 ·rintro rfl
  exact ⟨hall, hsz, by omega, by omega⟩
theorem acc_is {s : ByteArray} (hz : s.size = 12) : (bodyB (s.extract 0 10) && decide (accT (s.extract 0 10) = s)) = accB s := by
 have hbz : (s.extract 0 10).size = 10 := by rw [ByteArray.size_extract]; omega
 have hbj : ∀ j, j < 10 → bt (s.extract 0 10) j = bt s j := fun j hj => by rw [bt_extract s 0 10 j (by omega) (by omega), Nat.zero_add]
 cases hb : bodyB (s.extract 0 10)
 ·symm
  refine accB_not ?_
  rintro ⟨h1, _⟩
  rw [Bool.eq_false_iff] at hb
  exact hb (bodyB_iff.2 ⟨allT_iff.2 fun j hj => by rw [hbz] at hj; rw [hbj j hj]; exact allT_iff.1 h1 j (by omega), hbz⟩)
 ·rw [Bool.true_and, Bool.eq_iff_iff, decide_eq_true_iff]
  constructor
  ·intro h
   have := acc_pad hb (endOf_bd (s.extract 0 10)).1 (endOf_bd (s.extract 0 10)).2.1
   rw [decide_eq_true rfl] at this
   have e : s.extract 0 10 ++ padT (endOf (s.extract 0 10)) 2 = s := h
   rw [e] at this
   exact this
  ·intro h
   obtain ⟨h1, _, h3, h4⟩ := accB_iff.1 h
   have d10 := dig_bd (allT_iff.1 h1 10 (by omega))
   have d11 := dig_bd (allT_iff.1 h1 11 (by omega))
   have hn : numN s 12 = 10 * (10 * numN s 10 + (bt s 10 - 48)) + (bt s 11 - 48) := rfl
   have hE := endOf_bd (s.extract 0 10)
   rw [numN_congr (s := s.extract 0 10) (t := s) (k := 10) hbj] at hE
   unfold e2 at h3
   have hq : numN s 12 / 97 = numN s 10 * 100 / 97 + 1 := by omega
   have hEe : (endOf (s.extract 0 10) : Int) = 10 * (bt s 10 - 48) + (bt s 11 - 48) := by omega
   obtain ⟨p0, p1⟩ := bt_pad2 (endOf (s.extract 0 10)) (by omega)
   refine ba_eq (by rw [accT_size hbz, hz]) fun j hj => ?_
   rw [accT_size hbz] at hj
   unfold accT
   by_cases hj' : j < 10
   ·rw [bt_append_l _ _ j (by omega)]; exact hbj j hj'
   ·by_cases e : j = 10
    ·subst e
     have := bt_append_r (s.extract 0 10) (padT (endOf (s.extract 0 10)) 2) 0
     rw [hbz] at this
     have h' : bt (s.extract 0 10 ++ padT (endOf (s.extract 0 10)) 2) 10 = _ := this.trans p0
     rw [h']
     omega
    ·obtain rfl : j = 11 := by omega
     have := bt_append_r (s.extract 0 10) (padT (endOf (s.extract 0 10)) 2) 1
     rw [hbz] at this
     have h' : bt (s.extract 0 10 ++ padT (endOf (s.extract 0 10)) 2) 11 = _ := this.trans p1
     rw [h']
     omega
theorem padded_k (n k : Nat) (D : Int) (hD : D = (k : Int)) (w : World) (ht : Tab w) (h1 : 1 ≤ k) (hk : k ≤ 15) (hn : n < 10 ^ k) :
 Calls Tryz.prog 182 #[.int .i64 (n : Int), .int .i64 D] w fun e w' => e = .returned (.string (padT n k)) ∧ Below w.heap.size w w' := by
 obtain ⟨d, rfl⟩ : ∃ d, k = d + 1 := ⟨k - 1, by omega⟩
 have h := padded_any n d w ht (by omega) hn
 rw [hD]
 have e : ((d + 1 : Nat) : Int) = (d : Int) + 1 := by omega
 rw [e]
 exact h
def nilT : ByteArray := ⟨#[]⟩
def accA (b : ByteArray) : ByteArray := if bodyB b = true then accT b else nilT
def accE (b : ByteArray) : Int := if bodyB b = true then 0 else 1
theorem acc_no {b : ByteArray} (h : bodyB b = false) : accA b = nilT ∧ accE b = 1 := by unfold accA accE; rw [h]; exact ⟨rfl, rfl⟩
theorem acc_ok {b : ByteArray} (h : bodyB b = true) : accA b = accT b ∧ accE b = 0 := by unfold accA accE; rw [h]; exact ⟨rfl, rfl⟩
set_option maxRecDepth 100000 in
set_option maxHeartbeats 1000000 in
theorem Account_any (b : ByteArray) (w : World) (ht : Tab w) :
 Calls Tryz.prog 240 #[.string b] w fun e w' => e = .returned (.tuple #[.string (accA b), .int .i64 (accE b)]) ∧ Below w.heap.size w w' := by
 have HT := Lib.hid ht
 clear ht
 by_cases hz : b.size = 10
 ·have hzB : ((b.size : Int) != 10) = false := by simp; omega
  have hzI : (b.size : Int) = 10 := by omega
  have HZ := Lib.hid hz
  cases hd : allT digB b
  ·have hB : bodyB b = false := by unfold bodyB; rw [hd]; rfl
   rw [(acc_no hB).1, (acc_no hB).2]
   clear hB hz
   go_enter Tryz.func240, Tryz.ntmps240
   go_wp2_with fail
   refine (isAll_dig b _).mono ?_
   rintro e w1 ⟨rfl, hb1⟩
   rw [hd]
   have HB1 := Lib.hid hb1
   clear hb1
   go_wp2_with fail
   go_ret2
   exact ⟨rfl, HB1.out⟩
  ·have hB : bodyB b = true := bodyB_iff.2 ⟨hd, hz⟩
   rw [(acc_ok hB).1, (acc_ok hB).2]
   have HN := Lib.hid (number_any b)
   have HE := Lib.hid (endOf_bd b)
   have HC := Lib.hid (numN_cap (s := b) (k := 10) (by omega) (fun j hj => allT_iff.1 hd j (by omega)))
   have HA : Hid (accT b = b ++ padT (endOf b) 2) := rfl
   have HD := Lib.hid hd
   generalize endOf b = en at *
   generalize accT b = at' at *
   clear hB hz
   go_enter Tryz.func240, Tryz.ntmps240
   go_wp2_with fail
   refine (isAll_dig b _).mono ?_
   rintro e w1 ⟨rfl, hb1⟩
   rw [hd]
   have HB1 := Lib.hid hb1
   clear hb1
   go_wp2_with fail
   refine (HN.out _ HD.out (by rw [HZ.out]; omega)).mono ?_
   rintro e w2 ⟨rfl, hb2⟩
   have HB2 := Lib.hid (HB1.out.trans (hb2.mono HB1.out.size))
   rw [HZ.out]
   clear hb2
   obtain ⟨hc0, hc1⟩ := HC.out
   obtain ⟨he0, he1, he2⟩ := HE.out
   have HE2 := Lib.hid he2
   generalize numN b 10 = N at *
   have hw : IntKind.i64.wrap (N * 100) = N * 100 := IntWalk.i64_in _ (by omega)
   have hm1 : (N * 100).tmod 97 = N * 100 % 97 := Int.tmod_eq_emod_of_nonneg (by omega)
   have hsub : 98 - N * 100 % 97 = (en : Int) := he2.symm
   clear he2
   go_wp2_with fail
   refine (padded_k en 2 2 rfl _ (HT.out.below HB2.out) (by omega) (by omega) (by show en < 100; omega)).mono ?_
   rintro e w3 ⟨rfl, hb3⟩
   have HB3 := Lib.hid (HB2.out.trans (hb3.mono HB2.out.size))
   have hsum : b.size + (padT en 2).size ≤ 9223372036854775807 := by rw [HZ.out, padT_size]; omega
   clear hb3
   go_wp2_with fail
   go_ret2
   exact ⟨by rw [HA.out]; rfl, HB3.out⟩
 ·have hzB : ((b.size : Int) != 10) = true := by simp; omega
  have hB : bodyB b = false := by unfold bodyB; rw [decide_eq_false hz, Bool.and_false]
  rw [(acc_no hB).1, (acc_no hB).2]
  go_enter Tryz.func240, Tryz.ntmps240
  go_wp2_with fail
  go_ret2
  exact ⟨rfl, Below.refl _ _⟩
set_option maxRecDepth 100000 in
set_option maxHeartbeats 1000000 in
theorem IsAccount_any (s : ByteArray) (w : World) (ht : Tab w) :
 Calls Tryz.prog 215 #[.string s] w fun e w' => e = .returned (.bool (accB s)) ∧ Below w.heap.size w w' := by
 have HT := Lib.hid ht
 clear ht
 by_cases hz : s.size = 12
 ·have hzB : ((s.size : Int) != 12) = false := by simp; omega
  have hzI : (s.size : Int) = 12 := by omega
  have HA := Lib.hid (acc_is hz)
  have h10 : (10 : Int) ≤ (s.size : Int) := by omega
  have HK := Lib.hid (fun w ht => Account_any (s.extract 0 10) w ht)
  cases hb : bodyB (s.extract 0 10)
  ·rw [(acc_no hb).1, (acc_no hb).2] at HK
   rw [hb] at HA
   go_enter Tryz.func215, Tryz.ntmps215
   go_wp2_with fail
   refine (HK.out _ HT.out).mono ?_
   rintro e w1 ⟨rfl, hb1⟩
   have HB1 := Lib.hid hb1
   clear hb1
   go_wp2_with fail
   go_ret
   exact ⟨tret_bool HA.out, HB1.out⟩
  ·rw [(acc_ok hb).1, (acc_ok hb).2] at HK
   rw [hb] at HA
   generalize accT (s.extract 0 10) = at' at *
   go_enter Tryz.func215, Tryz.ntmps215
   go_wp2_with fail
   refine (HK.out _ HT.out).mono ?_
   rintro e w1 ⟨rfl, hb1⟩
   have HB1 := Lib.hid hb1
   clear hb1
   go_wp2_with fail
   go_ret
   refine ⟨tret_bool ?_, HB1.out⟩
   rw [← HA.out, Bool.true_and, Bool.eq_iff_iff, beq_iff_eq, decide_eq_true_iff]
   exact ⟨fun h => ba_ext (by rw [← ByteArray.toList_eq, ← ByteArray.toList_eq]; exact h), fun h => by rw [h]⟩
 ·have hzB : ((s.size : Int) != 12) = true := by simp; omega
  have HF := Lib.hid (accB_not (s := s) (fun h => hz h.2))
  go_enter Tryz.func215, Tryz.ntmps215
  go_wp2_with fail
  go_ret
  exact ⟨tret_bool HF.out.symm, Below.refl _ _⟩
set_option maxRecDepth 100000 in
set_option maxHeartbeats 1000000 in
theorem isBankAccount_ref (s : ByteArray) (w : World) (hs : s.size ≤ 9223372036854775807) :
 Calls Tryz.prog 40 #[.string s] w fun e w' => e = .returned (.bool (accB s)) ∧ w' = w := by
 cases hA : (allT digB s && decide ((s.size : Int) = 12))
 ·have HF : Hid (accB s = false) := accB_not (by
   rintro ⟨h1, h2⟩
   rw [h1, Bool.true_and, decide_eq_false_iff_not] at hA
   omega)
  go_enter Tryz.func40, Tryz.ntmps40
  go_wp2_with (go_at_call 103; refine (allDigits_ref s 12 _ hs).mono ?_; rintro e w' ⟨rfl, h'⟩; subst w'; rw [hA])
  go_ret
  exact ⟨tret_bool HF.out.symm, rfl⟩
 ·have hA' := hA
  rw [Bool.and_eq_true, decide_eq_true_iff] at hA'
  obtain ⟨hd, hz⟩ := hA'
  have hz' : s.size = 12 := by omega
  have hx : (s.extract 10 s.size).size = 2 := by rw [ByteArray.size_extract]; omega
  have hxd : allT digB (s.extract 10 s.size) = true := allT_iff.2 fun j hj => by
   rw [hx] at hj
   rw [bt_extract s 10 s.size j (by omega) (by omega)]
   exact allT_iff.1 hd _ (by omega)
  have hxn : numN (s.extract 10 s.size) 2 = e2 s := by
   show 10 * (10 * 0 + (bt (s.extract 10 s.size) 0 - 48)) + (bt (s.extract 10 s.size) 1 - 48) = _
   rw [bt_extract s 10 s.size 0 (by omega) (by omega), bt_extract s 10 s.size 1 (by omega) (by omega)]
   show 10 * (10 * 0 + (bt s 10 - 48)) + (bt s 11 - 48) = 10 * (bt s 10 - 48) + (bt s 11 - 48)
   omega
  have HN1 := Lib.hid (number_ref (s.extract 10 s.size) w hxd (by omega))
  rw [hx, hxn] at HN1
  have HN2 := Lib.hid (number_ref s w hd (by omega))
  rw [hz'] at HN2
  have hcap := numN_cap (s := s) (k := 12) (by omega) (fun j hj => allT_iff.1 hd j (by omega))
  have HF : Hid (accB s = decide ((2 ≤ e2 s ∧ e2 s ≤ 98) ∧ numN s 12 % 97 = 1)) := by unfold Hid accB; rw [hd, decide_eq_true hz']; rfl
  clear hx hxd hxn
  generalize e2 s = x at *
  generalize numN s 12 = N at *
  obtain ⟨hN0, hN1⟩ := hcap
  have hm : N.tmod 97 = N % 97 := Int.tmod_eq_emod_of_nonneg hN0
  have h10 : (10 : Int) ≤ (s.size : Int) := by omega
  clear hz hz'
  by_cases h2 : 2 ≤ x
  ·have h2B : decide (2 ≤ x) = true := decide_eq_true h2
   by_cases h98 : x ≤ 98
   ·have h98B : decide (x ≤ 98) = true := decide_eq_true h98
    go_enter Tryz.func40, Tryz.ntmps40
    go_wp2_with fail
    refine (allDigits_ref s 12 _ hs).mono ?_
    rintro e w' ⟨rfl, h'⟩
    subst w'
    rw [hA]
    go_wp2_with fail
    refine HN1.out.mono ?_
    rintro e w' ⟨rfl, h'⟩
    subst w'
    go_wp2_with fail
    refine HN2.out.mono ?_
    rintro e w' ⟨rfl, h'⟩
    subst w'
    go_wp2_with fail
    go_ret
    refine ⟨tret_bool ?_, rfl⟩
    rw [HF.out, Bool.eq_iff_iff]
    simp [h2, h98]
   ·have h98B : decide (x ≤ 98) = false := decide_eq_false h98
    go_enter Tryz.func40, Tryz.ntmps40
    go_wp2_with fail
    refine (allDigits_ref s 12 _ hs).mono ?_
    rintro e w' ⟨rfl, h'⟩
    subst w'
    rw [hA]
    go_wp2_with fail
    refine HN1.out.mono ?_
    rintro e w' ⟨rfl, h'⟩
    subst w'
    go_wp2_with fail
    go_ret
    exact ⟨tret_bool (by rw [HF.out, decide_eq_false (by omega)]), rfl⟩
  ·have h2B : decide (2 ≤ x) = false := decide_eq_false h2
   go_enter Tryz.func40, Tryz.ntmps40
   go_wp2_with fail
   refine (allDigits_ref s 12 _ hs).mono ?_
   rintro e w' ⟨rfl, h'⟩
   subst w'
   rw [hA]
   go_wp2_with fail
   refine HN1.out.mono ?_
   rintro e w' ⟨rfl, h'⟩
   subst w'
   go_wp2_with fail
   go_ret
   exact ⟨tret_bool (by rw [HF.out, decide_eq_false (by omega)]), rfl⟩
end Go.Proofs.YtkalfdjmklakdaaGreatDoor.Cal.Bnk
namespace Go.Proofs.YtkalfdjmklakdaaGreatDoor.Cal.Bnk
open Go.RowKit Go.Maps Go.WideMaps
structure Py where
 acc : ByteArray
 nam : ByteArray
 mon : Int
 ref : Int
def pnth (l : List Py) (j : Nat) : Py := l.getD j ⟨nilT, nilT, 0, 0⟩
def FitP (p : Py) : Prop := (p.acc.size ≤ 9223372036854775807 ∧ p.nam.size ≤ 9223372036854775807) ∧ (Lit.int .i64 p.mon).wf = true ∧ (Lit.int .i64 p.ref).wf = true
def PyAt (w : World) (b o : Nat) (p : Py) : Prop := w.cell? ⟨b, o, none⟩ = some (.string p.acc) ∧ w.cell? ⟨b, o + 1, none⟩ = some (.string p.nam) ∧ w.cell? ⟨b, o + 2, none⟩ = some (.int .i64 p.mon) ∧ w.cell? ⟨b, o + 3, none⟩ = some (.int .i64 p.ref)
theorem PyAt.below {B : Nat} {w w' : World} {b o : Nat} {p : Py} (h : PyAt w b o p) (hb : Below B w w') (hB : b < B) : PyAt w' b o p :=
 ⟨(hb.cell (p := ⟨b, o, none⟩) hB).trans h.1, (hb.cell (p := ⟨b, o + 1, none⟩) hB).trans h.2.1, (hb.cell (p := ⟨b, o + 2, none⟩) hB).trans h.2.2.1, (hb.cell (p := ⟨b, o + 3, none⟩) hB).trans h.2.2.2⟩
def CameP (w : World) (a : Option Addr) (l : List Py) : Prop := l.length = 0 ∨ ∃ b off, a = some ⟨b, off, none⟩ ∧ b < w.heap.size ∧ ∀ j, j < l.length → PyAt w b (off + j * 4) (pnth l j)
theorem CameP.below {w w' : World} {a : Option Addr} {l : List Py} (h : CameP w a l) (hb : Below w.heap.size w w') : CameP w' a l := by
 rcases h with h | ⟨b, off, rfl, hlt, h⟩
 ·exact .inl h
 ·exact .inr ⟨b, off, rfl, Nat.lt_of_lt_of_le hlt hb.size, fun j hj => (h j hj).below hb hlt⟩
theorem CameP.open {w : World} {a : Option Addr} {l : List Py} (h : CameP w a l) {n : Nat} (hn : l.length = n) (h0 : 0 < n) : ∃ b off, a = some ⟨b, off, none⟩ ∧ b < w.heap.size ∧ ∀ w', Below w.heap.size w w' → ∀ j, j < n → PyAt w' b (off + j * 4) (pnth l j) := by
 rcases h with h | ⟨b, off, rfl, hlt, h⟩
 ·omega
 ·exact ⟨b, off, rfl, hlt, fun w' hb j hj => (h j (by omega)).below hb hlt⟩
theorem pcells_int : Tryz.prog.cellsOf 3 = 1 := by kernel_rfl
theorem pcells_str : Tryz.prog.cellsOf 9 = 1 := by kernel_rfl
theorem pcells_pay : Tryz.prog.cellsOf 166 = 4 := by kernel_rfl
set_option maxRecDepth 100000 in
theorem open_pays {H : Type} {enc : TypeId × Value → H} {W : World} {fuel : Nat} {v : Value} {x : DataW H × List MemPlace}
 (h : DataW.trod enc Tryz.prog W 0 (fun _ => true) true fuel 167 [v] = some x) :
 ∃ (a : Option Addr) (len cap : Nat) (l : List Py), v = .slice a len cap ∧ CameP W a l ∧ l.length = len ∧ len ≤ maxLen ∧ ∀ j, j < len → FitP (pnth l j) := by
 rcases Deep.open_slice Tryz.underlying167 h with ⟨hcs, _⟩ | ⟨a', len, cap, m, n, D, Pl, hcs, hb, hl, hm, hmm, _, hx⟩
 ·simp at hcs
  exact ⟨none, 0, 0, [], hcs, .inl rfl, rfl, Nat.zero_le _, fun j hj => by omega⟩
 simp at hcs
 subst hcs
 have hmc : m = cap := by rw [hmm]; simp
 subst hmc
 have each : ∀ i, i < m → ∃ r : Py, (W.cell? (a'.add (i * 4)) = some (.string r.acc) ∧ W.cell? (a'.add (i * 4 + 1)) = some (.string r.nam) ∧ W.cell? (a'.add (i * 4 + 2)) = some (.int .i64 r.mon) ∧ W.cell? (a'.add (i * 4 + 3)) = some (.int .i64 r.ref)) ∧ FitP r := by
  intro i hi
  obtain ⟨cs', h1, h2⟩ := hx i hi
  rw [pcells_pay] at h1
  obtain ⟨_, hlen, hcell⟩ := World.cells?_some h1
  obtain ⟨xs, k, hk, hxy, _, hxl, hf⟩ := DataW.trod_struct Tryz.underlying166 h2
  match xs, hxl, cs', hlen with
  | [y0, y1, y2, y3], _, [v0, v1, v2, v3], _ =>
    have g0 := hf 0 _ rfl
    have g1 := hf 1 _ rfl
    have g2 := hf 2 _ rfl
    have g3 := hf 3 _ rfl
    simp [pcells_int, pcells_str] at g0 g1 g2 g3
    obtain ⟨n0, q0, _, w0⟩ := DataW.trod_string Tryz.underlying9 g0
    obtain ⟨n1, q1, _, w1⟩ := DataW.trod_string Tryz.underlying9 g1
    obtain ⟨n2, q2, _, w2⟩ := DataW.trod_int Tryz.underlying3 g2
    obtain ⟨n3, q3, _, w3⟩ := DataW.trod_int Tryz.underlying3 g3
    simp at q0 q1 q2 q3
    subst q0 q1 q2 q3
    have e0 := hcell 0 (by omega)
    have e1 := hcell 1 (by omega)
    have e2 := hcell 2 (by omega)
    have e3 := hcell 3 (by omega)
    rw [Deep.add_add] at e0 e1 e2 e3
    exact ⟨⟨n0, n1, n2, n3⟩, ⟨by simpa using e0, by simpa using e1, by simpa using e2, by simpa using e3⟩, ⟨by unfold maxLen at w0; omega, by unfold maxLen at w1; omega⟩, w2, w3⟩
 haveI : Inhabited Py := ⟨⟨nilT, nilT, 0, 0⟩⟩
 obtain ⟨q, hq⟩ := Deep.choose_lt each
 have hnth : ∀ j, j < len → pnth ((List.range len).map q) j = q j := by
  intro j hj
  simp [pnth, List.getD_eq_getElem?_getD, hj]
 refine ⟨some a', len, m, (List.range len).map q, rfl, ?_, by simp, by omega, fun j hj => by rw [hnth j hj]; exact (hq j (by omega)).2⟩
 by_cases h0 : len = 0
 ·exact .inl (by simp [h0])
 ·obtain ⟨b, off, spot⟩ := a'
  have hc := (hq 0 (by omega)).1.1
  have hspot : spot = none := by simpa [Addr.add] using World.cell?_spot hc
  subst hspot
  refine .inr ⟨b, off, rfl, lt_of_cell hc, fun j hj => ?_⟩
  have hj' : j < len := by simpa using hj
  have := (hq j (by omega)).1
  simp only [Addr.add_lit] at this
  rw [hnth j hj']
  simpa [PyAt, Nat.add_assoc] using this
def rngB (p : Py) : Bool := decide ((1 ≤ p.mon ∧ p.mon ≤ 1000000000000) ∧ 0 ≤ p.ref ∧ p.ref ≤ 999999)
def wrongP (p : Py) : Int := if (accB p.acc && nameB p.nam) = true then (if rngB p = true then 0 else 3) else 1
theorem wrongP_acc {p : Py} (h : accB p.acc = false) : wrongP p = 1 := by unfold wrongP; rw [h]; rfl
theorem wrongP_nam {p : Py} (h : nameB p.nam = false) : wrongP p = 1 := by unfold wrongP; rw [h, Bool.and_false]; rfl
theorem wrongP_rng {p : Py} (h : accB p.acc = true) (h2 : nameB p.nam = true) (h3 : ¬ ((1 ≤ p.mon ∧ p.mon ≤ 1000000000000) ∧ 0 ≤ p.ref ∧ p.ref ≤ 999999)) : wrongP p = 3 := by unfold wrongP rngB; rw [h, h2, decide_eq_false h3]; rfl
theorem wrongP_ok {p : Py} (h : accB p.acc = true) (h2 : nameB p.nam = true) (h3 : (1 ≤ p.mon ∧ p.mon ≤ 1000000000000) ∧ 0 ≤ p.ref ∧ p.ref ≤ 999999) : wrongP p = 0 := by unfold wrongP rngB; rw [h, h2, decide_eq_true h3]; rfl
theorem wrongP_zero {p : Py} (h : wrongP p = 0) : accB p.acc = true ∧ nameB p.nam = true ∧ (1 ≤ p.mon ∧ p.mon ≤ 1000000000000) ∧ 0 ≤ p.ref ∧ p.ref ≤ 999999 := by
 cases h1 : accB p.acc
 ·rw [wrongP_acc h1] at h; omega
 ·cases h2 : nameB p.nam
  ·rw [wrongP_nam h2] at h; omega
  ·by_cases h3 : (1 ≤ p.mon ∧ p.mon ≤ 1000000000000) ∧ 0 ≤ p.ref ∧ p.ref ≤ 999999
   ·exact ⟨rfl, rfl, h3⟩
   ·rw [wrongP_rng h1 h2 h3] at h; omega
def firstP (l : List Py) : Nat → Int
 | 0 => 0
 | k + 1 => if firstP l k = 0 then wrongP (pnth l k) else firstP l k
theorem firstP_ok {l : List Py} : ∀ {k : Nat}, (∀ j, j < k → wrongP (pnth l j) = 0) → firstP l k = 0
 | 0, _ => rfl
 | k + 1, h => by rw [firstP, firstP_ok (k := k) (fun j hj => h j (by omega)), if_pos rfl, h k (by omega)]
theorem firstP_at {l : List Py} {k : Nat} (h : ∀ j, j < k → wrongP (pnth l j) = 0) (hk : wrongP (pnth l k) ≠ 0) : ∀ {n : Nat}, k < n → firstP l n = wrongP (pnth l k)
 | 0, hn => by omega
 | n + 1, hn => by
   by_cases e : k = n
   ·subst e; rw [firstP, firstP_ok h, if_pos rfl]
   ·rw [firstP, firstP_at h hk (n := n) (by omega), if_neg hk]
def metR (l : List Py) (x : Int) : Nat → Bool
 | 0 => false
 | k + 1 => metR l x k || (pnth l k).ref == x
def dupB (l : List Py) : Nat → Bool
 | 0 => false
 | k + 1 => dupB l k || metR l (pnth l k).ref k
def cntR (l : List Py) : Nat → Nat
 | 0 => 0
 | k + 1 => if metR l (pnth l k).ref k then cntR l k else cntR l k + 1
theorem cntR_dup (l : List Py) : ∀ k, cntR l k ≤ k ∧ (cntR l k < k ↔ dupB l k = true)
 | 0 => ⟨Nat.le_refl _, by simp [cntR, dupB]⟩
 | k + 1 => by
   obtain ⟨h1, h2⟩ := cntR_dup l k
   rw [cntR, dupB]
   cases hm : metR l (pnth l k).ref k
   ·rw [if_neg (by simp), Bool.or_false, ← h2]
    exact ⟨by omega, by omega⟩
   ·rw [if_pos rfl, Bool.or_true]
    exact ⟨by omega, ⟨fun _ => rfl, fun _ => by omega⟩⟩
def payE (l : List Py) (n : Nat) : Int := if 300 < n then 2 else if firstP l n = 0 then (if dupB l n = true then 6 else 0) else firstP l n
theorem payE_many {l : List Py} {n : Nat} (h : 300 < n) : payE l n = 2 := if_pos h
theorem payE_at {l : List Py} {n k : Nat} (hn : ¬ 300 < n) (h : ∀ j, j < k → wrongP (pnth l j) = 0) (hk : wrongP (pnth l k) ≠ 0) (hkn : k < n) : payE l n = wrongP (pnth l k) := by
 unfold payE; rw [if_neg hn, firstP_at h hk hkn, if_neg hk]
theorem payE_all {l : List Py} {n : Nat} (hn : ¬ 300 < n) (h : ∀ j, j < n → wrongP (pnth l j) = 0) : payE l n = if dupB l n = true then 6 else 0 := by
 unfold payE; rw [if_neg hn, firstP_ok h, if_pos rfl]
theorem firstP_zero {l : List Py} : ∀ {n : Nat}, firstP l n = 0 → ∀ j, j < n → wrongP (pnth l j) = 0
 | 0, _, j, hj => by omega
 | n + 1, h, j, hj => by
   rw [firstP] at h
   by_cases h0 : firstP l n = 0
   ·rw [if_pos h0] at h
    by_cases e : j = n
    ·subst e; exact h
    ·exact firstP_zero h0 j (by omega)
   ·rw [if_neg h0] at h; exact absurd h h0
theorem payE_zero {l : List Py} {n : Nat} (h : payE l n = 0) : n ≤ 300 ∧ (∀ j, j < n → wrongP (pnth l j) = 0) ∧ dupB l n = false := by
 unfold payE at h
 by_cases h1 : 300 < n
 ·rw [if_pos h1] at h; omega
 ·rw [if_neg h1] at h
  by_cases h2 : firstP l n = 0
  ·rw [if_pos h2] at h
   cases h3 : dupB l n
   ·exact ⟨by omega, firstP_zero h2, rfl⟩
   ·rw [if_pos h3] at h; omega
  ·rw [if_neg h2] at h; exact absurd h h2
set_option maxRecDepth 100000 in
set_option maxHeartbeats 1000000 in
theorem isName_any (s : ByteArray) (w : World) (hs : s.size ≤ 9223372036854775807) : Calls Tryz.prog 216 #[.string s] w fun e w' => e = .returned (.bool (nameB s)) ∧ Below w.heap.size w w' := by
 by_cases h0 : s.size = 0
 ·have hE : s.toList.isEmpty = true := by rw [ByteArray.toList_eq]; rw [size_toList] at h0; simp [List.eq_nil_of_length_eq_zero h0]
  have HF : Hid (nameB s = false) := by unfold Hid nameB; rw [decide_eq_false (by omega), Bool.and_false]
  clear h0
  go_enter Tryz.func216, Tryz.ntmps216
  go_wp2_with fail
  go_ret
  exact ⟨tret_bool HF.out.symm, Below.refl _ _⟩
 ·have hE : s.toList.isEmpty = false := by
   rw [ByteArray.toList_eq]
   rw [size_toList] at h0
   cases h : s.data.toList with
   | nil => rw [h] at h0; exact absurd rfl h0
   | cons a b => rfl
  by_cases h12 : s.size ≤ 12
  ·have h12' : (s.size : Int) ≤ 12 := by omega
   have HF : Hid (nameB s = allT letB s) := by unfold Hid nameB; rw [decide_eq_true (by omega), Bool.and_true]
   clear h0
   go_enter Tryz.func216, Tryz.ntmps216
   go_wp2_with fail
   refine (isAll_let s _).mono ?_
   rintro e w1 ⟨rfl, hb1⟩
   have HB1 := Lib.hid hb1
   clear hb1
   go_wp2_with fail
   go_ret
   exact ⟨tret_bool HF.out.symm, HB1.out⟩
  ·have h12B : decide ((s.size : Int) ≤ 12) = false := decide_eq_false (by omega)
   have h12N : decide (s.size ≤ 12) = false := decide_eq_false h12
   have HF : Hid (nameB s = false) := by unfold Hid nameB; rw [decide_eq_false (by omega), Bool.and_false]
   clear h0
   go_enter Tryz.func216, Tryz.ntmps216
   go_wp2_with fail
   go_ret
   exact ⟨tret_bool HF.out.symm, Below.refl _ _⟩
end Go.Proofs.YtkalfdjmklakdaaGreatDoor.Cal.Bnk
namespace Go.Proofs.YtkalfdjmklakdaaGreatDoor.Cal.Bnk
open Go.RowKit Go.Maps Go.WideMaps
theorem intLaw : Keyed Tryz.prog 3 := int_keyed Tryz.underlying3
theorem zeroInt (w : World) : (zeroValue 3).run Tryz.prog w = .ok (.int .i64 0) w := by kernel_rfl
theorem make_mapI (k : Int) (w : World) : (Instr.makeMap 224 (some (.int .i64 k))).run Tryz.prog w = .ok (.map (some w.heap.size)) (w.alloc (.map #[] 0)) := by
 simp [Instr.makeMap, run_underlying Tryz.underlying224, asInt, asIntOf, Result.andThen]
def MapI (w : World) (b n : Nat) (g : Int → Option Int) (c : Nat) : Prop := ∃ D : DataW Unit, w.ownsMap Tryz.prog 3 (plainElem (H := Unit) Tryz.prog 3) b n D ∧ (∀ x, Maps.has D (.int .i64 x) = (g x).isSome ∧ D.atKey (.int .i64 x) (.lit (.int .i64 0)) = .lit (.int .i64 ((g x).getD 0))) ∧ Maps.size D = c
theorem MapI.lt {w : World} {b n c : Nat} {g : Int → Option Int} (h : MapI w b n g c) : b < w.heap.size := by
 obtain ⟨D, ⟨es, clock, hb, _⟩, _⟩ := h
 by_cases hlt : b < w.heap.size
 ·exact hlt
 ·rw [Array.getElem?_eq_none (by omega)] at hb
  cases hb
theorem MapI.below {w w' : World} {b n c : Nat} {g : Int → Option Int} (h : MapI w b n g c) (hb : Below w.heap.size w w') : MapI w' b n g c := by
 have hlt := h.lt
 obtain ⟨D, ⟨es, clock, hbk, h3⟩, h2⟩ := h
 exact ⟨D, ⟨es, clock, by rw [hb.block b hlt]; exact hbk, h3⟩, h2⟩
theorem MapI.made (w : World) : MapI (w.alloc (.map #[] 0)) w.heap.size 0 (fun _ => none) 0 :=
 ⟨.map [], World.ownsMap_made _ _ _ _, fun x => ⟨by simp [Maps.has], by simp [DataW.atKey]⟩, by simp [Maps.size]⟩
theorem mapI_put {D : DataW Unit} {g : Int → Option Int} {z v : Int} (hm : IsMap D) (h : ∀ x, Maps.has D (.int .i64 x) = (g x).isSome ∧ D.atKey (.int .i64 x) (.lit (.int .i64 0)) = .lit (.int .i64 ((g x).getD 0))) (x : Int) :
 Maps.has (D.put (.int .i64 z) (.lit (.int .i64 v))) (.int .i64 x) = (if x = z then some v else g x).isSome ∧ (D.put (.int .i64 z) (.lit (.int .i64 v))).atKey (.int .i64 x) (.lit (.int .i64 0)) = .lit (.int .i64 ((if x = z then some v else g x).getD 0)) := by
 by_cases e : x = z
 ·rw [if_pos e, e]
  exact ⟨has_put_same hm (show WideAt.IsKeyLit (.int .i64 z) from trivial) _, atKey_put_same hm (show WideAt.IsKeyLit (.int .i64 z) from trivial) _ _⟩
 ·rw [if_neg e, has_put_other (by intro q; cases q; exact e rfl), atKey_put_other (by intro q; cases q; exact e rfl)]
  exact h x
def lastR (l : List Py) : Nat → Int → Option Int
 | 0, _ => none
 | k + 1, x => if x = (pnth l k).ref then some (k : Int) else lastR l k x
theorem lastR_met (l : List Py) (x : Int) : ∀ k, (lastR l k x).isSome = metR l x k
 | 0 => rfl
 | k + 1 => by
   rw [lastR, metR]
   by_cases e : x = (pnth l k).ref
   ·rw [if_pos e, e]; simp
   ·rw [if_neg e, lastR_met l x k]
    have : ((pnth l k).ref == x) = false := by simpa using fun q => e q.symm
    rw [this, Bool.or_false]
def PlacesRet (w w' : World) (e : Ending) (l : List Py) (n : Nat) : Prop := ∃ b, e = .returned (.map (some b)) ∧ w.heap.size ≤ b ∧ MapI w' b n (lastR l n) (cntR l n) ∧ Below w.heap.size w w'
theorem below_to {B B' : Nat} {w w' : World} (h : Below B w w') (hB : B' ≤ B) : Below B' w w' := h.mono hB
set_option maxRecDepth 100000 in
set_option maxHeartbeats 2000000 in
theorem placesByRef_any (a : Option Addr) (n cap : Nat) (l : List Py) (w : World) (hc : CameP w a l) (hf : ∀ j, j < n → FitP (pnth l j)) (hn : l.length = n) (hm : n ≤ 300) :
 Calls Tryz.prog 217 #[.slice a n cap] w fun e w' => PlacesRet w w' e l n := by
 have HO := Lib.hid (fun h0 => hc.open hn h0)
 have HF := Lib.hid hf
 have hmm := make_mapI
 clear hc hf hn
 go_enter Tryz.func217, Tryz.ntmps217
 go_wp2_with fail
 go_loopw [11] (fun i wr => ∃ k : Nat, k ≤ n ∧ i = .int .i64 k ∧ MapI wr w.heap.size k (lastR l k) (cntR l k) ∧ Below w.heap.size w wr) (fun i _ => n - (intOf i).toNat)
 case atStart => exact ⟨0, Nat.zero_le _, rfl, MapI.made w, (Below.refl _ _).alloc (Nat.le_refl _) _⟩
 case round =>
  obtain ⟨k, hk, rfl, hmap, hnx⟩ := hrel
  have HM := Lib.hid hmap
  have HB := Lib.hid hnx
  clear hmap hnx hmm
  by_cases hlt : k < n
  ·have hlt' : (k : Int) < (n : Int) := by omega
   obtain ⟨b, off, rfl, hbl, hcell⟩ := HO.out (by omega)
   obtain ⟨x0, x1, x2, x3⟩ := hcell wr HB.out k hlt
   have hfit := HF.out k hlt
   have HL : Hid (lastR l (k + 1) = fun x => if x = (pnth l k).ref then some (k : Int) else lastR l k x) := rfl
   have HC : Hid (cntR l (k + 1) = if (lastR l k (pnth l k).ref).isSome then cntR l k else cntR l k + 1) := by unfold Hid; rw [cntR, lastR_met]
   have HBX := Lib.hid (bbelow_box wr (.cells #[.string (pnth l k).acc, .string (pnth l k).nam, .int .i64 (pnth l k).mon, .int .i64 (pnth l k).ref] 166))
   obtain ⟨D, hown, hD, hsz⟩ := HM.out.below HBX.out
   have HBW := Lib.hid (HB.out.trans (HBX.out.mono HB.out.size))
   have hkey : keyOf Tryz.prog 3 (.int .i64 (pnth l k).ref) = some (.int .i64 (pnth l k).ref) := keyOf_int_mk Tryz.underlying3 hfit.2.2
   have HD := Lib.hid hD
   have HSZ := Lib.hid hsz
   clear hD hsz hcell hfit HBX
   generalize (pnth l k).ref = rf at *
   generalize (pnth l k).acc = ac at *
   generalize (pnth l k).nam = nm at *
   generalize (pnth l k).mon = mo at *
   go_wp2_with (first
    | (at_mapUpdate; refine wpList_mapUpdate_own _ rfl _ _ _ 224 rfl 3 3 intLaw Tryz.underlying224 (plainElem (H := Unit) Tryz.prog 3) w.heap.size k _ rfl hown (by unfold maxLen; omega) _ _ _ rfl rfl hkey (.lit (.int .i64 (k : Int))) [] (plainElem_int Tryz.underlying3 (WalkArith.wf_i64 (by omega))) ?_; intro w2 hown2 hgrow2))
   go_roundw
   case rel =>
    refine ⟨k + 1, by omega, by go_num, ⟨_, hown2, ?_, ?_⟩, HBW.out.grown hgrow2 HBW.out.size (fun j hj => by cases hj; exact Nat.le_refl _)⟩
    ·rw [HL.out]
     exact mapI_put hown.isMap HD.out
    ·rw [HC.out, size_put (hown.tidy intLaw), (HD.out rf).1, HSZ.out]
   case measure => simp [intOf]; omega
  ·obtain rfl : n = k := by omega
   go_wp2_with fail
   go_ret
   exact ⟨_, rfl, Nat.le_refl _, HM.out, HB.out⟩
theorem py_box {wr w' : World} {ac nm : ByteArray} {mo rf : Int} (hb : Below (wr.alloc (.cells #[.string ac, .string nm, .int .i64 mo, .int .i64 rf] 166)).heap.size (wr.alloc (.cells #[.string ac, .string nm, .int .i64 mo, .int .i64 rf] 166)) w') :
 w'.cell? ⟨wr.heap.size, 0, none⟩ = some (.string ac) ∧ w'.cell? ⟨wr.heap.size, 1, none⟩ = some (.string nm) ∧ w'.cell? ⟨wr.heap.size, 2, none⟩ = some (.int .i64 mo) ∧ w'.cell? ⟨wr.heap.size, 3, none⟩ = some (.int .i64 rf) := by
 have hl : wr.heap.size < (wr.alloc (.cells #[.string ac, .string nm, .int .i64 mo, .int .i64 rf] 166)).heap.size := by simp
 refine ⟨?_, ?_, ?_, ?_⟩ <;> rw [hb.cell (by exact hl), World.cell?_alloc_at (w := wr) _ _ _ _ rfl] <;> rfl
set_option maxRecDepth 100000 in
set_option maxHeartbeats 2000000 in
theorem checkPayments_any (a : Option Addr) (n cap : Nat) (l : List Py) (w : World) (ht : Tab w) (hc : CameP w a l) (hf : ∀ j, j < n → FitP (pnth l j)) (hn : l.length = n) (hm : n ≤ 9223372036854775807) :
 Calls Tryz.prog 180 #[.slice a n cap] w fun e w' => e = .returned (.int .i64 (payE l n)) ∧ Below w.heap.size w w' := by
 have HT := Lib.hid ht
 have HCP := Lib.hid hc
 have HO := Lib.hid (fun h0 => hc.open hn h0)
 have HF := Lib.hid hf
 have HN := Lib.hid hn
 clear hc hf hn ht
 by_cases h300 : 300 < n
 ·have HE := Lib.hid (payE_many (l := l) h300)
  have h300' : (300 : Int) < (n : Int) := by omega
  go_enter Tryz.func180, Tryz.ntmps180
  go_wp2_with fail
  go_ret
  exact ⟨tret_int HE.out.symm, Below.refl _ _⟩
 ·have h300' : ¬ ((300 : Int) < (n : Int)) := by omega
  have HP := Lib.hid (fun w hc => placesByRef_any a n cap l w hc HF.out HN.out (by omega))
  go_enter Tryz.func180, Tryz.ntmps180
  go_wp2_with fail
  go_loopw [10] (fun i wr => ∃ k : Nat, k ≤ n ∧ i = .int .i64 k ∧ (∀ j, j < k → wrongP (pnth l j) = 0) ∧ Below w.heap.size w wr) (fun i _ => n - (intOf i).toNat)
  case atStart => exact ⟨0, Nat.zero_le _, rfl, fun j hj => by omega, Below.refl _ _⟩
  case round =>
   obtain ⟨k, hk, rfl, hall, hb⟩ := hrel
   have HA := Lib.hid hall
   have HB := Lib.hid hb
   clear hall hb
   by_cases hlt : k < n
   ·have hlt' : (k : Int) < (n : Int) := by omega
    obtain ⟨b, off, rfl, hbl, hcell⟩ := HO.out (by omega)
    obtain ⟨x0, x1, x2, x3⟩ := hcell wr HB.out k hlt
    have hfit := HF.out k hlt
    have HNF := Lib.hid hfit.1.2
    have HEA := Lib.hid (fun h => payE_at (l := l) (n := n) (k := k) h300 HA.out h hlt)
    have HNX : Hid (wrongP (pnth l k) = 0 → ∀ j, j < k + 1 → wrongP (pnth l j) = 0) := fun h j hj => by
     by_cases e : j = k
     ·subst e; exact h
     ·exact HA.out j (by omega)
    have HWA := Lib.hid (@wrongP_acc (pnth l k))
    have HWN := Lib.hid (@wrongP_nam (pnth l k))
    have HWR := Lib.hid (@wrongP_rng (pnth l k))
    have HWO := Lib.hid (@wrongP_ok (pnth l k))
    have HBX := Lib.hid (bbelow_box wr (.cells #[.string (pnth l k).acc, .string (pnth l k).nam, .int .i64 (pnth l k).mon, .int .i64 (pnth l k).ref] 166))
    have HBW := Lib.hid (HB.out.trans (HBX.out.mono HB.out.size))
    have HTW := Lib.hid (HT.out.below HBW.out)
    clear hcell hfit hbl
    generalize wrongP (pnth l k) = wr' at *
    generalize (pnth l k).ref = rf at *
    generalize (pnth l k).acc = ac at *
    generalize (pnth l k).nam = nm at *
    generalize (pnth l k).mon = mo at *
    go_wp2_with fail
    refine (IsAccount_any ac _ HTW.out).mono ?_
    rintro e w1 ⟨rfl, hb1⟩
    have HBX1 := Lib.hid (HBW.out.trans (hb1.mono HBW.out.size))
    have HQ1 := Lib.hid hb1
    obtain ⟨y0, y1, y2, y3⟩ := py_box hb1
    clear hb1 x0 x1 x2 x3
    cases ha : accB ac
    ·have HE : Hid (payE l n = 1) := by have := HWA.out ha; unfold Hid; rw [HEA.out (by rw [this]; decide), this]
     go_wp2_with fail
     go_ret
     exact ⟨tret_int HE.out.symm, HBX1.out⟩
    ·go_wp2_with fail
     clear y0 y1 y2 y3
     refine (isName_any nm _ HNF.out).mono ?_
     rintro e w2 ⟨rfl, hb2⟩
     have HBX2 := Lib.hid (HBX1.out.trans (hb2.mono HBX1.out.size))
     obtain ⟨y0, y1, y2, y3⟩ := py_box (HQ1.out.trans (hb2.mono HQ1.out.size))
     clear hb2
     cases hnm : nameB nm
     ·have HE : Hid (payE l n = 1) := by have := HWN.out hnm; unfold Hid; rw [HEA.out (by rw [this]; decide), this]
      go_wp2_with fail
      go_ret
      exact ⟨tret_int HE.out.symm, HBX2.out⟩
     ·by_cases hok : (1 ≤ mo ∧ mo ≤ 1000000000000) ∧ 0 ≤ rf ∧ rf ≤ 999999
      ·have HOK := Lib.hid (HNX.out (HWO.out ha hnm hok))
       have m1 : decide (mo < 1) = false := decide_eq_false (by omega)
       have m2 : decide (1000000000000 < mo) = false := decide_eq_false (by omega)
       have m3 : decide (rf < 0) = false := decide_eq_false (by omega)
       have m4 : decide (999999 < rf) = false := decide_eq_false (by omega)
       go_wp2_with fail
       go_roundw
       case rel => exact ⟨k + 1, by omega, by go_num, HOK.out, HBX2.out⟩
       case measure => simp [intOf]; omega
      ·have HE : Hid (payE l n = 3) := by have := HWR.out ha hnm hok; unfold Hid; rw [HEA.out (by rw [this]; decide), this]
       by_cases m1 : mo < 1
       ·have m1B : decide (mo < 1) = true := decide_eq_true m1
        go_wp2_with fail
        go_ret
        exact ⟨tret_int HE.out.symm, HBX2.out⟩
       ·have m1B : decide (mo < 1) = false := decide_eq_false m1
        by_cases m2 : 1000000000000 < mo
        ·have m2B : decide (1000000000000 < mo) = true := decide_eq_true m2
         go_wp2_with fail
         go_ret
         exact ⟨tret_int HE.out.symm, HBX2.out⟩
        ·have m2B : decide (1000000000000 < mo) = false := decide_eq_false m2
         by_cases m3 : rf < 0
         ·have m3B : decide (rf < 0) = true := decide_eq_true m3
          go_wp2_with fail
          go_ret
          exact ⟨tret_int HE.out.symm, HBX2.out⟩
         ·have m3B : decide (rf < 0) = false := decide_eq_false m3
          have m4 : 999999 < rf := by omega
          have m4B : decide (999999 < rf) = true := decide_eq_true m4
          go_wp2_with fail
          go_ret
          exact ⟨tret_int HE.out.symm, HBX2.out⟩
   ·obtain rfl : n = k := by omega
    have HEA := Lib.hid (payE_all h300 HA.out)
    have HCD := Lib.hid (cntR_dup l n)
    go_wp2_with fail
    refine (HP.out _ (HCP.out.below HB.out)).mono ?_
    rintro e w1 ⟨mb, rfl, _, ⟨D, hown, _, hsz⟩, hb1⟩
    have HB1 := Lib.hid (HB.out.trans (hb1.mono HB.out.size))
    have HSZ := Lib.hid hsz
    clear hb1
    cases hd : dupB l n
    ·rw [hd, if_neg (by simp)] at HEA
     have hlt2 : ¬ ((Maps.size D : Int) < (n : Int)) := by
      have h1 := HCD.out.2
      rw [hd] at h1
      have h2 := HCD.out.1
      rw [hsz]
      have : ¬ cntR l n < n := fun h => by have := h1.1 h; cases this
      omega
     have HE := HEA
     clear hsz
     go_wp2_with (first | (at_len; refine wpList_len_own _ rfl _ 224 rfl 3 3 Tryz.underlying224 _ _ _ D rfl hown ?_))
     go_ret
     exact ⟨tret_int HE.out.symm, HB1.out⟩
    ·rw [hd, if_pos rfl] at HEA
     have hlt2 : (Maps.size D : Int) < (n : Int) := by
      have h1 := HCD.out.2.2 hd
      rw [hsz]
      omega
     have HE := HEA
     clear hsz
     go_wp2_with (first | (at_len; refine wpList_len_own _ rfl _ 224 rfl 3 3 Tryz.underlying224 _ _ _ D rfl hown ?_))
     go_ret
     exact ⟨tret_int HE.out.symm, HB1.out⟩
end Go.Proofs.YtkalfdjmklakdaaGreatDoor.Cal.Bnk
namespace Go.Proofs.YtkalfdjmklakdaaGreatDoor.Cal.Bnk
open Go.RowKit
theorem pbelow_dN {B : Nat} {a w : World} (h : Below B a w) (k : Nat) : Below B a (w.drewN k) := h.trans ⟨rfl, rfl, rfl, Nat.le_refl _, fun _ _ => rfl⟩
end Go.Proofs.YtkalfdjmklakdaaGreatDoor.Cal.Bnk
