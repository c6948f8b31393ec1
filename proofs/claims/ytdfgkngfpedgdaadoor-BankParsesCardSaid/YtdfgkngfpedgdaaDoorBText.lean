/-
  Promise P1: texts of digits and of letters, and the numbers that digits are: the walks of isAll and number, and of the reference's AllDigits, IsPayee and Number.
-/
import Derived.Test.YtdfgkngfpedgdaaDoorTSpan
import Derived.Test.YtdfgkngfpedgdaaDoorMInts
namespace Go.Proofs.YtdfgkngfpedgdaaDoor
open Go.RowKit

theorem bt_extract (s : ByteArray) (a e j : Nat) (he : e ≤ s.size) (hj : j < e - a) : bt (s.extract a e) j = bt s (a + j) := by
  have h1 : j < (s.extract a e).size := by rw [ByteArray.size_extract]; omega
  have h2 : a + j < s.size := by omega
  rw [bt_in h1, bt_in h2, ByteArray.getElem_extract]
theorem bt_append_l (s t : ByteArray) (j : Nat) (h : j < s.size) : bt (s ++ t) j = bt s j := by
  have h1 : j < (s ++ t).size := by rw [ByteArray.size_append]; omega
  rw [bt_in h1, bt_in h, ByteArray.getElem_append_left h]
theorem bt_append_r (s t : ByteArray) (j : Nat) : bt (s ++ t) (s.size + j) = bt t j := by
  by_cases h : j < t.size
  · have h1 : s.size + j < (s ++ t).size := by rw [ByteArray.size_append]; omega
    rw [bt_in h1, bt_in h, ByteArray.getElem_append_right (by omega)]
    simp
  · rw [bt_out h, bt_out (by rw [ByteArray.size_append]; omega)]
theorem ba_eq {s t : ByteArray} (hs : s.size = t.size) (h : ∀ j, j < s.size → bt s j = bt t j) : s = t := by
  apply ByteArray.ext_getElem hs
  intro j h1 h2
  have := h j h1
  rw [bt_in h1, bt_in h2] at this
  exact UInt8.toNat_inj.1 (by omega)
/-- Does it hold of each byte? -/
def allT (P : Int → Bool) (s : ByteArray) : Bool := (List.range s.size).all fun k => P (bt s k)
theorem allT_iff {P : Int → Bool} {s : ByteArray} : allT P s = true ↔ ∀ k, k < s.size → P (bt s k) = true := by
  unfold allT
  rw [List.all_eq_true]
  exact ⟨fun h k hk => h k (List.mem_range.2 hk), fun h k hk => h k (List.mem_range.1 hk)⟩
theorem allT_not {P : Int → Bool} {s : ByteArray} {k : Nat} (hk : k < s.size) (h : P (bt s k) = false) : allT P s = false := by
  rw [Bool.eq_false_iff]
  intro e
  rw [allT_iff.1 e k hk] at h
  cases h
theorem bDigit_one (r : Int) (w : World) : Calls Tryd.prog 30 #[.int .i32 r] w fun e w' => e = .returned (.bool (digB r)) ∧ w' = w := by
  by_cases h1 : 48 ≤ r
  · have H : Hid (digB r = decide (r ≤ 57)) := by unfold Hid digB; simp [h1]
    go_enter Tryd.func30, Tryd.ntmps30
    go_wp2
    go_ret
    exact ⟨tret_bool (by rw [H.out]; try rfl), rfl⟩
  · have H : Hid (digB r = false) := decide_eq_false (by omega)
    have hd : decide (48 ≤ r) = false := decide_eq_false h1
    go_enter Tryd.func30, Tryd.ntmps30
    go_wp2
    go_ret
    exact ⟨tret_bool (by rw [H.out]; try rfl), rfl⟩
theorem bLetter_one (r : Int) (w : World) : Calls Tryd.prog 62 #[.int .i32 r] w fun e w' => e = .returned (.bool (letB r)) ∧ w' = w := by
  by_cases h1 : 97 ≤ r
  · have H : Hid (letB r = decide (r ≤ 122)) := by unfold Hid letB; simp [h1]
    go_enter Tryd.func62, Tryd.ntmps62
    go_wp2
    go_ret
    exact ⟨tret_bool (by rw [H.out]; try rfl), rfl⟩
  · have H : Hid (letB r = false) := decide_eq_false (by omega)
    have hd : decide (97 ≤ r) = false := decide_eq_false h1
    go_enter Tryd.func62, Tryd.ntmps62
    go_wp2
    go_ret
    exact ⟨tret_bool (by rw [H.out]; try rfl), rfl⟩
set_option maxRecDepth 100000 in
set_option maxHeartbeats 1000000 in
theorem isAll_dig (s : ByteArray) (w : World) :
    Calls Tryd.prog 29 #[.string s, .func (.func 30) #[] #[]] w fun e w' => e = .returned (.bool (allT digB s)) ∧ Below w.heap.size w w' := by
  go_enter Tryd.func29, Tryd.ntmps29
  go_wp2_with fail
  go_loopw [] (fun w' => ∃ pos : Nat, w' = w.iter s pos ∧ pos ≤ s.size ∧ ∀ k, k < pos → digB (bt s k) = true) (fun w' => s.size - w'.iterPos w.heap.size)
  case atStart => exact ⟨0, rfl, Nat.zero_le _, fun k hk => absurd hk (by omega)⟩
  case round =>
    obtain ⟨pos, rfl, hpos, hall⟩ := hrel
    have HA := Lib.hid hall
    clear hall
    by_cases hp : pos < s.size
    · have hnx : ∀ ty, (Instr.next (.pointer (some ⟨w.heap.size, 0, none⟩)) true ty).run Tryd.prog (w.iter s pos) = _ := fun ty => run_next_any w s pos ty hp
      have HW : Hid (1 ≤ (Utf8.decode s pos).2 ∧ pos + (Utf8.decode s pos).2 ≤ s.size ∧ digB ((Utf8.decode s pos).1 : Int) = digB (bt s pos) ∧ (digB (bt s pos) = true → ∀ k, k < pos + (Utf8.decode s pos).2 → digB (bt s k) = true)) := by
        have hbp := bt_in hp
        by_cases ha : (s[pos]'hp).toNat < 128
        · rw [Hid, decode_ascii s pos hp ha]
          refine ⟨Nat.le_refl _, hp, by rw [hbp], fun h k hk => ?_⟩
          rcases (show k < pos ∨ k = pos by simp at hk; omega) with h' | rfl
          · exact HA.out k h'
          · exact h
        · have h1 := decode_high s pos hp (by omega)
          have h2 := decode_wide s pos hp (by omega)
          refine ⟨h1.2, ?_, ?_, fun h k hk => ?_⟩
          · have := (h2 ((Utf8.decode s pos).2 - 1) (by omega)).1
            omega
          · rw [digB_hi _ (by omega), digB_hi _ (by rw [hbp]; omega)]
          · by_cases e : k < pos
            · exact HA.out k e
            · obtain ⟨q, rfl⟩ : ∃ q, k = pos + q := ⟨k - pos, by omega⟩
              exact (digB_hi _ (h2 q (by omega)).2).trans ((digB_hi (bt s pos) (by rw [hbp]; omega)).symm.trans h)
      have HC := Lib.hid (fun w => bDigit_one ((Utf8.decode s pos).1 : Int) w)
      obtain ⟨hw1, hw2, HW3, HW4⟩ := HW.out
      have HW3 := Lib.hid HW3
      have HW4 := Lib.hid HW4
      clear HW
      generalize hr : ((Utf8.decode s pos).1 : Int) = r at *
      clear hr
      cases hb : digB r
      · have HF : Hid (allT digB s = false) := allT_not hp (by rw [← HW3.out]; exact hb)
        go_wp2_with fail
        refine (HC.out _).mono ?_
        rintro e w' ⟨rfl, h'⟩
        subst w'
        rw [hb]
        go_wp2_with fail
        go_ret
        exact ⟨tret_bool HF.out.symm, iter_below _ _ _⟩
      · have HT := Lib.hid (HW4.out (by rw [← HW3.out]; exact hb))
        go_wp2_with fail
        refine (HC.out _).mono ?_
        rintro e w' ⟨rfl, h'⟩
        subst w'
        rw [hb]
        go_wp2_with fail
        go_roundw
        case rel => exact ⟨_, rfl, hw2, HT.out⟩
        case measure => simp; omega
    · obtain rfl : pos = s.size := by omega
      have hnx : ∀ ty, (Instr.next (.pointer (some ⟨w.heap.size, 0, none⟩)) true ty).run Tryd.prog (w.iter s s.size) = _ := fun ty => run_next_end w s s.size ty hp
      have HF : Hid (allT digB s = true) := allT_iff.2 HA.out
      go_wp2_with fail
      go_ret
      exact ⟨tret_bool HF.out.symm, iter_below _ _ _⟩
set_option maxRecDepth 100000 in
set_option maxHeartbeats 1000000 in
theorem isAll_let (s : ByteArray) (w : World) :
    Calls Tryd.prog 29 #[.string s, .func (.func 62) #[] #[]] w fun e w' => e = .returned (.bool (allT letB s)) ∧ Below w.heap.size w w' := by
  go_enter Tryd.func29, Tryd.ntmps29
  go_wp2_with fail
  go_loopw [] (fun w' => ∃ pos : Nat, w' = w.iter s pos ∧ pos ≤ s.size ∧ ∀ k, k < pos → letB (bt s k) = true) (fun w' => s.size - w'.iterPos w.heap.size)
  case atStart => exact ⟨0, rfl, Nat.zero_le _, fun k hk => absurd hk (by omega)⟩
  case round =>
    obtain ⟨pos, rfl, hpos, hall⟩ := hrel
    have HA := Lib.hid hall
    clear hall
    by_cases hp : pos < s.size
    · have hnx : ∀ ty, (Instr.next (.pointer (some ⟨w.heap.size, 0, none⟩)) true ty).run Tryd.prog (w.iter s pos) = _ := fun ty => run_next_any w s pos ty hp
      have HW : Hid (1 ≤ (Utf8.decode s pos).2 ∧ pos + (Utf8.decode s pos).2 ≤ s.size ∧ letB ((Utf8.decode s pos).1 : Int) = letB (bt s pos) ∧ (letB (bt s pos) = true → ∀ k, k < pos + (Utf8.decode s pos).2 → letB (bt s k) = true)) := by
        have hbp := bt_in hp
        by_cases ha : (s[pos]'hp).toNat < 128
        · rw [Hid, decode_ascii s pos hp ha]
          refine ⟨Nat.le_refl _, hp, by rw [hbp], fun h k hk => ?_⟩
          rcases (show k < pos ∨ k = pos by simp at hk; omega) with h' | rfl
          · exact HA.out k h'
          · exact h
        · have h1 := decode_high s pos hp (by omega)
          have h2 := decode_wide s pos hp (by omega)
          refine ⟨h1.2, ?_, ?_, fun h k hk => ?_⟩
          · have := (h2 ((Utf8.decode s pos).2 - 1) (by omega)).1
            omega
          · rw [letB_hi _ (by omega), letB_hi _ (by rw [hbp]; omega)]
          · by_cases e : k < pos
            · exact HA.out k e
            · obtain ⟨q, rfl⟩ : ∃ q, k = pos + q := ⟨k - pos, by omega⟩
              exact (letB_hi _ (h2 q (by omega)).2).trans ((letB_hi (bt s pos) (by rw [hbp]; omega)).symm.trans h)
      have HC := Lib.hid (fun w => bLetter_one ((Utf8.decode s pos).1 : Int) w)
      obtain ⟨hw1, hw2, HW3, HW4⟩ := HW.out
      have HW3 := Lib.hid HW3
      have HW4 := Lib.hid HW4
      clear HW
      generalize hr : ((Utf8.decode s pos).1 : Int) = r at *
      clear hr
      cases hb : letB r
      · have HF : Hid (allT letB s = false) := allT_not hp (by rw [← HW3.out]; exact hb)
        go_wp2_with fail
        refine (HC.out _).mono ?_
        rintro e w' ⟨rfl, h'⟩
        subst w'
        rw [hb]
        go_wp2_with fail
        go_ret
        exact ⟨tret_bool HF.out.symm, iter_below _ _ _⟩
      · have HT := Lib.hid (HW4.out (by rw [← HW3.out]; exact hb))
        go_wp2_with fail
        refine (HC.out _).mono ?_
        rintro e w' ⟨rfl, h'⟩
        subst w'
        rw [hb]
        go_wp2_with fail
        go_roundw
        case rel => exact ⟨_, rfl, hw2, HT.out⟩
        case measure => simp; omega
    · obtain rfl : pos = s.size := by omega
      have hnx : ∀ ty, (Instr.next (.pointer (some ⟨w.heap.size, 0, none⟩)) true ty).run Tryd.prog (w.iter s s.size) = _ := fun ty => run_next_end w s s.size ty hp
      have HF : Hid (allT letB s = true) := allT_iff.2 HA.out
      go_wp2_with fail
      go_ret
      exact ⟨tret_bool HF.out.symm, iter_below _ _ _⟩
/-- The number of the first k digits. -/
def numN (s : ByteArray) : Nat → Int
  | 0 => 0
  | k + 1 => 10 * numN s k + (bt s k - 48)
theorem dig_bd {s : ByteArray} {k : Nat} (h : digB (bt s k) = true) : 48 ≤ bt s k ∧ bt s k ≤ 57 := by unfold digB at h; exact of_decide_eq_true h
theorem numN_bd {s : ByteArray} : ∀ {k : Nat}, (∀ j, j < k → digB (bt s j) = true) → 0 ≤ numN s k ∧ numN s k < 10 ^ k
  | 0, _ => by simp [numN]
  | k + 1, h => by
    have ih := numN_bd (k := k) (fun j hj => h j (by omega))
    have := dig_bd (h k (by omega))
    rw [numN, Int.pow_succ]
    generalize (10 : Int) ^ k = p at *
    omega
theorem numN_cap {s : ByteArray} {k : Nat} (hk : k ≤ 15) (h : ∀ j, j < k → digB (bt s j) = true) : 0 ≤ numN s k ∧ numN s k < 1000000000000000 := by
  have := numN_bd h
  have e : (10 : Int) ^ k ≤ 10 ^ 15 := by
    have := Nat.pow_le_pow_right (show 0 < 10 by omega) hk
    exact_mod_cast this
  have e2 : (10 : Int) ^ 15 = 1000000000000000 := by decide
  omega
set_option maxRecDepth 100000 in
set_option maxHeartbeats 1000000 in
theorem number_any (s : ByteArray) (w : World) (hd : allT digB s = true) (hz : s.size ≤ 15) :
    Calls Tryd.prog 31 #[.string s] w fun e w' => e = .returned (.int .i64 (numN s s.size)) ∧ Below w.heap.size w w' := by
  have HD := Lib.hid (allT_iff.1 hd)
  clear hd
  go_enter Tryd.func31, Tryd.ntmps31
  go_wp2_with fail
  go_loopw [3] (fun v w' => ∃ pos : Nat, w' = w.iter s pos ∧ pos ≤ s.size ∧ v = .int .i64 (numN s pos)) (fun _ w' => s.size - w'.iterPos w.heap.size)
  case atStart => exact ⟨0, rfl, Nat.zero_le _, rfl⟩
  case round =>
    obtain ⟨pos, rfl, hpos, rfl⟩ := hrel
    by_cases hp : pos < s.size
    · have hnx : ∀ ty, (Instr.next (.pointer (some ⟨w.heap.size, 0, none⟩)) true ty).run Tryd.prog (w.iter s pos) = _ := fun ty => run_next_any w s pos ty hp
      have hdp := dig_bd (HD.out pos hp)
      have hbp := bt_in hp
      have hdc := decode_ascii s pos hp (by omega)
      have hcap := numN_cap (s := s) (k := pos) (by omega) (fun j hj => HD.out j (by omega))
      have HN : Hid (numN s (pos + 1) = 10 * numN s pos + (bt s pos - 48)) := rfl
      rw [hdc] at hnx
      simp only [] at hnx
      rw [← hbp] at hnx
      generalize numN s pos = n at *
      generalize bt s pos = b at *
      obtain ⟨hb0, hb1⟩ := hdp
      obtain ⟨hn0, hn1⟩ := hcap
      clear hdc hbp
      have hw1 : IntKind.i32.wrap (b - 48) = b - 48 := by rw [IntKind.wrap_i32]; omega
      go_wp2_with fail
      go_roundw
      case rel => exact ⟨pos + 1, rfl, hp, by rw [HN.out]⟩
      case measure => simp; omega
    · obtain rfl : pos = s.size := by omega
      have hnx : ∀ ty, (Instr.next (.pointer (some ⟨w.heap.size, 0, none⟩)) true ty).run Tryd.prog (w.iter s s.size) = _ := fun ty => run_next_end w s s.size ty hp
      go_wp2_with fail
      go_ret
      exact ⟨rfl, iter_below _ _ _⟩
end Go.Proofs.YtdfgkngfpedgdaaDoor
