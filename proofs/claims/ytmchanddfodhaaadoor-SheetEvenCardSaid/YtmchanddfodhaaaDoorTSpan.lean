/-
  Promise E1: how far a text goes: the walk of span, and of letters and digits. No condition beyond those of each theorem.
-/
import Derived.Test.YtmchanddfodhaaaDoorProg
import Derived.Test.YtmchanddfodhaaaDoorChecked
import Derived.ProofKit
import Derived.Lib.Hide
import Derived.Laws.RangeAny
import Derived.Laws.RangeString
import Derived.LoopTactic
import Derived.WalkKit
import Derived.Laws.Unary
import Derived.Deep.QuietTactic
import Derived.BigQuiet
namespace Go.Proofs.YtmchanddfodhaaaDoor
open Go.RowKit

theorem tret_bool {a b : Bool} (h : a = b) : Ending.returned (.bool a) = .returned (.bool b) := by rw [h]
theorem tret_int {k : IntKind} {a b : Int} (h : a = b) : Ending.returned (.int k a) = .returned (.int k b) := by rw [h]
/-- The byte at a place, or -1 behind the end. -/
def bt (s : ByteArray) (j : Nat) : Int := if h : j < s.size then (s[j].toNat : Int) else -1
theorem bt_in {s : ByteArray} {j : Nat} (h : j < s.size) : bt s j = (s[j].toNat : Int) := by unfold bt; rw [dif_pos h]
theorem bt_out {s : ByteArray} {j : Nat} (h : ¬ j < s.size) : bt s j = -1 := by unfold bt; rw [dif_neg h]

/-- So many bytes go by until one does not fit. -/
def SpanIs (P : Int → Bool) (s : ByteArray) (n : Nat) : Prop := n ≤ s.size ∧ (∀ k, k < n → P (bt s k) = true) ∧ (n < s.size → P (bt s n) = false)
theorem SpanIs.unique {P : Int → Bool} {s : ByteArray} {n m : Nat} (h : SpanIs P s n) (h' : SpanIs P s m) : n = m := by
  obtain ⟨a1, a2, a3⟩ := h
  obtain ⟨b1, b2, b3⟩ := h'
  rcases (show n < m ∨ n = m ∨ m < n by omega) with e | e | e
  · have := a3 (by omega)
    rw [b2 n e] at this
    cases this
  · exact e
  · have := b3 (by omega)
    rw [a2 m e] at this
    cases this
/-- A rune of more than one byte is one of bytes from 128 on. -/
theorem decode_wide (s : ByteArray) (pos : Nat) (h : pos < s.size) (ha : 128 ≤ (s[pos]'h).toNat) : ∀ k, k < (Utf8.decode s pos).2 → pos + k < s.size ∧ 128 ≤ bt s (pos + k) := by
  have key : ∀ k, pos + k < s.size → 128 ≤ (s.get! (pos + k)).toNat → pos + k < s.size ∧ 128 ≤ bt s (pos + k) := by
    intro k hin hk
    refine ⟨hin, ?_⟩
    rw [bt_in hin]
    have e : s.get! (pos + k) = s[pos + k] := by
      simp [ByteArray.get!, getElem!_pos, hin]
      rfl
    rw [e] at hk
    omega
  have h0 : 128 ≤ (s.get! (pos + 0)).toNat := by
    have e : s.get! (pos + 0) = s[pos]'h := by
      show s.get! pos = _
      simp [ByteArray.get!, getElem!_pos, h]
      rfl
    rw [e]
    exact ha
  have hn : ¬ (s.get! (pos + 0)).toNat < 128 := by omega
  have k0 := key 0 (by omega) h0
  have cont : ∀ k, (decide (pos + k < s.size) && (s.get! (pos + k)).toNat / 64 == 2) = true → pos + k < s.size ∧ 128 ≤ bt s (pos + k) := fun k hk => by
    rw [Bool.and_eq_true, decide_eq_true_eq, beq_iff_eq] at hk
    exact key k hk.1 (by omega)
  intro k hk
  unfold Utf8.decode at hk
  simp only [hn, if_false] at hk
  split at hk
  · rename_i h1
    rw [Bool.and_eq_true] at h1
    have k1 := cont 1 h1.2
    split at hk
    · have : k = 0 ∨ k = 1 := by simp at hk; omega
      rcases this with rfl | rfl
      · exact k0
      · exact k1
    · obtain rfl : k = 0 := by simp at hk; omega
      exact k0
  · split at hk
    · rename_i h1
      rw [Bool.and_eq_true, Bool.and_eq_true] at h1
      have k1 := cont 1 h1.1.2
      have k2 := cont 2 h1.2
      split at hk
      · have : k = 0 ∨ k = 1 ∨ k = 2 := by simp at hk; omega
        rcases this with rfl | rfl | rfl
        · exact k0
        · exact k1
        · exact k2
      · obtain rfl : k = 0 := by simp at hk; omega
        exact k0
    · split at hk
      · rename_i h1
        rw [Bool.and_eq_true, Bool.and_eq_true, Bool.and_eq_true] at h1
        have k1 := cont 1 h1.1.1.2
        have k2 := cont 2 h1.1.2
        have k3 := cont 3 h1.2
        split at hk
        · have : k = 0 ∨ k = 1 ∨ k = 2 ∨ k = 3 := by simp at hk; omega
          rcases this with rfl | rfl | rfl | rfl
          · exact k0
          · exact k1
          · exact k2
          · exact k3
        · obtain rfl : k = 0 := by simp at hk; omega
          exact k0
      · obtain rfl : k = 0 := by simp at hk; omega
        exact k0
theorem iter_below (w : World) (s : ByteArray) (pos : Nat) : Below w.heap.size w (w.iter s pos) := (Below.refl w.heap.size w).alloc (Nat.le_refl _) _
/-- Is it a small letter, a digit, a blank, no line feed? -/
def letB (r : Int) : Bool := decide (97 ≤ r ∧ r ≤ 122)
def digB (r : Int) : Bool := decide (48 ≤ r ∧ r ≤ 57)
def blkB (r : Int) : Bool := decide (r = 32 ∨ r = 9 ∨ r = 10)
def nlfB (r : Int) : Bool := decide (r ≠ 10)
theorem letB_hi (r : Int) (h : 128 ≤ r) : letB r = false := decide_eq_false (by omega)
theorem digB_hi (r : Int) (h : 128 ≤ r) : digB r = false := decide_eq_false (by omega)
theorem blkB_hi (r : Int) (h : 128 ≤ r) : blkB r = false := decide_eq_false (by omega)
theorem nlfB_hi (r : Int) (h : 128 ≤ r) : nlfB r = true := decide_eq_true (by omega)
theorem letters_one (r : Int) (w : World) : Calls Tryd.prog 79 #[.int .i32 r] w fun e w' => e = .returned (.bool (letB r)) ∧ w' = w := by
  by_cases h1 : 97 ≤ r
  · have H : Hid (letB r = decide (r ≤ 122)) := by unfold Hid letB; simp [h1]
    go_enter Tryd.func79, Tryd.ntmps79
    go_wp2
    go_ret
    exact ⟨tret_bool (by rw [H.out]; try rfl), rfl⟩
  · have H : Hid (letB r = false) := decide_eq_false (by omega)
    have hd : decide (97 ≤ r) = false := decide_eq_false h1
    go_enter Tryd.func79, Tryd.ntmps79
    go_wp2
    go_ret
    exact ⟨tret_bool (by rw [H.out]; try rfl), rfl⟩
set_option maxRecDepth 100000 in
set_option maxHeartbeats 1000000 in
theorem span_letters (s : ByteArray) (w : World) :
    Calls Tryd.prog 78 #[.string s, .func (.func 79) #[] #[]] w fun e w' => ∃ n : Nat, e = .returned (.int .i64 (n : Int)) ∧ SpanIs letB s n ∧ Below w.heap.size w w' := by
  go_enter Tryd.func78, Tryd.ntmps78
  go_wp2_with fail
  go_loopw [] (fun w' => ∃ pos : Nat, w' = w.iter s pos ∧ pos ≤ s.size ∧ ∀ k, k < pos → letB (bt s k) = true) (fun w' => s.size - w'.iterPos w.heap.size)
  case atStart => exact ⟨0, rfl, Nat.zero_le _, fun k hk => absurd hk (by omega)⟩
  case round =>
    obtain ⟨pos, rfl, hpos, hall⟩ := hrel
    have HA := Lib.hid hall
    clear hall
    by_cases hp : pos < s.size
    · have hnx : ∀ ty, (Instr.next (.pointer (some ⟨w.heap.size, 0, none⟩)) true ty).run Tryd.prog (w.iter s pos) = _ := fun ty => run_next_any w s pos ty hp
      have HW : Hid (1 ≤ (Utf8.decode s pos).2 ∧ pos + (Utf8.decode s pos).2 ≤ s.size ∧ letB ((Utf8.decode s pos).1 : Int) = letB (bt s pos) ∧ (letB (bt s pos) = true → ∀ k, k < pos + (Utf8.decode s pos).2 → letB (bt s k) = true)) := by
        have hbp := bt_in hp
        by_cases ha : (s[pos]'hp).toNat < 128
        · rw [Hid, decode_ascii s pos hp ha]
          refine ⟨Nat.le_refl _, hp, by rw [hbp], fun h k hk => ?_⟩
          rcases (show k < pos ∨ k = pos by simp at hk; omega) with h' | rfl
          · exact HA.out k h'
          · exact h
        · have h1 := decode_high s pos hp (by omega)
          have h2 := decode_wide s pos hp (by omega)
          refine ⟨h1.2, ?_, ?_, fun h k hk => ?_⟩
          · have := (h2 ((Utf8.decode s pos).2 - 1) (by omega)).1
            omega
          · rw [letB_hi _ (by omega), letB_hi _ (by rw [hbp]; omega)]
          · by_cases e : k < pos
            · exact HA.out k e
            · obtain ⟨q, rfl⟩ : ∃ q, k = pos + q := ⟨k - pos, by omega⟩
              exact (letB_hi _ (h2 q (by omega)).2).trans ((letB_hi (bt s pos) (by rw [hbp]; omega)).symm.trans h)
      have HC := Lib.hid (fun w => letters_one ((Utf8.decode s pos).1 : Int) w)
      obtain ⟨hw1, hw2, HW3, HW4⟩ := HW.out
      have HW3 := Lib.hid HW3
      have HW4 := Lib.hid HW4
      clear HW
      generalize hr : ((Utf8.decode s pos).1 : Int) = r at *
      clear hr
      cases hb : letB r
      · go_wp2_with fail
        refine (HC.out _).mono ?_
        rintro e w' ⟨rfl, h'⟩
        subst w'
        rw [hb]
        go_wp2_with fail
        go_ret
        exact ⟨pos, rfl, ⟨hpos, HA.out, fun _ => by rw [← HW3.out]; exact hb⟩, iter_below _ _ _⟩
      · have HT := Lib.hid (HW4.out (by rw [← HW3.out]; exact hb))
        go_wp2_with fail
        refine (HC.out _).mono ?_
        rintro e w' ⟨rfl, h'⟩
        subst w'
        rw [hb]
        go_wp2_with fail
        go_roundw
        case rel => exact ⟨_, rfl, hw2, HT.out⟩
        case measure => simp; omega
    · obtain rfl : pos = s.size := by omega
      have hnx : ∀ ty, (Instr.next (.pointer (some ⟨w.heap.size, 0, none⟩)) true ty).run Tryd.prog (w.iter s s.size) = _ := fun ty => run_next_end w s s.size ty hp
      go_wp2_with fail
      go_ret
      exact ⟨s.size, rfl, ⟨Nat.le_refl _, HA.out, fun h => absurd h hp⟩, iter_below _ _ _⟩
theorem letters_any (s : ByteArray) (w : World) : Calls Tryd.prog 57 #[.string s] w fun e w' => ∃ n : Nat, e = .returned (.int .i64 (n : Int)) ∧ SpanIs letB s n ∧ Below w.heap.size w w' := by
  go_enter Tryd.func57, Tryd.ntmps57
  go_wp2_with fail
  refine (span_letters s w).mono ?_
  rintro e w1 ⟨n, rfl, h1, h2⟩
  have H1 := Lib.hid h1
  have H2 := Lib.hid h2
  clear h1 h2
  go_wp2_with fail
  go_ret
  exact ⟨n, rfl, H1.out, H2.out⟩
end Go.Proofs.YtmchanddfodhaaaDoor
