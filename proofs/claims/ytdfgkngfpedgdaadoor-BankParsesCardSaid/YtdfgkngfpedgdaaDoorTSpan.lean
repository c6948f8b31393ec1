/-
  Promise E1: how far a text goes: the walk of span, and of letters and digits. No condition beyond those of each theorem.
-/
import Derived.Test.YtdfgkngfpedgdaaDoorProg
import Derived.Test.YtdfgkngfpedgdaaDoorChecked
import Derived.ProofKit
import Derived.Lib.Hide
import Derived.Laws.RangeAny
import Derived.Laws.RangeString
import Derived.LoopTactic
import Derived.WalkKit
import Derived.Laws.Unary
import Derived.Deep.QuietTactic
import Derived.BigQuiet
namespace Go.Proofs.YtdfgkngfpedgdaaDoor
open Go.RowKit

theorem tret_bool {a b : Bool} (h : a = b) : Ending.returned (.bool a) = .returned (.bool b) := by rw [h]
theorem tret_int {k : IntKind} {a b : Int} (h : a = b) : Ending.returned (.int k a) = .returned (.int k b) := by rw [h]
/-- The byte at a place, or -1 behind the end. -/
def bt (s : ByteArray) (j : Nat) : Int := if h : j < s.size then (s[j].toNat : Int) else -1
theorem bt_in {s : ByteArray} {j : Nat} (h : j < s.size) : bt s j = (s[j].toNat : Int) := by unfold bt; rw [dif_pos h]
theorem bt_out {s : ByteArray} {j : Nat} (h : ¬ j < s.size) : bt s j = -1 := by unfold bt; rw [dif_neg h]

/-- So many bytes go by until one does not fit. -/
def SpanIs (P : Int → Bool) (s : ByteArray) (n : Nat) : Prop := n ≤ s.size ∧ (∀ k, k < n → P (bt s k) = true) ∧ (n < s.size → P (bt s n) = false)
theorem SpanIs.unique {P : Int → Bool} {s : ByteArray} {n m : Nat} (h : SpanIs P s n) (h' : SpanIs P s m) : n = m := by
  obtain ⟨a1, a2, a3⟩ := h
  obtain ⟨b1, b2, b3⟩ := h'
  rcases (show n < m ∨ n = m ∨ m < n by omega) with e | e | e
  · have := a3 (by omega)
    rw [b2 n e] at this
    cases this
  · exact e
  · have := b3 (by omega)
    rw [a2 m e] at this
    cases this
/-- A rune of more than one byte is one of bytes from 128 on. -/
theorem decode_wide (s : ByteArray) (pos : Nat) (h : pos < s.size) (ha : 128 ≤ (s[pos]'h).toNat) : ∀ k, k < (Utf8.decode s pos).2 → pos + k < s.size ∧ 128 ≤ bt s (pos + k) := by
  have key : ∀ k, pos + k < s.size → 128 ≤ (s.get! (pos + k)).toNat → pos + k < s.size ∧ 128 ≤ bt s (pos + k) := by
    intro k hin hk
    refine ⟨hin, ?_⟩
    rw [bt_in hin]
    have e : s.get! (pos + k) = s[pos + k] := by
      simp [ByteArray.get!, getElem!_pos, hin]
      rfl
    rw [e] at hk
    omega
  have h0 : 128 ≤ (s.get! (pos + 0)).toNat := by
    have e : s.get! (pos + 0) = s[pos]'h := by
      show s.get! pos = _
      simp [ByteArray.get!, getElem!_pos, h]
      rfl
    rw [e]
    exact ha
  have hn : ¬ (s.get! (pos + 0)).toNat < 128 := by omega
  have k0 := key 0 (by omega) h0
  have cont : ∀ k, (decide (pos + k < s.size) && (s.get! (pos + k)).toNat / 64 == 2) = true → pos + k < s.size ∧ 128 ≤ bt s (pos + k) := fun k hk => by
    rw [Bool.and_eq_true, decide_eq_true_eq, beq_iff_eq] at hk
    exact key k hk.1 (by omega)
  intro k hk
  unfold Utf8.decode at hk
  simp only [hn, if_false] at hk
  split at hk
  · rename_i h1
    rw [Bool.and_eq_true] at h1
    have k1 := cont 1 h1.2
    split at hk
    · have : k = 0 ∨ k = 1 := by simp at hk; omega
      rcases this with rfl | rfl
      · exact k0
      · exact k1
    · obtain rfl : k = 0 := by simp at hk; omega
      exact k0
  · split at hk
    · rename_i h1
      rw [Bool.and_eq_true, Bool.and_eq_true] at h1
      have k1 := cont 1 h1.1.2
      have k2 := cont 2 h1.2
      split at hk
      · have : k = 0 ∨ k = 1 ∨ k = 2 := by simp at hk; omega
        rcases this with rfl | rfl | rfl
        · exact k0
        · exact k1
        · exact k2
      · obtain rfl : k = 0 := by simp at hk; omega
        exact k0
    · split at hk
      · rename_i h1
        rw [Bool.and_eq_true, Bool.and_eq_true, Bool.and_eq_true] at h1
        have k1 := cont 1 h1.1.1.2
        have k2 := cont 2 h1.1.2
        have k3 := cont 3 h1.2
        split at hk
        · have : k = 0 ∨ k = 1 ∨ k = 2 ∨ k = 3 := by simp at hk; omega
          rcases this with rfl | rfl | rfl | rfl
          · exact k0
          · exact k1
          · exact k2
          · exact k3
        · obtain rfl : k = 0 := by simp at hk; omega
          exact k0
      · obtain rfl : k = 0 := by simp at hk; omega
        exact k0
theorem iter_below (w : World) (s : ByteArray) (pos : Nat) : Below w.heap.size w (w.iter s pos) := (Below.refl w.heap.size w).alloc (Nat.le_refl _) _
/-- Is it a small letter, a digit, a blank, no line feed? -/
def letB (r : Int) : Bool := decide (97 ≤ r ∧ r ≤ 122)
def digB (r : Int) : Bool := decide (48 ≤ r ∧ r ≤ 57)
def blkB (r : Int) : Bool := decide (r = 32 ∨ r = 9 ∨ r = 10)
def nlfB (r : Int) : Bool := decide (r ≠ 10)
theorem letB_hi (r : Int) (h : 128 ≤ r) : letB r = false := decide_eq_false (by omega)
theorem digB_hi (r : Int) (h : 128 ≤ r) : digB r = false := decide_eq_false (by omega)
theorem blkB_hi (r : Int) (h : 128 ≤ r) : blkB r = false := decide_eq_false (by omega)
theorem nlfB_hi (r : Int) (h : 128 ≤ r) : nlfB r = true := decide_eq_true (by omega)
end Go.Proofs.YtdfgkngfpedgdaaDoor
