/-
  Promise E1, E2: which tokens a text has, from its left on: a relation; what holds of it.
-/
import Derived.Test.YtgiacemmigjloaaDoorTApp
namespace Go.Proofs.YtgiacemmigjloaaDoor
open Go.RowKit

theorem SpanAt.from {P : Int → Bool} {s : ByteArray} {a i k : Nat} (ha : a ≤ s.size) (h : SpanAt P (s.extract a s.size) i k) : SpanAt P s (a + i) k := by
  obtain ⟨h1, h2, h3⟩ := h
  rw [ByteArray.size_extract] at h1 h3
  refine ⟨by omega, fun j hj => ?_, fun hj => ?_⟩
  · rw [Nat.add_assoc, ← bt_suffix]; exact h2 j hj
  · rw [Nat.add_assoc, ← bt_suffix]; exact h3 (by omega)
theorem GapAt.from {s : ByteArray} {a i m : Nat} (ha : a ≤ s.size) (h : GapAt (s.extract a s.size) i m) : GapAt s (a + i) (a + m) := by
  induction h with
  | stop i k h hn =>
    rw [← Nat.add_assoc]
    exact .stop (a + i) k (h.from ha) (by rw [Nat.add_assoc, ← bt_suffix]; exact hn)
  | more i k m n h hn hm hr ih =>
    refine .more (a + i) k m (a + n) (h.from ha) (by rw [Nat.add_assoc, ← bt_suffix]; exact hn) ?_ ?_
    · rw [Nat.add_assoc]; exact hm.from ha
    · have e : a + i + k + m = a + (i + k + m) := by omega
      rw [e]; exact ih
theorem first_len {s : ByteArray} (h0 : 0 < s.size) {k : Int} {n : Nat} {v : Int} {p : Bool} (h : firstO s = .tok k n v p) : 1 ≤ n ∧ n ≤ s.size := by
  unfold firstO at h
  split at h
  · rename_i hl
    have hs := (spanN_is letB s).1
    unfold wordO at h
    split at h
    · cases h
    · split at h <;> (injection h with _ e; omega)
  · split at h
    · rename_i hd
      have hs := (spanN_is digB s).1
      unfold numO at h
      split at h
      · split at h
        · cases h
        · split at h
          · cases h
          · split at h
            · injection h with _ e; omega
            · rename_i hp
              split at h
              · cases h
              · rename_i hk
                split at h
                · injection h with _ e
                  have hk' := (spanN_is digB (s.extract (spanN digB s + 1) s.size)).1
                  rw [ByteArray.size_extract] at hk'
                  omega
                · cases h
      · cases h
    · unfold signO at h
      split at h
      · rename_i hl
        have := long_size hl
        injection h with _ e
        omega
      · split at h
        · injection h with _ e
          omega
        · cases h
/-- The tokens of a text up to a place, from which it goes on (behind the gap). -/
inductive Toks (s : ByteArray) : Nat → List Tk → Prop
  | start (a : Nat) (h : GapAt s 0 a) (ha : a ≤ s.size) : Toks s a []
  | step (a : Nat) (L : List Tk) (k : Int) (n : Nat) (v : Int) (p : Bool) (m : Nat) (h : Toks s a L) (ha : a < s.size) (hf : firstO (s.extract a s.size) = .tok k n v p) (hm : GapAt (s.extract (a + n) s.size) 0 m) (hms : a + n + m ≤ s.size) : Toks s (a + n + m) (L ++ [⟨k, (s.extract a s.size).extract 0 n, v, p, a⟩])
theorem Toks.le {s : ByteArray} {a : Nat} {L : List Tk} (h : Toks s a L) : a ≤ s.size := by
  cases h with
  | start _ _ ha => exact ha
  | step _ _ _ _ _ _ _ _ _ _ _ hms => exact hms
theorem Toks.len {s : ByteArray} {a : Nat} {L : List Tk} (h : Toks s a L) : L.length ≤ a := by
  induction h with
  | start _ _ _ => exact Nat.zero_le _
  | step a L k n v p m h ha hf hm hms ih =>
    have := first_len (s := s.extract a s.size) (by rw [ByteArray.size_extract]; omega) hf
    rw [List.length_append]
    simp
    omega
/-- What split answers: all tokens and no fault, or none, and the first fault. -/
def SplitIs (w' : World) (B : Nat) (s : ByteArray) (v : Value) (e at' : Int) : Prop :=
  (∃ L, Toks s s.size L ∧ GrowT w' B v L ∧ e = 0 ∧ at' = 0) ∨ (∃ a L o, Toks s a L ∧ a < s.size ∧ firstO (s.extract a s.size) = .bad e o ∧ v = .slice none 0 0 ∧ at' = ((a + o : Nat) : Int))
end Go.Proofs.YtgiacemmigjloaaDoor
