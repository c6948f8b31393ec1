/-
  Promise E3: tokens stand in the text as they are told, one behind the other.
-/
import Derived.Test.YtgiacemmigjloaaDoorTNamed
namespace Go.Proofs.YtgiacemmigjloaaDoor
open Go.RowKit

theorem extract_from (s : ByteArray) (a n : Nat) (h : a + n ≤ s.size) : (s.extract a s.size).extract 0 n = s.extract a (a + n) := by
  apply ByteArray.ext
  simp only [ByteArray.data_extract, Array.extract_extract]
  congr 1
  omega
/-- A token stands in the text, from a place on. -/
def Stands (s : ByteArray) (a : Nat) (t : Tk) : Prop := ∃ p n : Nat, t.pos = (p : Int) ∧ a ≤ p ∧ 1 ≤ n ∧ p + n ≤ s.size ∧ t.txt = s.extract p (p + n) ∧ t.txt.size = n
/-- Where a list of tokens ends. -/
def endOf (L : List Tk) (j : Nat) : Nat := if j = 0 then 0 else (tnth L (j - 1)).pos.toNat + (tnth L (j - 1)).txt.size
theorem tnth_app_lt {L M : List Tk} {j : Nat} (h : j < L.length) : tnth (L ++ M) j = tnth L j := by
  unfold tnth
  rw [List.getD_eq_getElem?_getD, List.getD_eq_getElem?_getD, List.getElem?_append_left h]
theorem tnth_app_at {L : List Tk} {t : Tk} : tnth (L ++ [t]) L.length = t := by
  unfold tnth
  rw [List.getD_eq_getElem?_getD, List.getElem?_append_right (Nat.le_refl _)]
  simp
theorem toks_stand {s : ByteArray} {a : Nat} {L : List Tk} (h : Toks s a L) : endOf L L.length ≤ a ∧ ∀ j, j < L.length → Stands s (endOf L j) (tnth L j) := by
  induction h with
  | start a h ha => exact ⟨by simp [endOf], fun j hj => absurd hj (by simp)⟩
  | step a L k n v p m h ha hf hm hms ih =>
    have hn := first_len (s := s.extract a s.size) (by rw [ByteArray.size_extract]; omega) hf
    rw [ByteArray.size_extract] at hn
    have hsz : ((s.extract a s.size).extract 0 n).size = n := by rw [ByteArray.size_extract, ByteArray.size_extract]; omega
    have hle := h.le
    refine ⟨?_, fun j hj => ?_⟩
    · rw [List.length_append]
      simp only [List.length_cons, List.length_nil, endOf]
      rw [if_neg (by omega), show L.length + (0 + 1) - 1 = L.length by omega, tnth_app_at]
      simp only [hsz]
      omega
    · rw [List.length_append] at hj
      simp only [List.length_cons, List.length_nil] at hj
      by_cases hj' : j < L.length
      · have e1 : endOf (L ++ [⟨k, (s.extract a s.size).extract 0 n, v, p, a⟩]) j = endOf L j := by
          unfold endOf
          by_cases h0 : j = 0
          · rw [if_pos h0, if_pos h0]
          · rw [if_neg h0, if_neg h0, tnth_app_lt (by omega)]
        rw [e1, tnth_app_lt hj']
        exact ih.2 j hj'
      · obtain rfl : j = L.length := by omega
        have e1 : endOf (L ++ [⟨k, (s.extract a s.size).extract 0 n, v, p, a⟩]) L.length = endOf L L.length := by
          unfold endOf
          by_cases h0 : L.length = 0
          · rw [if_pos h0, if_pos h0]
          · rw [if_neg h0, if_neg h0, tnth_app_lt (by omega)]
        rw [e1, tnth_app_at]
        exact ⟨a, n, rfl, ih.1, hn.1, by omega, extract_from s a n (by omega), hsz⟩
end Go.Proofs.YtgiacemmigjloaaDoor
