/-
  Promise E1: a text is a name just if it is one token, a name, and all of it.
-/
import Derived.Test.YtgiacemmigjloaaDoorTTop
import Derived.Test.YtgiacemmigjloaaDoorTIsName
namespace Go.Proofs.YtgiacemmigjloaaDoor
open Go.RowKit

instance (s : ByteArray) : Decidable (NameP s) := by unfold NameP; infer_instance
theorem bytes_inj {s t : ByteArray} (h : s.toList = t.toList) : s = t := by
  rw [ByteArray.toList_eq, ByteArray.toList_eq] at h
  exact ByteArray.ext (Array.toList_inj.1 h)
theorem extract_all (s : ByteArray) : s.extract 0 s.size = s := by
  apply ByteArray.ext
  simp
theorem first_name {s : ByteArray} (h : NameP s) : firstO s = .tok 1 s.size 0 false := by
  obtain ⟨h1, h2, h3, h4⟩ := h
  have hn : spanN letB s = s.size := ((span_all (spanN_is letB s)).2 h3)
  unfold firstO
  rw [if_pos (by omega), hn]
  unfold wordO
  rw [if_neg (by omega), extract_all, h4]
  rfl
theorem name_first {s : ByteArray} {v : Int} {p : Bool} (h : firstO s = .tok 1 s.size v p) (h0 : 0 < s.size) : NameP s := by
  unfold firstO at h
  split at h
  · rename_i hl
    unfold wordO at h
    split at h
    · cases h
    · rename_i h8
      split at h
      · injection h with e _
        cases e
      · rename_i hw
        injection h with _ e
        have hsp := spanN_is letB s
        rw [e] at hsp hw h8
        rw [extract_all] at hw
        exact ⟨by omega, by omega, hsp.2.1, by simpa using hw⟩
  · split at h
    · unfold numO at h
      split at h
      · split at h
        · cases h
        · split at h
          · cases h
          · split at h
            · injection h with e _
              cases e
            · split at h
              · cases h
              · split at h
                · injection h with e _
                  cases e
                · cases h
      · cases h
    · unfold signO at h
      split at h
      · injection h with e _
        cases e
      · split at h
        · injection h with e _
          cases e
        · cases h
theorem name_byte {s : ByteArray} (h : NameP s) : blkB (bt s 0) = false ∧ bt s 0 ≠ 35 := by
  have := of_decide_eq_true (h.2.2.1 0 (by have := h.1; omega))
  exact ⟨decide_eq_false (by omega), by omega⟩
theorem toks_name {s : ByteArray} (hN : NameP s) {a : Nat} {L : List Tk} (h : Toks s a L) : (a = 0 ∧ L = []) ∨ (a = s.size ∧ L = [⟨1, s, 0, false, 0⟩]) := by
  induction h with
  | start a h ha => exact .inl ⟨gap_none h (name_byte hN).1 (name_byte hN).2, rfl⟩
  | step a L k n v p m h ha hf hm hms ih =>
    rcases ih with ⟨rfl, rfl⟩ | ⟨rfl, _⟩
    · rw [extract_all, first_name hN] at hf
      injection hf with e1 e2 e3 e4
      subst e1 e2 e3 e4
      refine .inr ⟨by omega, ?_⟩
      rw [extract_all, extract_all]
      rfl
    · omega
theorem toks_one {s : ByteArray} {t : Tk} (h0 : 0 < s.size) (hk : t.k = 1) (ht : t.txt = s) {a : Nat} {L : List Tk} (h : Toks s a L) (hL : L = [t]) : NameP s := by
  cases h with
  | start => cases hL
  | step a L k n v p m h ha hf hm hms =>
    have hl : L = [] := by
      have := congrArg List.length hL
      simp at this
      exact this
    subst hl
    injection hL with e
    subst e
    simp only at hk ht
    subst hk
    have hn := first_len (s := s.extract a s.size) (by rw [ByteArray.size_extract]; omega) hf
    have hz := congrArg ByteArray.size ht
    rw [ByteArray.size_extract, ByteArray.size_extract] at hz
    rw [ByteArray.size_extract] at hn
    obtain rfl : a = 0 := by omega
    rw [extract_all] at hf
    obtain rfl : n = s.size := by omega
    exact name_first hf h0
theorem bad_err {s : ByteArray} {e : Int} {o : Nat} (h : firstO s = .bad e o) : (e = 1 ∨ e = 3) ∧ (0 < s.size → o ≤ s.size) := by
  unfold firstO at h
  split at h
  · unfold wordO at h
    split at h
    · injection h with e1 e2; omega
    · split at h <;> cases h
  · split at h
    · have hs := (spanN_is digB s).1
      unfold numO at h
      split at h
      · split at h
        · injection h with e1 e2; omega
        · split at h
          · injection h with e1 e2; omega
          · split at h
            · cases h
            · split at h
              · injection h with e1 e2; omega
              · split at h
                · cases h
                · injection h with e1 e2; omega
      · injection h with e1 e2; omega
    · unfold signO at h
      split at h
      · cases h
      · split at h
        · cases h
        · injection h with e1 e2; omega
end Go.Proofs.YtgiacemmigjloaaDoor
