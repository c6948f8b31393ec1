/-
  Promise U3: letters of a text in UTF-8: how many bytes each has, what is shown of a line, how many letters that has: pure.
-/
import Derived.Test.YtmchanddfodhaaaDoorShBase
import Derived.Lib.RuneCount
import Derived.Lib.RuneBytes
import Derived.Shelf.GgClosure.StringsIndexFunc
namespace Go.Proofs.YtmchanddfodhaaaDoor
open Go.RowKit Mny

def contB (s : ByteArray) (j : Nat) : Bool := decide (128 ≤ bt s j ∧ bt s j < 192)
def v2 (s : ByteArray) (p : Nat) : Int := 64 * (bt s p - 192) + bt s (p + 1) - 128
def v3 (s : ByteArray) (p : Nat) : Int := 64 * (64 * (bt s p - 224) + bt s (p + 1) - 128) + bt s (p + 2) - 128
def v4 (s : ByteArray) (p : Nat) : Int := 64 * (64 * (64 * (bt s p - 240) + bt s (p + 1) - 128) + bt s (p + 2) - 128) + bt s (p + 3) - 128
def okV (least v : Int) : Bool := decide (least ≤ v ∧ v ≤ 1114111 ∧ (v < 55296 ∨ 57344 ≤ v))
/-- How many bytes the letter at a place has; 0: the byte there is part of none. -/
def letN (s : ByteArray) (p : Nat) : Nat :=
  if bt s p < 128 then 1
  else if 192 ≤ bt s p ∧ bt s p < 224 then (if contB s (p + 1) = true ∧ okV 128 (v2 s p) = true then 2 else 0)
  else if 224 ≤ bt s p ∧ bt s p < 240 then (if contB s (p + 1) = true ∧ contB s (p + 2) = true ∧ okV 2048 (v3 s p) = true then 3 else 0)
  else if 240 ≤ bt s p ∧ bt s p < 248 then (if contB s (p + 1) = true ∧ contB s (p + 2) = true ∧ contB s (p + 3) = true ∧ okV 65536 (v4 s p) = true then 4 else 0)
  else 0
/-- The bytes as numbers. -/
def nums (s : ByteArray) (p k : Nat) : List Int := (List.range k).map fun i => bt s (p + i)
theorem bt_hi (s : ByteArray) (j : Nat) : -1 ≤ bt s j ∧ bt s j ≤ 255 := by
  by_cases h : j < s.size
  · rw [bt_in h]
    have : s[j].toNat < 256 := s[j].toNat_lt
    omega
  · rw [bt_out h]; omega
theorem get_bt {s : ByteArray} {j : Nat} (h : j < s.size) : ((s.get! j).toNat : Int) = bt s j := by
  have e : s.get! j = s[j] := by
    simp [ByteArray.get!, getElem!_pos, h]
    rfl
  rw [e, bt_in h]
theorem cont_eq (s : ByteArray) (j : Nat) : (decide (j < s.size) && (s.get! j).toNat / 64 == 2) = contB s j := by
  unfold contB
  by_cases h : j < s.size
  · have := get_bt h
    have hd : decide (j < s.size) = true := decide_eq_true h
    rw [hd, Bool.true_and, Bool.eq_iff_iff, beq_iff_eq, decide_eq_true_iff]
    omega
  · have hd : decide (j < s.size) = false := decide_eq_false h
    rw [hd, bt_out h]
    rfl
theorem contB_lt {s : ByteArray} {j : Nat} (h : contB s j = true) : j < s.size ∧ 128 ≤ bt s j ∧ bt s j < 192 := by
  have h1 : 128 ≤ bt s j ∧ bt s j < 192 := of_decide_eq_true h
  refine ⟨?_, h1⟩
  by_cases hl : j < s.size
  · exact hl
  · rw [bt_out hl] at h1; omega
theorem valid_eq (c : Nat) (least : Int) (h : least ≤ (c : Int)) : Utf8.valid c = okV least (c : Int) := by
  unfold Utf8.valid okV
  rw [Bool.eq_iff_iff]
  simp
  omega
set_option maxRecDepth 100000 in
/-- What the model decodes at a place is what the letter there says. -/
theorem decode_let (s : ByteArray) (p : Nat) (h : p < s.size) :
    (letN s p = 0 ∧ Utf8.decode s p = (65533, 1) ∧ 128 ≤ bt s p) ∨ ∃ r : Nat, 1 ≤ letN s p ∧ Utf8.decode s p = (r, letN s p) ∧ (r : Int) ≤ 1114111 ∧ p + letN s p ≤ s.size ∧ Lib.encodeRuneZ (r : Int) = nums s p (letN s p) ∧ (bt s p < 128 → (r : Int) = bt s p) ∧ (128 ≤ bt s p → 128 ≤ r) := by
  have hb0 := get_bt h
  have hr0 := bt_hi s p
  have c1 := cont_eq s (p + 1)
  have c2 := cont_eq s (p + 2)
  have c3 := cont_eq s (p + 3)
  unfold Utf8.decode letN
  simp only [Nat.add_zero, c1, c2, c3]
  by_cases hA : bt s p < 128
  · have hn : (s.get! p).toNat < 128 := by omega
    rw [if_pos hA, if_pos hn]
    refine .inr ⟨(s.get! p).toNat, Nat.le_refl _, rfl, by omega, by omega, ?_, fun _ => hb0, fun q => by omega⟩
    rw [Lib.encodeRuneZ_one (by omega) (by omega), hb0]
    rfl
  · have hn : ¬ (s.get! p).toNat < 128 := by omega
    rw [if_neg hA, if_neg hn]
    by_cases hB : 192 ≤ bt s p ∧ bt s p < 224
    · have e1 : ((s.get! p).toNat / 32 == 6) = true := by rw [beq_iff_eq]; omega
      have e2 : ((s.get! p).toNat / 16 == 14) = false := by rw [beq_eq_false_iff_ne]; omega
      have e3 : ((s.get! p).toNat / 8 == 30) = false := by rw [beq_eq_false_iff_ne]; omega
      rw [if_pos hB]
      simp only [e1, e2, e3, Bool.true_and, Bool.false_and]
      cases hc1 : contB s (p + 1)
      · exact .inl ⟨by simp, by simp [Utf8.runeError], by omega⟩
      · obtain ⟨l1, l2, l3⟩ := contB_lt hc1
        have g1 := get_bt l1
        obtain ⟨a0, qa0⟩ : ∃ a, (s.get! p).toNat = a := ⟨_, rfl⟩
        obtain ⟨a1, qa1⟩ : ∃ a, (s.get! (p + 1)).toNat = a := ⟨_, rfl⟩
        rw [qa0] at hb0
        rw [qa1] at g1
        simp only [qa0, qa1]
        have hv : v2 s p = ((a0 % 32 * 64 + a1 % 64 : Nat) : Int) := by unfold v2; omega
        by_cases hg : a0 % 32 * 64 + a1 % 64 ≥ 128
        · have hok : okV 128 (v2 s p) = true := by rw [hv]; exact decide_eq_true (by omega)
          rw [hok]
          simp only [if_true, and_self, hg]
          refine .inr ⟨a0 % 32 * 64 + a1 % 64, by omega, rfl, by omega, by omega, ?_, fun q => by omega, fun _ => by omega⟩
          rw [Lib.encodeRuneZ_two (by omega) (by omega)]
          unfold nums
          simp [List.range_succ]
          omega
        · have hok : okV 128 (v2 s p) = false := by rw [hv]; exact decide_eq_false (by omega)
          rw [hok]
          simp only [hg, if_false, if_true]
          exact .inl ⟨by simp, rfl, by omega⟩
    · rw [if_neg hB]
      have e1 : ((s.get! p).toNat / 32 == 6) = false := by rw [beq_eq_false_iff_ne]; omega
      by_cases hC : 224 ≤ bt s p ∧ bt s p < 240
      · have e2 : ((s.get! p).toNat / 16 == 14) = true := by rw [beq_iff_eq]; omega
        have e3 : ((s.get! p).toNat / 8 == 30) = false := by rw [beq_eq_false_iff_ne]; omega
        rw [if_pos hC]
        simp only [e1, e2, e3, Bool.true_and, Bool.false_and]
        cases hc1 : contB s (p + 1)
        · exact .inl ⟨by simp, by simp [Utf8.runeError], by omega⟩
        · cases hc2 : contB s (p + 2)
          · exact .inl ⟨by simp, by simp [Utf8.runeError], by omega⟩
          · obtain ⟨l1, l2, l3⟩ := contB_lt hc1
            obtain ⟨m1, m2, m3⟩ := contB_lt hc2
            have g1 := get_bt l1
            have g2 := get_bt m1
            obtain ⟨a0, qa0⟩ : ∃ a, (s.get! p).toNat = a := ⟨_, rfl⟩
            obtain ⟨a1, qa1⟩ : ∃ a, (s.get! (p + 1)).toNat = a := ⟨_, rfl⟩
            obtain ⟨a2, qa2⟩ : ∃ a, (s.get! (p + 2)).toNat = a := ⟨_, rfl⟩
            rw [qa0] at hb0
            rw [qa1] at g1
            rw [qa2] at g2
            simp only [qa0, qa1, qa2]
            have hv : v3 s p = ((a0 % 16 * 4096 + a1 % 64 * 64 + a2 % 64 : Nat) : Int) := by unfold v3; omega
            obtain ⟨cv, hcv⟩ : ∃ c, a0 % 16 * 4096 + a1 % 64 * 64 + a2 % 64 = c := ⟨_, rfl⟩
            rw [hcv] at hv
            simp only [hcv]
            by_cases hg : cv ≥ 2048
            · have hval := valid_eq cv 2048 (by omega)
              rw [hv]
              cases hok : okV 2048 (cv : Int)
              · rw [hok] at hval
                simp only [hval, Bool.and_false]
                exact .inl ⟨by simp, by simp [Utf8.runeError], by omega⟩
              · rw [hok] at hval
                have hokv : 2048 ≤ (cv : Int) ∧ (cv : Int) ≤ 1114111 ∧ ((cv : Int) < 55296 ∨ 57344 ≤ (cv : Int)) := of_decide_eq_true hok
                have hd : (decide (cv ≥ 2048) && true) = true := by rw [decide_eq_true hg]; rfl
                simp only [hval, hd, if_true, and_self]
                refine .inr ⟨cv, by omega, by simp, by omega, by omega, ?_, fun q => by omega, fun _ => by omega⟩
                rw [Lib.encodeRuneZ_three (by omega)]
                unfold nums
                simp [List.range_succ]
                omega
            · have hok : okV 2048 (v3 s p) = false := by rw [hv]; exact decide_eq_false (by omega)
              have hd : decide (cv ≥ 2048) = false := decide_eq_false hg
              rw [hok]
              simp only [hd, Bool.false_and]
              exact .inl ⟨by simp, by simp [Utf8.runeError], by omega⟩
      · rw [if_neg hC]
        have e2 : ((s.get! p).toNat / 16 == 14) = false := by rw [beq_eq_false_iff_ne]; omega
        by_cases hD : 240 ≤ bt s p ∧ bt s p < 248
        · have e3 : ((s.get! p).toNat / 8 == 30) = true := by rw [beq_iff_eq]; omega
          rw [if_pos hD]
          simp only [e1, e2, e3, Bool.true_and, Bool.false_and]
          cases hc1 : contB s (p + 1)
          · exact .inl ⟨by simp, by simp [Utf8.runeError], by omega⟩
          · cases hc2 : contB s (p + 2)
            · exact .inl ⟨by simp, by simp [Utf8.runeError], by omega⟩
            · cases hc3 : contB s (p + 3)
              · exact .inl ⟨by simp, by simp [Utf8.runeError], by omega⟩
              · obtain ⟨l1, l2, l3⟩ := contB_lt hc1
                obtain ⟨m1, m2, m3⟩ := contB_lt hc2
                obtain ⟨n1, n2, n3⟩ := contB_lt hc3
                have g1 := get_bt l1
                have g2 := get_bt m1
                have g3 := get_bt n1
                obtain ⟨a0, qa0⟩ : ∃ a, (s.get! p).toNat = a := ⟨_, rfl⟩
                obtain ⟨a1, qa1⟩ : ∃ a, (s.get! (p + 1)).toNat = a := ⟨_, rfl⟩
                obtain ⟨a2, qa2⟩ : ∃ a, (s.get! (p + 2)).toNat = a := ⟨_, rfl⟩
                obtain ⟨a3, qa3⟩ : ∃ a, (s.get! (p + 3)).toNat = a := ⟨_, rfl⟩
                rw [qa0] at hb0
                rw [qa1] at g1
                rw [qa2] at g2
                rw [qa3] at g3
                simp only [qa0, qa1, qa2, qa3]
                have hv : v4 s p = ((a0 % 8 * 262144 + a1 % 64 * 4096 + a2 % 64 * 64 + a3 % 64 : Nat) : Int) := by unfold v4; omega
                obtain ⟨cv, hcv⟩ : ∃ c, a0 % 8 * 262144 + a1 % 64 * 4096 + a2 % 64 * 64 + a3 % 64 = c := ⟨_, rfl⟩
                rw [hcv] at hv
                simp only [hcv]
                by_cases hg : cv ≥ 65536
                · have hval := valid_eq cv 65536 (by omega)
                  rw [hv]
                  cases hok : okV 65536 (cv : Int)
                  · rw [hok] at hval
                    simp only [hval, Bool.and_false]
                    exact .inl ⟨by simp, by simp [Utf8.runeError], by omega⟩
                  · rw [hok] at hval
                    have hokv : 65536 ≤ (cv : Int) ∧ (cv : Int) ≤ 1114111 ∧ ((cv : Int) < 55296 ∨ 57344 ≤ (cv : Int)) := of_decide_eq_true hok
                    have hd : (decide (cv ≥ 65536) && true) = true := by rw [decide_eq_true hg]; rfl
                    simp only [hval, hd, if_true, and_self]
                    refine .inr ⟨cv, by omega, by simp, by omega, by omega, ?_, fun q => by omega, fun _ => by omega⟩
                    rw [Lib.encodeRuneZ_four (by omega) (by omega)]
                    unfold nums
                    simp [List.range_succ]
                    omega
                · have hok : okV 65536 (v4 s p) = false := by rw [hv]; exact decide_eq_false (by omega)
                  have hd : decide (cv ≥ 65536) = false := decide_eq_false hg
                  rw [hok]
                  simp only [hd, Bool.false_and]
                  exact .inl ⟨by simp, by simp [Utf8.runeError], by omega⟩
        · have e3 : ((s.get! p).toNat / 8 == 30) = false := by rw [beq_eq_false_iff_ne]; omega
          rw [if_neg hD]
          simp only [e1, e2, e3, Bool.false_and]
          exact .inl ⟨(by first | trivial | rfl), by simp [Utf8.runeError], by omega⟩
end Go.Proofs.YtmchanddfodhaaaDoor
