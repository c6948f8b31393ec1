/-
  Promise U3: what is shown of a line, and how many letters that has: pure.
-/
import Derived.Test.YtmchanddfodhaaaDoorShLet
import Derived.Lib.Strings
namespace Go.Proofs.YtmchanddfodhaaaDoor
open Go.RowKit Mny

/-- The bytes of a text from p on, k of them. -/
def bytesAt (s : ByteArray) (p k : Nat) : List UInt8 := (s.extract p (p + k)).data.toList
theorem bytesAt_eq {s : ByteArray} {p k : Nat} (h : p + k ≤ s.size) : bytesAt s p k = (nums s p k).map fun x => x.toNat.toUInt8 := by
  unfold bytesAt nums
  rw [ByteArray.data_extract, Array.toList_extract, List.extract_eq_take_drop]
  apply List.ext_getElem
  · have := size_toList s
    simp only [List.length_take, List.length_drop, List.length_map, List.length_range]
    omega
  · intro i h1 h2
    have hi : i < k := by simpa using h2
    have hb := bt_in (s := s) (j := p + i) (by omega)
    simp [hb]
    rfl
theorem bytesAt_rune {s : ByteArray} {p k r : Nat} (h : p + k ≤ s.size) (he : Lib.encodeRuneZ (r : Int) = nums s p k) : Lib.encodeRune (r : Int) = bytesAt s p k := by
  rw [bytesAt_eq h]
  unfold Lib.encodeRune
  rw [he]
theorem bytesAt_len {s : ByteArray} {p k : Nat} (h : p + k ≤ s.size) : (bytesAt s p k).length = k := by
  rw [bytesAt_eq h]
  simp [nums]
def stepN (s : ByteArray) (p : Nat) : Nat := if letN s p = 0 then 1 else letN s p
def piece (s : ByteArray) (p : Nat) : List UInt8 := if letN s p = 0 then [63] else bytesAt s p (letN s p)
theorem stepN_pos (s : ByteArray) (p : Nat) : 1 ≤ stepN s p := by unfold stepN; split <;> omega
theorem decode_step {s : ByteArray} {p : Nat} (h : p < s.size) : (Utf8.decode s p).2 = stepN s p := by
  unfold stepN
  rcases decode_let s p h with ⟨h1, h2, _⟩ | ⟨r, h1, h2, _⟩
  · rw [h2, if_pos h1]
  · rw [h2, if_neg (by omega)]
theorem step_le {s : ByteArray} {p : Nat} (h : p < s.size) : p + stepN s p ≤ s.size := by
  unfold stepN
  rcases decode_let s p h with ⟨h1, _⟩ | ⟨r, h1, _, _, h2, _⟩
  · rw [if_pos h1]; omega
  · rw [if_neg (by omega)]; exact h2
/-- What is shown from p on, and of how many letters. -/
def shF (s : ByteArray) : Nat → Nat → List UInt8
  | 0, _ => []
  | f + 1, p => if p < s.size then piece s p ++ shF s f (p + stepN s p) else []
def cnF (s : ByteArray) : Nat → Nat → Nat
  | 0, _ => 0
  | f + 1, p => if p < s.size then 1 + cnF s f (p + stepN s p) else 0
theorem shF_end (s : ByteArray) (f p : Nat) (h : ¬ p < s.size) : shF s f p = [] := by cases f <;> simp [shF, h]
theorem cnF_end (s : ByteArray) (f p : Nat) (h : ¬ p < s.size) : cnF s f p = 0 := by cases f <;> simp [cnF, h]
theorem shF_fuel (s : ByteArray) : ∀ (f g p : Nat), s.size ≤ p + f → s.size ≤ p + g → shF s f p = shF s g p ∧ cnF s f p = cnF s g p
  | 0, g, p, h, _ => by rw [shF_end s g p (by omega), cnF_end s g p (by omega)]; exact ⟨rfl, rfl⟩
  | f + 1, 0, p, _, h => by rw [shF_end s (f + 1) p (by omega), cnF_end s (f + 1) p (by omega)]; exact ⟨rfl, rfl⟩
  | f + 1, g + 1, p, h1, h2 => by
    have h3 := stepN_pos s p
    obtain ⟨i1, i2⟩ := shF_fuel s f g (p + stepN s p) (by omega) (by omega)
    simp only [shF, cnF]
    rw [i1, i2]
    exact ⟨rfl, rfl⟩
def restS (s : ByteArray) (p : Nat) : List UInt8 := shF s (s.size - p) p
def restC (s : ByteArray) (p : Nat) : Nat := cnF s (s.size - p) p
def shownL (s : ByteArray) : List UInt8 := restS s 0
def shownT (s : ByteArray) : ByteArray := ⟨(shownL s).toArray⟩
def lets (s : ByteArray) : Nat := restC s 0
theorem shownT_list (s : ByteArray) : (shownT s).data.toList = shownL s := by simp [shownT]
theorem rest_step {s : ByteArray} {p : Nat} (h : p < s.size) : restS s p = piece s p ++ restS s (p + stepN s p) ∧ restC s p = 1 + restC s (p + stepN s p) := by
  obtain ⟨f, hf⟩ : ∃ f, s.size - p = f + 1 := ⟨s.size - p - 1, by omega⟩
  have h3 := stepN_pos s p
  obtain ⟨i1, i2⟩ := shF_fuel s f (s.size - (p + stepN s p)) (p + stepN s p) (by omega) (by omega)
  unfold restS restC
  rw [hf, shF, cnF, if_pos h, if_pos h, i1, i2]
  exact ⟨rfl, rfl⟩
theorem rest_end {s : ByteArray} {p : Nat} (h : ¬ p < s.size) : restS s p = [] ∧ restC s p = 0 := ⟨shF_end s _ p h, cnF_end s _ p h⟩
theorem piece_len {s : ByteArray} {p : Nat} (h : p < s.size) : (piece s p).length = stepN s p := by
  unfold piece stepN
  rcases decode_let s p h with ⟨h1, _⟩ | ⟨r, h1, _, _, h2, _⟩
  · rw [if_pos h1, if_pos h1]; rfl
  · rw [if_neg (by omega), if_neg (by omega), bytesAt_len h2]
theorem rest_len (s : ByteArray) : ∀ (n p : Nat), s.size - p = n → (restS s p).length = s.size - p ∧ restC s p ≤ s.size - p := by
  intro n
  induction n using Nat.strongRecOn with
  | _ n ih =>
    intro p hn
    by_cases h : p < s.size
    · obtain ⟨h1, h2⟩ := rest_step h
      have h3 := stepN_pos s p
      have h4 := step_le h
      obtain ⟨i1, i2⟩ := ih (s.size - (p + stepN s p)) (by omega) (p + stepN s p) rfl
      rw [h1, h2, List.length_append, piece_len h, i1]
      omega
    · obtain ⟨h1, h2⟩ := rest_end h
      rw [h1, h2]
      simp
      omega
theorem shown_len (s : ByteArray) : (shownL s).length = s.size ∧ lets s ≤ s.size := by
  have := rest_len s s.size 0 rfl
  exact ⟨this.1, this.2⟩
theorem shownT_size (s : ByteArray) : (shownT s).size = s.size := by rw [size_toList, shownT_list, (shown_len s).1]
/-- A letter is one by its own bytes alone. -/
theorem letN_congr {s t : ByteArray} {p q : Nat} (h : letN s p ≠ 0) (hb : ∀ i, i < letN s p → bt t (q + i) = bt s (p + i)) : letN t q = letN s p := by
  have hb0 : bt t q = bt s p := hb 0 (by omega)
  unfold letN at h hb ⊢
  rw [hb0]
  by_cases hA : bt s p < 128
  · rw [if_pos hA, if_pos hA]
  · rw [if_neg hA] at h hb ⊢
    rw [if_neg hA]
    by_cases hB : 192 ≤ bt s p ∧ bt s p < 224
    · rw [if_pos hB] at h hb ⊢
      rw [if_pos hB]
      split at h
      · next hc =>
        rw [if_pos hc] at hb
        have e1 := hb 1 (by omega)
        have c1 : contB t (q + 1) = contB s (p + 1) := by unfold contB; rw [e1]
        have cv : v2 t q = v2 s p := by unfold v2; rw [hb0, e1]
        rw [c1, cv]
      · exact absurd rfl h
    · rw [if_neg hB] at h hb ⊢
      rw [if_neg hB]
      by_cases hC : 224 ≤ bt s p ∧ bt s p < 240
      · rw [if_pos hC] at h hb ⊢
        rw [if_pos hC]
        split at h
        · next hc =>
          rw [if_pos hc] at hb
          have e1 := hb 1 (by omega)
          have e2 := hb 2 (by omega)
          have c1 : contB t (q + 1) = contB s (p + 1) := by unfold contB; rw [e1]
          have c2 : contB t (q + 2) = contB s (p + 2) := by unfold contB; rw [e2]
          have cv : v3 t q = v3 s p := by unfold v3; rw [hb0, e1, e2]
          rw [c1, c2, cv]
        · exact absurd rfl h
      · rw [if_neg hC] at h hb ⊢
        rw [if_neg hC]
        by_cases hD : 240 ≤ bt s p ∧ bt s p < 248
        · rw [if_pos hD] at h hb ⊢
          rw [if_pos hD]
          split at h
          · next hc =>
            rw [if_pos hc] at hb
            have e1 := hb 1 (by omega)
            have e2 := hb 2 (by omega)
            have e3 := hb 3 (by omega)
            have c1 : contB t (q + 1) = contB s (p + 1) := by unfold contB; rw [e1]
            have c2 : contB t (q + 2) = contB s (p + 2) := by unfold contB; rw [e2]
            have c3 : contB t (q + 3) = contB s (p + 3) := by unfold contB; rw [e3]
            have cv : v4 t q = v4 s p := by unfold v4; rw [hb0, e1, e2, e3]
            rw [c1, c2, c3, cv]
          · exact absurd rfl h
        · rw [if_neg hD] at h
          exact absurd rfl h
theorem bt_of_list {t : ByteArray} {a b : List UInt8} {c : List UInt8} (ht : t.data.toList = a ++ b ++ c) {i : Nat} (hi : i < b.length) : bt t (a.length + i) = ((b[i]'hi).toNat : Int) := by
  have hs : a.length + i < t.size := by rw [size_toList, ht]; simp; omega
  rw [bt_in hs]
  have e : t[a.length + i] = t.data.toList[a.length + i]'(by rw [← size_toList]; exact hs) := by simp [ByteArray.getElem_eq_getElem_data]
  rw [e]
  simp only [ht]
  rw [List.getElem_append_left (by simp; omega), List.getElem_append_right (by omega)]
  simp
theorem bytesAt_get {s : ByteArray} {p k i : Nat} (h : p + k ≤ s.size) (hi : i < k) : (((bytesAt s p k)[i]'(by rw [bytesAt_len h]; exact hi)).toNat : Int) = bt s (p + i) := by
  have hb := bt_in (s := s) (j := p + i) (by omega)
  rw [hb]
  unfold bytesAt
  congr 1
  congr 1
  simp [ByteArray.getElem_eq_getElem_data]
/-- What is shown has as many letters as are shown. -/
theorem shown_count (s : ByteArray) : ∀ (n p : Nat) (a : List UInt8) (f : Nat), s.size - p = n → a ++ restS s p = shownL s → (shownT s).size ≤ a.length + f → Lib.runeCountFrom (shownT s) f a.length = restC s p := by
  intro n
  induction n using Nat.strongRecOn with
  | _ n ih =>
    intro p a f hn ha hf
    have hsz : (shownT s).size = (shownL s).length := by rw [size_toList, shownT_list]
    by_cases h : p < s.size
    · obtain ⟨h1, h2⟩ := rest_step h
      have h3 := stepN_pos s p
      have hpl := piece_len h
      have hal : a.length < (shownT s).size := by
        rw [hsz, ← ha, h1]
        simp
        omega
      obtain ⟨f, rfl⟩ : ∃ g, f = g + 1 := ⟨f - 1, by omega⟩
      have hlist : (shownT s).data.toList = a ++ piece s p ++ restS s (p + stepN s p) := by rw [shownT_list, ← ha, h1, List.append_assoc]
      have hstep : stepN (shownT s) a.length = stepN s p := by
        rcases decode_let s p h with ⟨q1, _⟩ | ⟨r, q1, _, _, q4, _⟩
        · have hp : piece s p = [63] := by unfold piece; rw [if_pos q1]
          have hb : bt (shownT s) a.length = 63 := by
            have := bt_of_list hlist (i := 0) (by rw [hp]; simp)
            simpa [hp] using this
          have : letN (shownT s) a.length = 1 := by unfold letN; rw [hb]; rfl
          unfold stepN
          rw [this, if_pos q1]
          rfl
        · have hp : piece s p = bytesAt s p (letN s p) := by unfold piece; rw [if_neg (by omega)]
          have hc := letN_congr (s := s) (t := shownT s) (p := p) (q := a.length) (by omega) (fun i hi => by
            have := bt_of_list hlist (i := i) (by rw [hp, bytesAt_len q4]; exact hi)
            rw [this, ← bytesAt_get q4 hi]
            simp only [hp])
          unfold stepN
          rw [hc]
      rw [Lib.runeCountFrom, if_pos hal, decode_step hal, hstep, h2]
      have := ih (s.size - (p + stepN s p)) (by omega) (p + stepN s p) (a ++ piece s p) f rfl (by rw [List.append_assoc, ← h1]; exact ha) (by rw [List.length_append, hpl]; omega)
      rw [List.length_append, hpl] at this
      rw [this]
    · obtain ⟨h1, h2⟩ := rest_end h
      rw [h2]
      refine Lib.runeCountFrom_end _ _ _ ?_
      rw [hsz, ← ha, h1]
      simp
theorem runeCount_shown (s : ByteArray) : Lib.runeCount (shownT s) = lets s :=
  shown_count s s.size 0 [] (shownT s).size rfl rfl (by simp)
/-- A byte that a line may not have. -/
def hidB (x : Int) : Bool := decide (x < 32 ∨ x = 127)
def hidP (r : Nat) : Bool := hidB (r : Int)
/-- Has one of the first k bytes? -/
def hidK (s : ByteArray) : Nat → Bool
  | 0 => false
  | k + 1 => hidK s k || hidB (bt s k)
theorem hidK_iff (s : ByteArray) : ∀ k, hidK s k = true ↔ ∃ j, j < k ∧ hidB (bt s j) = true
  | 0 => by simp [hidK]
  | k + 1 => by
    rw [hidK, Bool.or_eq_true, hidK_iff s k]
    constructor
    · rintro (⟨j, h1, h2⟩ | h)
      · exact ⟨j, by omega, h2⟩
      · exact ⟨k, by omega, h⟩
    · rintro ⟨j, h1, h2⟩
      by_cases e : j = k
      · subst e; exact .inr h2
      · exact .inl ⟨j, by omega, h2⟩
theorem idx_hid (s : ByteArray) : ∀ (f p : Nat), s.size ≤ p + f → (0 ≤ Lib.idxFuncFrom hidP true s f p ↔ ∃ j, p ≤ j ∧ j < s.size ∧ hidB (bt s j) = true)
  | 0, p, h => by
    simp only [Lib.idxFuncFrom]
    constructor
    · intro q; omega
    · rintro ⟨j, h1, h2, _⟩; omega
  | f + 1, p, h => by
    unfold Lib.idxFuncFrom
    by_cases hp : p < s.size
    · rw [if_pos hp]
      have hst := decode_step hp
      have h3 := stepN_pos s p
      have ih := idx_hid s f (p + stepN s p) (by omega)
      have hb := bt_hi s p
      have hb0 : 0 ≤ bt s p := by rw [bt_in hp]; omega
      have hmid : ∀ j, p ≤ j → j < p + stepN s p → 128 ≤ bt s p → 128 ≤ bt s j := fun j h1 h2 h128 => by
        have := decode_wide s p hp (by rw [bt_in hp] at h128; omega) (j - p) (by rw [hst]; omega)
        rw [show p + (j - p) = j by omega] at this
        exact this.2
      have hr : hidP (Utf8.decode s p).1 = hidB (bt s p) := by
        rcases decode_let s p hp with ⟨_, q2, q3⟩ | ⟨r, q1, q2, _, _, _, q5, q6⟩
        · rw [q2]
          have e : hidP (65533, 1).1 = false := by decide
          rw [e]
          exact (decide_eq_false (by omega)).symm
        · rw [q2]
          unfold hidP
          by_cases h128 : bt s p < 128
          · rw [q5 h128]
          · have := q6 (by omega)
            unfold hidB
            rw [decide_eq_false (by omega), decide_eq_false (by omega)]
      rw [hr]
      by_cases hh : hidB (bt s p) = true
      · rw [if_pos hh]
        exact ⟨fun _ => ⟨p, Nat.le_refl _, hp, hh⟩, fun _ => by omega⟩
      · rw [if_neg hh, hst, ih]
        constructor
        · rintro ⟨j, h1, h2⟩; exact ⟨j, by omega, h2⟩
        · rintro ⟨j, h1, h2, h4⟩
          by_cases hj : p + stepN s p ≤ j
          · exact ⟨j, hj, h2, h4⟩
          · exfalso
            by_cases h128 : bt s p < 128
            · have hs1 : stepN s p = 1 := by unfold stepN letN; rw [if_pos h128]; rfl
              obtain rfl : j = p := by omega
              exact hh h4
            · have h5 := hmid j h1 (by omega) (by omega)
              have h6 : bt s j < 32 ∨ bt s j = 127 := of_decide_eq_true h4
              omega
    · rw [if_neg hp]
      constructor
      · intro q; omega
      · rintro ⟨j, h1, h2, _⟩; omega
theorem idx_hidK (s : ByteArray) : decide (0 ≤ Lib.idxFunc hidP true s) = hidK s s.size := by
  rw [Bool.eq_iff_iff, decide_eq_true_iff, hidK_iff]
  unfold Lib.idxFunc
  rw [idx_hid s s.size 0 (by omega)]
  constructor
  · rintro ⟨j, _, h2, h3⟩; exact ⟨j, h2, h3⟩
  · rintro ⟨j, h2, h3⟩; exact ⟨j, Nat.zero_le _, h2, h3⟩
/-- Does the letter that stands for what is none stand there itself? -/
theorem pre_iff (s : ByteArray) (p : Nat) : Lib.hasPrefix (s.extract p s.size).data.toList [239, 191, 189] = decide (bt s p = 239 ∧ bt s (p + 1) = 191 ∧ bt s (p + 2) = 189) := by
  have key : ∀ l : List UInt8, Lib.hasPrefix l [239, 191, 189] = decide (l[0]? = some 239 ∧ l[1]? = some 191 ∧ l[2]? = some 189) := by
    intro l
    unfold Lib.hasPrefix
    rw [Bool.eq_iff_iff, decide_eq_true_iff]
    match l with
    | [] => simp
    | [a] => simp
    | [a, b] => simp
    | a :: b :: c :: t =>
      simp only [List.isPrefixOf, List.getElem?_cons_zero, List.getElem?_cons_succ, Bool.and_true, Bool.and_eq_true, beq_iff_eq, Option.some.injEq]
      exact ⟨fun ⟨h1, h2, h3⟩ => ⟨h1.symm, h2.symm, h3.symm⟩, fun ⟨h1, h2, h3⟩ => ⟨h1.symm, h2.symm, h3.symm⟩⟩
  have hg : ∀ i (c : UInt8), ((s.extract p s.size).data.toList[i]? = some c) ↔ bt s (p + i) = (c.toNat : Int) := by
    intro i c
    rw [ba_drop, List.getElem?_drop]
    by_cases h : p + i < s.size
    · have h' : p + i < s.data.toList.length := by rw [← size_toList]; exact h
      rw [List.getElem?_eq_getElem h', bt_in h]
      have e : s[p + i] = s.data.toList[p + i] := by simp [ByteArray.getElem_eq_getElem_data]
      rw [← e]
      constructor
      · intro q; injection q with q; rw [q]
      · intro q; rw [UInt8.toNat_inj.1 (by omega : s[p + i].toNat = c.toNat)]
    · rw [List.getElem?_eq_none (by rw [← size_toList]; omega), bt_out h]
      constructor
      · intro q; cases q
      · intro q; omega
  rw [key, Bool.eq_iff_iff, decide_eq_true_iff, decide_eq_true_iff, hg 0, hg 1, hg 2]
  rfl
theorem broken_iff {s : ByteArray} {p : Nat} (h : p < s.size) : ((((Utf8.decode s p).1 : Int) == 65533) && !Lib.hasPrefix (s.extract p s.size).data.toList [239, 191, 189]) = decide (letN s p = 0) := by
  rw [pre_iff]
  rcases decode_let s p h with ⟨q1, q2, _⟩ | ⟨r, q1, q2, _, q4, q5, _⟩
  · rw [q2, decide_eq_true q1]
    have : ¬ (bt s p = 239 ∧ bt s (p + 1) = 191 ∧ bt s (p + 2) = 189) := by
      rintro ⟨h1, h2, h3⟩
      unfold letN at q1
      rw [if_neg (by omega), if_neg (by omega), if_pos (by omega)] at q1
      have c1 : contB s (p + 1) = true := decide_eq_true (by omega)
      have c2 : contB s (p + 2) = true := decide_eq_true (by omega)
      have cv : okV 2048 (v3 s p) = true := by unfold v3; rw [h1, h2, h3]; decide
      rw [if_pos ⟨c1, c2, cv⟩] at q1
      omega
    rw [decide_eq_false this]
    rfl
  · rw [q2, decide_eq_false (show ¬ letN s p = 0 by omega)]
    by_cases hr : r = 65533
    · subst hr
      have e : Lib.encodeRuneZ ((65533 : Nat) : Int) = [239, 191, 189] := by decide
      rw [e] at q5
      have hl : letN s p = 3 := by
        have := congrArg List.length q5
        simpa [nums] using this.symm
      rw [hl] at q5
      unfold nums at q5
      simp [List.range_succ] at q5
      rw [decide_eq_true (show bt s p = 239 ∧ bt s (p + 1) = 191 ∧ bt s (p + 2) = 189 from ⟨q5.1.symm, q5.2.1.symm, q5.2.2.symm⟩)]
      rfl
    · have : (((r : Nat) : Int) == 65533) = false := by rw [beq_eq_false_iff_ne]; omega
      rw [this]
      rfl
end Go.Proofs.YtmchanddfodhaaaDoor
