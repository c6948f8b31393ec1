/-
  Promise E1: a text is a name just if it is one token, a name, and all of it.
  Promise E3: tokens stand in the text as they are told, one behind the other.
  Promise E3: what a text begins with hangs on the token's own bytes alone, where a blank or nothing is behind them.
  Promise F4: the tokens of a text that is printed: texts that are one token each, each with its blank.
  Promise F4: which texts that are printed are one token each.
  Promise F4: numbers that are printed are read as what they were.
  Promise F4: the number and the money that is printed is one token.
  Promise F4: the number and the money that is printed is one token, with its value.
  Promise F4: the tokens of an expression that is printed.
  Promise F4: each token of an expression that is printed is one by itself.
-/
import Derived.Test.YtchiifnciijagaaGreatDoorJU
import Derived.Test.YtchiifnciijagaaGreatDoorJA
import Derived.Test.YtchiifnciijagaaGreatDoorRM
import Derived.Lib.AtoiTie
import Derived.Lib.ItoaNum
import Derived.Test.YtchiifnciijagaaGreatDoorRE
namespace Go.Proofs.YtchiifnciijagaaGreatDoor
open Go.RowKit

instance decNameT (s : ByteArray) : Decidable (NameP s) := by unfold NameP; infer_instance
theorem bytes_inj {s t : ByteArray} (h : s.toList = t.toList) : s = t := by
  rw [ByteArray.toList_eq, ByteArray.toList_eq] at h
  exact ByteArray.ext (Array.toList_inj.1 h)
theorem extract_all (s : ByteArray) : s.extract 0 s.size = s := by
  apply ByteArray.ext
  simp
theorem first_name {s : ByteArray} (h : NameP s) : firstO s = .tok 1 s.size 0 false := by
  obtain ⟨h1, h2, h3, h4⟩ := h
  have hn : spanN letB s = s.size := ((span_all (spanN_is letB s)).2 h3)
  unfold firstO
  rw [if_pos (by omega), hn]
  unfold wordO
  rw [if_neg (by omega), extract_all, h4]
  rfl
theorem name_first {s : ByteArray} {v : Int} {p : Bool} (h : firstO s = .tok 1 s.size v p) (h0 : 0 < s.size) : NameP s := by
  unfold firstO at h
  split at h
  · rename_i hl
    unfold wordO at h
    split at h
    · cases h
    · rename_i h8
      split at h
      · injection h with e _
        cases e
      · rename_i hw
        injection h with _ e
        have hsp := spanN_is letB s
        rw [e] at hsp hw h8
        rw [extract_all] at hw
        exact ⟨by omega, by omega, hsp.2.1, by simpa using hw⟩
  · split at h
    · unfold numO at h
      split at h
      · split at h
        · cases h
        · split at h
          · cases h
          · split at h
            · injection h with e _
              cases e
            · split at h
              · cases h
              · split at h
                · injection h with e _
                  cases e
                · cases h
      · cases h
    · unfold signO at h
      split at h
      · injection h with e _
        cases e
      · split at h
        · injection h with e _
          cases e
        · cases h
theorem name_byte {s : ByteArray} (h : NameP s) : blkB (bt s 0) = false ∧ bt s 0 ≠ 35 := by
  have := of_decide_eq_true (h.2.2.1 0 (by have := h.1; omega))
  exact ⟨decide_eq_false (by omega), by omega⟩
theorem toks_name {s : ByteArray} (hN : NameP s) {a : Nat} {L : List Tk} (h : Toks s a L) : (a = 0 ∧ L = []) ∨ (a = s.size ∧ L = [⟨1, s, 0, false, 0⟩]) := by
  induction h with
  | start a h ha => exact .inl ⟨gap_none h (name_byte hN).1 (name_byte hN).2, rfl⟩
  | step a L k n v p m h ha hf hm hms ih =>
    rcases ih with ⟨rfl, rfl⟩ | ⟨rfl, _⟩
    · rw [extract_all, first_name hN] at hf
      injection hf with e1 e2 e3 e4
      subst e1 e2 e3 e4
      refine .inr ⟨by omega, ?_⟩
      rw [extract_all, extract_all]
      rfl
    · omega
theorem toks_one {s : ByteArray} {t : Tk} (h0 : 0 < s.size) (hk : t.k = 1) (ht : t.txt = s) {a : Nat} {L : List Tk} (h : Toks s a L) (hL : L = [t]) : NameP s := by
  cases h with
  | start => cases hL
  | step a L k n v p m h ha hf hm hms =>
    have hl : L = [] := by
      have := congrArg List.length hL
      simp at this
      exact this
    subst hl
    injection hL with e
    subst e
    simp only at hk ht
    subst hk
    have hn := first_len (s := s.extract a s.size) (by rw [ByteArray.size_extract]; omega) hf
    have hz := congrArg ByteArray.size ht
    rw [ByteArray.size_extract, ByteArray.size_extract] at hz
    rw [ByteArray.size_extract] at hn
    obtain rfl : a = 0 := by omega
    rw [extract_all] at hf
    obtain rfl : n = s.size := by omega
    exact name_first hf h0
theorem bad_err {s : ByteArray} {e : Int} {o : Nat} (h : firstO s = .bad e o) : (e = 1 ∨ e = 3) ∧ (0 < s.size → o ≤ s.size) := by
  unfold firstO at h
  split at h
  · unfold wordO at h
    split at h
    · injection h with e1 e2; omega
    · split at h <;> cases h
  · split at h
    · have hs := (spanN_is digB s).1
      unfold numO at h
      split at h
      · split at h
        · injection h with e1 e2; omega
        · split at h
          · injection h with e1 e2; omega
          · split at h
            · cases h
            · split at h
              · injection h with e1 e2; omega
              · split at h
                · cases h
                · injection h with e1 e2; omega
      · injection h with e1 e2; omega
    · unfold signO at h
      split at h
      · cases h
      · split at h
        · cases h
        · injection h with e1 e2; omega
end Go.Proofs.YtchiifnciijagaaGreatDoor
namespace Go.Proofs.YtchiifnciijagaaGreatDoor
open Go.RowKit

theorem extract_from (s : ByteArray) (a n : Nat) (h : a + n ≤ s.size) : (s.extract a s.size).extract 0 n = s.extract a (a + n) := by
  apply ByteArray.ext
  simp only [ByteArray.data_extract, Array.extract_extract]
  congr 1
  omega
/-- A token stands in the text, from a place on. -/
def Stands (s : ByteArray) (a : Nat) (t : Tk) : Prop := ∃ p n : Nat, t.pos = (p : Int) ∧ a ≤ p ∧ 1 ≤ n ∧ p + n ≤ s.size ∧ t.txt = s.extract p (p + n) ∧ t.txt.size = n
/-- Where a list of tokens ends. -/
def endOf (L : List Tk) (j : Nat) : Nat := if j = 0 then 0 else (tkth L (j - 1)).pos.toNat + (tkth L (j - 1)).txt.size
theorem tkth_app_lt {L M : List Tk} {j : Nat} (h : j < L.length) : tkth (L ++ M) j = tkth L j := by
  unfold tkth
  rw [List.getD_eq_getElem?_getD, List.getD_eq_getElem?_getD, List.getElem?_append_left h]
theorem tkth_app_at {L : List Tk} {t : Tk} : tkth (L ++ [t]) L.length = t := by
  unfold tkth
  rw [List.getD_eq_getElem?_getD, List.getElem?_append_right (Nat.le_refl _)]
  simp
theorem toks_stand {s : ByteArray} {a : Nat} {L : List Tk} (h : Toks s a L) : endOf L L.length ≤ a ∧ ∀ j, j < L.length → Stands s (endOf L j) (tkth L j) := by
  induction h with
  | start a h ha => exact ⟨by simp [endOf], fun j hj => absurd hj (by simp)⟩
  | step a L k n v p m h ha hf hm hms ih =>
    have hn := first_len (s := s.extract a s.size) (by rw [ByteArray.size_extract]; omega) hf
    rw [ByteArray.size_extract] at hn
    have hsz : ((s.extract a s.size).extract 0 n).size = n := by rw [ByteArray.size_extract, ByteArray.size_extract]; omega
    have hle := h.le
    refine ⟨?_, fun j hj => ?_⟩
    · rw [List.length_append]
      simp only [List.length_cons, List.length_nil, endOf]
      rw [if_neg (by omega), show L.length + (0 + 1) - 1 = L.length by omega, tkth_app_at]
      simp only [hsz]
      omega
    · rw [List.length_append] at hj
      simp only [List.length_cons, List.length_nil] at hj
      by_cases hj' : j < L.length
      · have e1 : endOf (L ++ [⟨k, (s.extract a s.size).extract 0 n, v, p, a⟩]) j = endOf L j := by
          unfold endOf
          by_cases h0 : j = 0
          · rw [if_pos h0, if_pos h0]
          · rw [if_neg h0, if_neg h0, tkth_app_lt (by omega)]
        rw [e1, tkth_app_lt hj']
        exact ih.2 j hj'
      · obtain rfl : j = L.length := by omega
        have e1 : endOf (L ++ [⟨k, (s.extract a s.size).extract 0 n, v, p, a⟩]) L.length = endOf L L.length := by
          unfold endOf
          by_cases h0 : L.length = 0
          · rw [if_pos h0, if_pos h0]
          · rw [if_neg h0, if_neg h0, tkth_app_lt (by omega)]
        rw [e1, tkth_app_at]
        exact ⟨a, n, rfl, ih.1, hn.1, by omega, extract_from s a n (by omega), hsz⟩
end Go.Proofs.YtchiifnciijagaaGreatDoor
namespace Go.Proofs.YtchiifnciijagaaGreatDoor
open Go.RowKit

theorem ext_bt {s t : ByteArray} (h : s.size = t.size) (hb : ∀ i, i < s.size → bt s i = bt t i) : s = t := by
  apply ByteArray.ext
  apply Array.ext h
  intro i h1 h2
  have := hb i h1
  rw [bt_in h1, bt_in (show i < t.size from h2)] at this
  exact UInt8.toNat_inj.1 (by have e : (s[i]'h1).toNat = (t[i]'h2).toNat := by omega
                              exact e)
theorem extract_same {u u' : ByteArray} {n : Nat} (h : n ≤ u.size) (h' : n ≤ u'.size) (hb : ∀ i, i < n → bt u' i = bt u i) : u'.extract 0 n = u.extract 0 n := by
  refine ext_bt (by rw [ByteArray.size_extract, ByteArray.size_extract]; omega) fun i hi => ?_
  rw [ByteArray.size_extract] at hi
  rw [bt_extract u' 0 n i h' (by omega), bt_extract u 0 n i h (by omega), Nat.zero_add]
  exact hb i (by omega)
theorem prefix_two (l : List UInt8) : Lib.hasPrefix l [60, 61] = true ↔ ∃ r, l = 60 :: 61 :: r := by
  constructor
  · intro h
    match l with
    | [] => simp [Lib.hasPrefix, List.isPrefixOf] at h
    | [a] => simp [Lib.hasPrefix, List.isPrefixOf] at h
    | a :: b :: r =>
      simp [Lib.hasPrefix, List.isPrefixOf] at h
      exact ⟨r, by rw [← h.1, ← h.2]⟩
  · rintro ⟨r, rfl⟩
    simp [Lib.hasPrefix, List.isPrefixOf]
theorem bt_list {s : ByteArray} {l : List UInt8} (h : s.data.toList = l) (j : Nat) : bt s j = match l[j]? with | some c => (c.toNat : Int) | none => -1 := by
  subst h
  by_cases hj : j < s.size
  · rw [bt_in hj, List.getElem?_eq_getElem (by rw [← size_toL]; exact hj)]
    rfl
  · rw [bt_out hj, List.getElem?_eq_none (by rw [← size_toL]; omega)]
theorem long_bt (s : ByteArray) : longB s = true ↔ bt s 0 = 60 ∧ bt s 1 = 61 := by
  unfold longB
  rw [prefix_two]
  constructor
  · rintro ⟨r, h⟩
    rw [bt_list h 0, bt_list h 1]
    exact ⟨rfl, rfl⟩
  · rintro ⟨h0, h1⟩
    match h : s.data.toList with
    | [] =>
      rw [bt_list h 0] at h0
      simp at h0
    | [a] =>
      rw [bt_list h 1] at h1
      simp at h1
    | a :: b :: r =>
      rw [bt_list h 0] at h0
      rw [bt_list h 1] at h1
      simp at h0 h1
      refine ⟨r, ?_⟩
      have e0 : a = 60 := UInt8.toNat_inj.1 (by have : a.toNat = 60 := by omega
                                                rw [this]; rfl)
      have e1 : b = 61 := UInt8.toNat_inj.1 (by have : b.toNat = 61 := by omega
                                                rw [this]; rfl)
      rw [e0, e1]
theorem span_zero {P : Int → Bool} {s : ByteArray} (h : ¬ 0 < spanN P s) (h0 : 0 < s.size) : P (bt s 0) = false := by
  have := (spanN_is P s).2.2
  rw [show spanN P s = 0 by omega] at this
  exact this h0
theorem span_none {P : Int → Bool} {s : ByteArray} (h : P (bt s 0) = false) : spanN P s = 0 :=
  (spanN_eq (n := 0) ⟨Nat.zero_le _, fun k hk => absurd hk (by omega), fun _ => h⟩).symm
/-- The byte with which a token begins is no blank, and begins no remark. -/
theorem first_byte {u : ByteArray} {k : Int} {n : Nat} {v : Int} {p : Bool} (hf : firstO u = .tok k n v p) : blkB (bt u 0) = false ∧ bt u 0 ≠ 35 := by
  unfold firstO at hf
  split at hf
  · rename_i hl
    have := of_decide_eq_true ((spanN_is letB u).2.1 0 hl)
    exact ⟨decide_eq_false (by omega), by omega⟩
  · split at hf
    · rename_i hd
      have := of_decide_eq_true ((spanN_is digB u).2.1 0 hd)
      exact ⟨decide_eq_false (by omega), by omega⟩
    · unfold signO at hf
      split at hf
      · rename_i hl
        have := ((long_bt u).1 hl).1
        exact ⟨decide_eq_false (by omega), by omega⟩
      · split at hf
        · rename_i hs
          have key : ∀ c : Int, signB c = false → bt u 0 ≠ c := fun c hc e => by rw [e, hc] at hs; cases hs
          have k1 := key 32 (by decide)
          have k2 := key 9 (by decide)
          have k3 := key 10 (by decide)
          exact ⟨decide_eq_false (by omega), key 35 (by decide)⟩
        · cases hf
theorem same_first {u u' : ByteArray} {k : Int} {n : Nat} {v : Int} {p : Bool} (h0 : 0 < u.size) (hf : firstO u = .tok k n v p) (hn' : n ≤ u'.size) (hb : ∀ i, i < n → bt u' i = bt u i) (he : bt u' n = 32 ∨ bt u' n = -1) : firstO u' = .tok k n v p := by
  have hlen := first_len h0 hf
  have hb0 := hb 0 (by omega)
  have hex := extract_same hlen.2 hn' hb
  have hend : letB (bt u' n) = false ∧ digB (bt u' n) = false ∧ bt u' n ≠ 46 ∧ bt u' n ≠ 61 := by
    rcases he with e | e <;> rw [e] <;> decide
  unfold firstO at hf ⊢
  split at hf
  · rename_i hl
    have hs := spanN_is letB u
    generalize spanN letB u = m at *
    unfold wordO at hf
    split at hf
    · cases hf
    · rename_i h8
      have hm : m = n := by split at hf <;> (injection hf with _ e)
      subst hm
      have e : spanN letB u' = m := (spanN_eq ⟨hn', fun i hi => by rw [hb i hi]; exact hs.2.1 i hi, fun _ => hend.1⟩).symm
      rw [e, if_pos hl]
      unfold wordO
      rw [if_neg h8, hex]
      exact hf
  · rename_i hl
    have hl0 := span_zero hl h0
    have el : spanN letB u' = 0 := span_none (by rw [hb0]; exact hl0)
    rw [el, if_neg (by omega)]
    split at hf
    · rename_i hd
      have hs := spanN_is digB u
      generalize spanN digB u = m at *
      have hmn : m ≤ n := by
        unfold numO at hf
        split at hf
        · split at hf
          · cases hf
          · split at hf
            · cases hf
            · split at hf
              · injection hf with _ e; omega
              · split at hf
                · cases hf
                · split at hf
                  · injection hf with _ e; omega
                  · cases hf
        · cases hf
      have hexm := extract_same (u := u) (u' := u') (n := m) hs.1 (by omega) (fun i hi => hb i (by omega))
      unfold numO at hf
      split at hf
      · rename_i uu hu
        split at hf
        · cases hf
        · rename_i c1
          split at hf
          · cases hf
          · rename_i c2
            split at hf
            · rename_i c3
              obtain rfl : m = n := by injection hf with _ e
              have e : spanN digB u' = m := (spanN_eq ⟨hn', fun i hi => by rw [hb i hi]; exact hs.2.1 i hi, fun _ => hend.2.1⟩).symm
              rw [e, if_pos hd]
              unfold numO
              rw [hexm, hu]
              dsimp only
              rw [if_neg c1, hb0, if_neg c2, if_pos hend.2.2.1]
              exact hf
            · rename_i c3
              split at hf
              · cases hf
              · rename_i c4
                split at hf
                · rename_i c5
                  obtain rfl : m + 3 = n := by injection hf with _ e
                  have c3' : bt u m = 46 := by simpa using c3
                  have hbm := hb m (by omega)
                  have e : spanN digB u' = m := (spanN_eq ⟨by omega, fun i hi => by rw [hb i (by omega)]; exact hs.2.1 i hi, fun _ => by rw [hbm, c3']; decide⟩).symm
                  have hk := spanN_is digB (u.extract (m + 1) u.size)
                  have d1 := hk.2.1 0 (by omega)
                  have d2 := hk.2.1 1 (by omega)
                  rw [bt_suffix] at d1 d2
                  have c4' : ¬ spanN digB (u'.extract (m + 1) u'.size) < 2 := fun hlt => by
                    have hk' := spanN_is digB (u'.extract (m + 1) u'.size)
                    have hsz : (u'.extract (m + 1) u'.size).size = u'.size - (m + 1) := by rw [ByteArray.size_extract]; omega
                    have hP := hk'.2.2 (by rw [hsz]; omega)
                    rw [bt_suffix] at hP
                    rcases (show spanN digB (u'.extract (m + 1) u'.size) = 0 ∨ spanN digB (u'.extract (m + 1) u'.size) = 1 by omega) with e0 | e0
                    · rw [e0, hb _ (by omega), d1] at hP
                      cases hP
                    · rw [e0, hb _ (by omega), d2] at hP
                      cases hP
                  rw [e, if_pos hd]
                  unfold numO
                  rw [hexm, hu]
                  dsimp only
                  rw [if_neg c1, hb0, if_neg c2, hbm, if_neg c3, if_neg c4', hb (m + 1) (by omega), hb (m + 2) (by omega), if_pos c5]
                  exact hf
                · cases hf
      · cases hf
    · rename_i hd
      have hd0 := span_zero hd h0
      have ed : spanN digB u' = 0 := span_none (by rw [hb0]; exact hd0)
      rw [ed, if_neg (by omega)]
      unfold signO at hf ⊢
      split at hf
      · rename_i hg
        obtain rfl : 2 = n := by injection hf with _ e
        have hg' := (long_bt u).1 hg
        have : longB u' = true := (long_bt u').2 ⟨by rw [hb0]; exact hg'.1, by rw [hb 1 (by omega)]; exact hg'.2⟩
        rw [if_pos this]
        exact hf
      · split at hf
        · rename_i hg hsg
          obtain rfl : 1 = n := by injection hf with _ e
          have : ¬ longB u' = true := fun h => hend.2.2.2 ((long_bt u').1 h).2
          rw [if_neg this, hb0, if_pos hsg]
          exact hf
        · cases hf
/-- A blank, and then no blank. -/
theorem gap_one {s : ByteArray} {m : Nat} (h : GapAt s 0 m) (h0 : bt s 0 = 32) (h1 : blkB (bt s 1) = false) (h2 : bt s 1 ≠ 35) (hs : 1 ≤ s.size) : m = 1 := by
  have key : ∀ k, SpanAt blkB s 0 k → k = 1 := fun k hk => by
    by_cases e0 : k = 0
    · subst e0
      have := hk.2.2 (by omega)
      simp only [Nat.add_zero, h0] at this
      exact absurd this (by decide)
    · by_cases e1 : 1 < k
      · have := hk.2.1 1 e1
        rw [Nat.zero_add, h1] at this
        cases this
      · omega
  cases h with
  | stop _ k hsp hn =>
    have := key k hsp
    omega
  | more _ k m _ hsp hn hm hr =>
    obtain rfl := key k hsp
    rw [Nat.zero_add] at hn
    exact absurd hn h2
end Go.Proofs.YtchiifnciijagaaGreatDoor
set_option linter.unusedSimpArgs false
namespace Go.Proofs.YtchiifnciijagaaGreatDoor
open Go.RowKit

/-- The next token, and one blank behind it. -/
theorem toks_next {S : ByteArray} {a : Nat} {L : List Tk} (hT : Toks S a L) {t : ByteArray} {k v : Int} {p : Bool} (hf : firstO t = .tok k t.size v p) (h0 : 0 < t.size) (ha : a + t.size + 1 ≤ S.size) (hb : ∀ i, i < t.size → bt S (a + i) = bt t i) (hs : bt S (a + t.size) = 32) (h1 : blkB (bt S (a + t.size + 1)) = false) (h2 : bt S (a + t.size + 1) ≠ 35) :
    Toks S (a + t.size + 1) (L ++ [⟨k, t, v, p, a⟩]) := by
  have hb' : ∀ i, i < t.size → bt (S.extract a S.size) i = bt t i := fun i hi => by rw [bt_suffix]; exact hb i hi
  have hz : t.size ≤ (S.extract a S.size).size := by rw [ByteArray.size_extract]; omega
  have e1 : firstO (S.extract a S.size) = .tok k t.size v p := same_first h0 hf hz hb' (.inl (by rw [bt_suffix]; exact hs))
  have e2 : (S.extract a S.size).extract 0 t.size = t := (extract_same (Nat.le_refl _) hz hb').trans (extract_all t)
  have hg : GapAt (S.extract (a + t.size) S.size) 0 (0 + 1) := by
    refine GapAt.stop 0 1 ⟨by rw [ByteArray.size_extract]; omega, fun j hj => ?_, fun _ => by rw [bt_suffix]; exact h1⟩ (by rw [bt_suffix]; exact h2)
    have : j = 0 := by omega
    subst this
    rw [bt_suffix]
    simp only [Nat.add_zero, hs]
    decide
  have := Toks.step a L k t.size v p 1 hT (by omega) e1 hg (by omega)
  rwa [e2] at this
/-- A token that is not placed yet: it is all of its own text. -/
def OneT (x : Tk) : Prop := firstO x.txt = .tok x.k x.txt.size x.num x.pt ∧ 0 < x.txt.size
/-- Tokens placed one behind another, a blank behind each. -/
def layT (a : Nat) : List Tk → List Tk
  | [] => []
  | x :: r => ⟨x.k, x.txt, x.num, x.pt, a⟩ :: layT (a + x.txt.size + 1) r
def nthB (l : List UInt8) (j : Nat) : Int := match l[j]? with | some c => (c.toNat : Int) | none => -1
theorem bt_drop {S : ByteArray} {a : Nat} {l : List UInt8} (h : S.data.toList.drop a = l) (i : Nat) : bt S (a + i) = nthB l i := by
  rw [bt_list rfl (a + i), nthB, ← h, List.getElem?_drop]
  all_goals (cases S.data.toList[a + i]? <;> rfl)
theorem nthB_app {l r : List UInt8} {i : Nat} (h : i < l.length) : nthB (l ++ r) i = nthB l i := by unfold nthB; rw [List.getElem?_append_left h]
theorem nthB_skip (l r : List UInt8) (i : Nat) : nthB (l ++ r) (l.length + i) = nthB r i := by
  unfold nthB
  rw [List.getElem?_append_right (by omega), Nat.add_sub_cancel_left]
theorem nthB_txt (t : ByteArray) (i : Nat) : nthB t.data.toList i = bt t i := (bt_list rfl i).symm
theorem toks_list {S : ByteArray} : ∀ (ts : List Tk) (a : Nat) (L : List Tk) (r : List UInt8), Toks S a L → (∀ x ∈ ts, OneT x) → S.data.toList.drop a = tksL (ts.map Tk.txt) ++ r → blkB (nthB r 0) = false → nthB r 0 ≠ 35 →
    Toks S (a + (tksL (ts.map Tk.txt)).length) (L ++ layT a ts)
  | [], a, L, r, hT, _, _, _, _ => by simpa [tksL, layT] using hT
  | x :: ts, a, L, r, hT, ho, hd, h1, h2 => by
    obtain ⟨hf, h0⟩ := ho x (by simp)
    have hss : x.txt.data.toList.length = x.txt.size := Array.length_toList
    have e : tksL ((x :: ts).map Tk.txt) ++ r = x.txt.data.toList ++ ([32] ++ (tksL (ts.map Tk.txt) ++ r)) := by simp [tksL, tkL]
    rw [e] at hd
    have hlen : S.size - a = x.txt.size + 1 + (tksL (ts.map Tk.txt) ++ r).length := by
      have := congrArg List.length hd
      rw [List.length_drop, List.length_append, List.length_append, hss] at this
      have hS : S.data.toList.length = S.size := Array.length_toList
      rw [hS] at this
      simp only [List.length_cons, List.length_nil] at this
      omega
    have hnx : blkB (nthB (tksL (ts.map Tk.txt) ++ r) 0) = false ∧ nthB (tksL (ts.map Tk.txt) ++ r) 0 ≠ 35 := by
      cases ts with
      | nil => exact ⟨h1, h2⟩
      | cons y q =>
        obtain ⟨gf, g0⟩ := ho y (by simp)
        have gy : y.txt.data.toList.length = y.txt.size := Array.length_toList
        have e' : tksL ((y :: q).map Tk.txt) ++ r = y.txt.data.toList ++ ([32] ++ (tksL (q.map Tk.txt) ++ r)) := by simp [tksL, tkL]
        rw [e', nthB_app (by omega), nthB_txt]
        exact first_byte gf
    have key := toks_next hT hf h0 (by omega) (fun i hi => by rw [bt_drop hd, nthB_app (by omega), nthB_txt]) (by rw [bt_drop hd, ← hss, ← Nat.add_zero x.txt.data.toList.length, nthB_skip]; rfl)
      (by rw [Nat.add_assoc, bt_drop hd, ← hss, nthB_skip, ← Nat.add_zero 1]; exact (congrArg blkB (nthB_skip [32] _ 0)).trans hnx.1)
      (by rw [Nat.add_assoc, bt_drop hd, ← hss, nthB_skip, ← Nat.add_zero 1]; exact fun h => hnx.2 ((nthB_skip [32] _ 0).symm.trans h))
    have hd' : S.data.toList.drop (a + x.txt.size + 1) = tksL (ts.map Tk.txt) ++ r := by
      rw [Nat.add_assoc, ← List.drop_drop, hd, ← hss]
      rw [List.drop_append, List.drop_of_length_le (by omega)]
      simp
    have := toks_list ts (a + x.txt.size + 1) _ r key (fun y hy => ho y (by simp [hy])) hd' h1 h2
    rw [List.append_assoc] at this
    have hl : (tksL ((x :: ts).map Tk.txt)).length = x.txt.size + 1 + (tksL (ts.map Tk.txt)).length := by simp [tksL, tkL, hss]; omega
    rw [hl, ← Nat.add_assoc, ← Nat.add_assoc]
    exact this
end Go.Proofs.YtchiifnciijagaaGreatDoor
set_option linter.unusedSimpArgs false
namespace Go.Proofs.YtchiifnciijagaaGreatDoor
open Go.RowKit

theorem first_semi {u : ByteArray} (h : bt u 0 = 59) : firstO u = .tok 3 1 0 false := by
  have h1 : spanN letB u = 0 := span_none (by rw [h]; decide)
  have h2 : spanN digB u = 0 := span_none (by rw [h]; decide)
  have h3 : longB u = false := by
    cases hl : longB u with
    | false => rfl
    | true => rw [(long_bt u).1 hl |>.1] at h; cases h
  have h4 : signB (bt u 0) = true := by rw [h]; decide
  unfold firstO signO
  rw [h1, h2, h3, h4]
  rfl
/-- The end of a line: ';', and the line feed behind it. -/
theorem toks_semi {S : ByteArray} {a : Nat} {L : List Tk} (hT : Toks S a L) {r : List UInt8} (hd : S.data.toList.drop a = [59, 10] ++ r) (h1 : blkB (nthB r 0) = false) (h2 : nthB r 0 ≠ 35) : Toks S (a + 2) (L ++ [⟨3, ⟨#[59]⟩, 0, false, a⟩]) := by
  have hlen : S.size - a = 2 + r.length := by
    have := congrArg List.length hd
    rw [List.length_drop, List.length_append] at this
    have hS : S.data.toList.length = S.size := Array.length_toList
    rw [hS] at this
    simpa using this
  have b0 : bt S a = 59 := (bt_drop hd 0).trans rfl
  have b1 : bt S (a + 1) = 10 := (bt_drop hd 1).trans rfl
  have b2 : bt S (a + 2) = nthB r 0 := (bt_drop hd 2).trans (nthB_skip [59, 10] r 0)
  have hf : firstO (S.extract a S.size) = .tok 3 1 0 false := first_semi (by rw [bt_suffix]; exact b0)
  have e2 : (S.extract a S.size).extract 0 1 = ⟨#[59]⟩ := by
    have hz : 1 ≤ (S.extract a S.size).size := by rw [ByteArray.size_extract]; omega
    refine (extract_same (u := ⟨#[59]⟩) (n := 1) (Nat.le_refl _) hz fun i hi => ?_).trans (extract_all ⟨#[59]⟩)
    have : i = 0 := by omega
    subst this
    rw [bt_suffix]
    exact b0
  have hg : GapAt (S.extract (a + 1) S.size) 0 (0 + 1) := by
    refine GapAt.stop 0 1 ⟨by rw [ByteArray.size_extract]; omega, fun j hj => ?_, fun _ => by rw [bt_suffix]; exact (congrArg blkB b2).trans h1⟩ (by rw [bt_suffix]; exact fun h => h2 (b2.symm.trans h))
    have : j = 0 := by omega
    subst this
    rw [bt_suffix]
    exact (congrArg blkB b1).trans rfl
  have := Toks.step a L 3 1 0 false 1 hT (by omega) hf hg (by omega)
  rwa [e2] at this
theorem one_name {s : ByteArray} (h : NameP s) : OneT ⟨1, s, 0, false, 0⟩ := ⟨first_name h, h.1⟩
end Go.Proofs.YtchiifnciijagaaGreatDoor
set_option linter.unusedSimpArgs false
namespace Go.Proofs.YtchiifnciijagaaGreatDoor
open Go.RowKit

theorem decFrom_snoc : ∀ (l : List UInt8) (a m : Nat) (c : UInt8), Lib.decFrom a l = some m → 48 ≤ c.toNat ∧ c.toNat ≤ 57 → Lib.decFrom a (l ++ [c]) = some (m * 10 + (c.toNat - 48))
  | [], a, m, c, h, hc => by
    simp only [Lib.decFrom, Option.some.injEq] at h
    subst h
    simp [Lib.decFrom, Lib.digitVal, hc]
  | b :: r, a, m, c, h, hc => by
    rw [List.cons_append]
    unfold Lib.decFrom at h ⊢
    split at h
    · exact decFrom_snoc r _ m c h hc
    · cases h
theorem dgt_nat {n : Nat} (h : n < 10) : (UInt8.ofNat (48 + n)).toNat = 48 + n := by rw [UInt8.toNat_ofNat']; omega
theorem decFrom_dec (u : Nat) : Lib.decFrom 0 (Lib.decDigits u) = some u ∧ (Lib.decDigits u) ≠ [] := by
  induction u using Nat.strongRecOn with
  | _ u ih =>
    by_cases h : u < 10
    · rw [Lib.decDigits_one h]
      refine ⟨?_, by simp⟩
      have := decFrom_snoc [] 0 0 (UInt8.ofNat (48 + u)) rfl (by rw [dgt_nat h]; omega)
      rw [dgt_nat h] at this
      rw [List.nil_append] at this
      rw [this]
      congr 1
      omega
    · have e : Lib.decDigits u = Lib.decDigits (u / 10) ++ [UInt8.ofNat (48 + u % 10)] := by rw [Lib.decDigits, dif_neg h]
      obtain ⟨i1, _⟩ := ih (u / 10) (by omega)
      have hm : u % 10 < 10 := by omega
      have := decFrom_snoc _ 0 _ (UInt8.ofNat (48 + u % 10)) i1 (by rw [dgt_nat hm]; omega)
      rw [dgt_nat hm] at this
      rw [e]
      refine ⟨this.trans ?_, by simp⟩
      congr 1
      omega
theorem dec_len : ∀ (k u : Nat), u < 10 ^ (k + 1) → (Lib.decDigits u).length ≤ k + 1
  | 0, u, h => by rw [Lib.decDigits_one (by omega)]; simp
  | k + 1, u, h => by
    by_cases h0 : u < 10
    · rw [Lib.decDigits_one h0]; simp
    · rw [Lib.decDigits, dif_neg h0, List.length_append]
      have := dec_len k (u / 10) (by rw [Nat.pow_succ] at h; omega)
      simp only [List.length_cons, List.length_nil]
      omega
theorem dec_dig (u : Nat) : ∀ c ∈ Lib.decDigits u, 48 ≤ c.toNat ∧ c.toNat ≤ 57 := by
  induction u using Nat.strongRecOn with
  | _ u ih =>
    by_cases h : u < 10
    · rw [Lib.decDigits_one h]
      intro c hc
      simp only [List.mem_singleton] at hc
      rw [hc, dgt_nat h]
      omega
    · rw [Lib.decDigits, dif_neg h]
      intro c hc
      rcases List.mem_append.1 hc with hc | hc
      · exact ih (u / 10) (by omega) c hc
      · simp only [List.mem_singleton] at hc
        rw [hc, dgt_nat (by omega)]
        omega
theorem atoi_dec {u : Nat} (h : u < 10 ^ 18) : Lib.atoiAll (Lib.decDigits u) = .ok (u : Int) := by
  obtain ⟨h1, h2⟩ := decFrom_dec u
  have hd := dec_dig u
  have hl := dec_len 17 u h
  match hq : Lib.decDigits u, h2 with
  | c :: r, _ =>
    rw [hq] at h1 hd hl
    have hc := hd c (by simp)
    rw [Lib.atoiAll_plain c r (by omega) (by omega), Lib.parseMag_short _ hl]
    have e : Lib.decNat (c :: r) = some u := h1
    rw [e]
    simp only [Lib.NumEnd.ofOption, Lib.signless]
    rw [if_neg (by have : (10 : Nat) ^ 18 = 1000000000000000000 := by decide
                   omega)]
end Go.Proofs.YtchiifnciijagaaGreatDoor
set_option linter.unusedSimpArgs false
namespace Go.Proofs.YtchiifnciijagaaGreatDoor
open Go.RowKit

theorem dec_lead (u : Nat) : ∃ c r, Lib.decDigits u = c :: r ∧ (c.toNat = 48 → r = []) := by
  have key : ∀ u, ∃ c r, Lib.decDigits u = c :: r ∧ (c.toNat = 48 → u = 0 ∧ r = []) := by
    intro u
    induction u using Nat.strongRecOn with
    | _ u ih =>
      by_cases h : u < 10
      · rw [Lib.decDigits_one h]
        exact ⟨_, [], rfl, fun hc => ⟨by rw [dgt_nat h] at hc; omega, rfl⟩⟩
      · obtain ⟨c, r, e, hc⟩ := ih (u / 10) (by omega)
        refine ⟨c, r ++ [UInt8.ofNat (48 + u % 10)], by rw [Lib.decDigits, dif_neg h, e]; rfl, fun h0 => ?_⟩
        have := (hc h0).1
        omega
  obtain ⟨c, r, e, hc⟩ := key u
  exact ⟨c, r, e, fun h => (hc h).2⟩
/-- Digits of a number, and no digit behind them. -/
theorem first_dec {s : ByteArray} {u : Nat} {q : List UInt8} (hu : u ≤ 10000000000) (hs : s.data.toList = Lib.decDigits u ++ q) (hq : digB (nthB q 0) = false) : firstO s = numO s (Lib.decDigits u).length ∧ Lib.atoiAll (s.extract 0 (Lib.decDigits u).length).data.toList = .ok (u : Int) ∧ ¬ (bt s 0 = 48 ∧ 1 < (Lib.decDigits u).length) ∧ bt s (Lib.decDigits u).length = nthB q 0 := by
  have hb : ∀ j, bt s j = nthB (Lib.decDigits u ++ q) j := fun j => by rw [← hs, nthB_txt]
  have hd : ∀ j, j < (Lib.decDigits u).length → digB (bt s j) = true ∧ letB (bt s j) = false := fun j hj => by
    have hc := dec_dig u _ (List.getElem_mem hj)
    rw [hb, nthB_app hj, nthB, List.getElem?_eq_getElem hj]
    dsimp only
    generalize (Lib.decDigits u)[j] = c at *
    exact ⟨decide_eq_true (by omega), decide_eq_false (by omega)⟩
  have hsz : s.size = (Lib.decDigits u).length + q.length := by
    have : s.data.toList.length = s.size := Array.length_toList
    rw [← this, hs, List.length_append]
  obtain ⟨c, r, e, hlead⟩ := dec_lead u
  have hl0 : 0 < (Lib.decDigits u).length := by rw [e]; simp
  have hN : bt s (Lib.decDigits u).length = nthB q 0 := by
    rw [hb]
    exact nthB_skip (Lib.decDigits u) q 0
  have h1 : spanN letB s = 0 := span_none (hd 0 hl0).2
  have hsp := spanN_is digB s
  have h2 : spanN digB s = (Lib.decDigits u).length := by
    obtain ⟨p1, p2, p3⟩ := hsp
    by_cases hlt : spanN digB s < (Lib.decDigits u).length
    · have := p3 (by omega)
      rw [(hd _ hlt).1] at this
      cases this
    · by_cases hgt : (Lib.decDigits u).length < spanN digB s
      · have := p2 _ hgt
        rw [hN, hq] at this
        cases this
      · omega
  refine ⟨?_, ?_, ?_, hN⟩
  · unfold firstO
    rw [h1, h2, if_neg (by omega), if_pos hl0]
  · have ex : (s.extract 0 (Lib.decDigits u).length).data.toList = Lib.decDigits u := by
      rw [ByteArray.data_extract, Array.toList_extract, hs]
      simp
    rw [ex]
    exact atoi_dec (Nat.lt_of_le_of_lt hu (by decide))
  · rintro ⟨hz, hm⟩
    rw [hb, nthB_app hl0, e] at hz
    have : c.toNat = 48 := by simp [nthB] at hz; omega
    rw [e, hlead this] at hm
    simp at hm
end Go.Proofs.YtchiifnciijagaaGreatDoor
set_option linter.unusedSimpArgs false
namespace Go.Proofs.YtchiifnciijagaaGreatDoor
open Go.RowKit

theorem one_num {n : Int} (h0 : 0 ≤ n) (h1 : n ≤ 1000000) : OneT ⟨2, iT n, 100 * n, false, 0⟩ := by
  obtain ⟨u, rfl⟩ : ∃ u : Nat, n = (u : Int) := ⟨n.toNat, by omega⟩
  have hs : (iT (u : Int)).data.toList = Lib.decDigits u ++ [] := by rw [List.append_nil, ← Mny.itoa_nat]; rfl
  obtain ⟨e1, e2, e3, e4⟩ := first_dec (by omega) hs (by decide)
  have hz : (iT (u : Int)).size = (Lib.decDigits u).length := by
    have : (iT (u : Int)).data.toList.length = (iT (u : Int)).size := Array.length_toList
    rw [← this, hs, List.append_nil]
  have hl := (decFrom_dec u).2
  refine ⟨?_, ?_⟩
  · show firstO (iT (u : Int)) = .tok 2 (iT (u : Int)).size (100 * (u : Int)) false
    rw [e1, hz]
    unfold numO
    rw [e2]
    dsimp only
    rw [if_neg (by omega), if_neg e3, if_pos (by rw [e4]; decide)]
  · show 0 < (iT (u : Int)).size
    rw [hz]
    exact List.length_pos_iff.2 hl
theorem mdig_nat {n : Nat} (h : n < 10) : (Mny.dig n).toNat = 48 + n := dgt_nat h
theorem one_money {n : Int} (h0 : 0 ≤ n) (h1 : n ≤ 1000000000000) : OneT ⟨2, mT n, n, true, 0⟩ := by
  obtain ⟨u, rfl⟩ : ∃ u : Nat, n = (u : Int) := ⟨n.toNat, by omega⟩
  have hs : (mT (u : Int)).data.toList = Lib.decDigits (u / 100) ++ [46, Mny.dig (u / 10 % 10), Mny.dig (u % 10)] := by
    show Mny.printL (u : Int) = _
    unfold Mny.printL
    rw [if_neg (by omega)]
    simp
  obtain ⟨e1, e2, e3, e4⟩ := first_dec (u := u / 100) (by omega) hs (show digB 46 = false by decide)
  have hz : (mT (u : Int)).size = (Lib.decDigits (u / 100)).length + 3 := by
    have : (mT (u : Int)).data.toList.length = (mT (u : Int)).size := Array.length_toList
    rw [← this, hs, List.length_append]
    rfl
  generalize hm : mT (u : Int) = s at *
  generalize hD : (Lib.decDigits (u / 100)) = D at *
  have hb : ∀ j, bt s (D.length + j) = nthB [46, Mny.dig (u / 10 % 10), Mny.dig (u % 10)] j := fun j => by rw [← nthB_txt, hs, nthB_skip]
  have b1 : bt s (D.length + 1) = 48 + (u / 10 % 10 : Nat) := by
    rw [hb 1]
    show ((Mny.dig (u / 10 % 10)).toNat : Int) = _
    rw [mdig_nat (by omega)]
    omega
  have b2 : bt s (D.length + 2) = 48 + (u % 10 : Nat) := by
    rw [hb 2]
    show ((Mny.dig (u % 10)).toNat : Int) = _
    rw [mdig_nat (by omega)]
    omega
  have hsp : ¬ spanN digB (s.extract (D.length + 1) s.size) < 2 := by
    intro hlt
    obtain ⟨p1, p2, p3⟩ := spanN_is digB (s.extract (D.length + 1) s.size)
    have hq := p3 (by rw [ByteArray.size_extract]; omega)
    rw [bt_suffix] at hq
    have hc : spanN digB (s.extract (D.length + 1) s.size) = 0 ∨ spanN digB (s.extract (D.length + 1) s.size) = 1 := by omega
    rcases hc with hc | hc
    · rw [hc, Nat.add_zero, b1] at hq
      exact absurd hq (by rw [show digB (48 + (u / 10 % 10 : Nat)) = true from decide_eq_true (by omega)]; decide)
    · rw [hc, Nat.add_assoc, b2] at hq
      exact absurd hq (by rw [show digB (48 + (u % 10 : Nat)) = true from decide_eq_true (by omega)]; decide)
  have hv : 100 * ((u / 100 : Nat) : Int) + (10 * (bt s (D.length + 1) - 48) + (bt s (D.length + 2) - 48)) = (u : Int) := by rw [b1, b2]; omega
  refine ⟨?_, by show 0 < s.size; omega⟩
  show firstO s = .tok 2 s.size (u : Int) true
  rw [e1, hz]
  unfold numO
  rw [e2]
  dsimp only
  rw [if_neg (by omega), if_neg e3, if_neg (fun hn => hn (e4.trans (rfl : nthB [46, Mny.dig (u / 10 % 10), Mny.dig (u % 10)] 0 = 46))), if_neg hsp, hv, if_pos h1]
end Go.Proofs.YtchiifnciijagaaGreatDoor
set_option linter.unusedSimpArgs false
namespace Go.Proofs.YtchiifnciijagaaGreatDoor
open Go.RowKit

def kwT (l : List UInt8) : Tk := ⟨4, ⟨l.toArray⟩, 0, false, 0⟩
def sgT (l : List UInt8) : Tk := ⟨3, ⟨l.toArray⟩, 0, false, 0⟩
def wrapK (k : Int) (t : List Tk) : List Tk := if k = 7 ∨ k = 8 ∨ k = 9 ∨ k = 10 ∨ k = 13 then [sgT [40]] ++ (t ++ [sgT [41]]) else t
/-- The tokens of an expression, not placed yet. -/
def Ex.tks : Ex → List Tk
  | .no => []
  | .mk k n s _ kid =>
    if k = 1 then [⟨2, mT n, n, true, 0⟩] else if k = 2 then [⟨1, s, 0, false, 0⟩] else if k = 3 then [kwT [121, 101, 97, 114], ⟨1, s, 0, false, 0⟩]
    else if k = 4 then [⟨2, mT n, n, true, 0⟩, sgT [37], kwT [111, 102]] ++ wrapK (kid 0).k (kid 0).tks
    else if k = 5 then [kwT [116, 97, 98, 108, 101], ⟨1, s, 0, false, 0⟩, kwT [111, 102]] ++ wrapK (kid 0).k (kid 0).tks
    else if k = 6 then [sgT [45]] ++ wrapK (kid 0).k (kid 0).tks
    else if k = 7 then wrapK (kid 0).k (kid 0).tks ++ ([sgT [43]] ++ wrapK (kid 1).k (kid 1).tks)
    else if k = 8 then wrapK (kid 0).k (kid 0).tks ++ ([sgT [45]] ++ wrapK (kid 1).k (kid 1).tks)
    else if k = 9 then wrapK (kid 0).k (kid 0).tks ++ [sgT [42], ⟨2, iT n, 100 * n, false, 0⟩]
    else if k = 10 then wrapK (kid 0).k (kid 0).tks ++ [sgT [47], ⟨2, iT n, 100 * n, false, 0⟩]
    else if k = 11 then [kwT [109, 105, 110], sgT [40]] ++ ((kid 0).tks ++ ([sgT [44]] ++ ((kid 1).tks ++ [sgT [41]])))
    else if k = 12 then [kwT [109, 97, 120], sgT [40]] ++ ((kid 0).tks ++ ([sgT [44]] ++ ((kid 1).tks ++ [sgT [41]])))
    else if k = 13 then [kwT [105, 102]] ++ ((wrapK (kid 0).k (kid 0).tks ++ ([⟨3, tsW n.toNat, 0, false, 0⟩] ++ wrapK (kid 1).k (kid 1).tks)) ++ ([kwT [116, 104, 101, 110]] ++ ((kid 2).tks ++ ([kwT [101, 108, 115, 101]] ++ (kid 3).tks))))
    else []
theorem wrap_tks (k : Int) {t : List UInt8} {m : List Tk} (h : t = tksL (m.map Tk.txt)) : wrapT k t = tksL ((wrapK k m).map Tk.txt) := by
  unfold wrapT wrapK
  split
  · rw [h, List.map_append, List.map_append, tksL_append, tksL_append]; rfl
  · exact h
theorem txt_tks (x : Ex) : x.txt = tksL (x.tks.map Tk.txt) := by
  induction x with
  | no => rw [Ex.txt, Ex.tks]; rfl
  | mk k n s m kid ih =>
    have hw := fun j => wrap_tks (kid j).k (ih j)
    rw [txt_mk, Ex.tks]
    by_cases h1 : k = 1
    · subst h1; simp only [reduceIte, Int.reduceEq, List.map_append, tksL_append, hw, ← ih]; rfl
    by_cases h2 : k = 2
    · subst h2; simp only [reduceIte, Int.reduceEq, List.map_append, tksL_append, hw, ← ih]; rfl
    by_cases h3 : k = 3
    · subst h3; simp only [reduceIte, Int.reduceEq, List.map_append, tksL_append, hw, ← ih]; rfl
    by_cases h4 : k = 4
    · subst h4; simp only [reduceIte, Int.reduceEq, List.map_append, tksL_append, hw, ← ih]; rfl
    by_cases h5 : k = 5
    · subst h5; simp only [reduceIte, Int.reduceEq, List.map_append, tksL_append, hw, ← ih]; rfl
    by_cases h6 : k = 6
    · subst h6; simp only [reduceIte, Int.reduceEq, List.map_append, tksL_append, hw, ← ih]; rfl
    by_cases h7 : k = 7
    · subst h7; simp only [reduceIte, Int.reduceEq, List.map_append, tksL_append, hw, ← ih]; rfl
    by_cases h8 : k = 8
    · subst h8; simp only [reduceIte, Int.reduceEq, List.map_append, tksL_append, hw, ← ih]; rfl
    by_cases h9 : k = 9
    · subst h9; simp only [reduceIte, Int.reduceEq, List.map_append, tksL_append, hw, ← ih]; rfl
    by_cases h10 : k = 10
    · subst h10; simp only [reduceIte, Int.reduceEq, List.map_append, tksL_append, hw, ← ih]; rfl
    by_cases h11 : k = 11
    · subst h11; simp only [reduceIte, Int.reduceEq, List.map_append, tksL_append, hw, ← ih]; rfl
    by_cases h12 : k = 12
    · subst h12; simp only [reduceIte, Int.reduceEq, List.map_append, tksL_append, hw, ← ih]; rfl
    by_cases h13 : k = 13
    · subst h13; simp only [reduceIte, Int.reduceEq, List.map_append, tksL_append, hw, ← ih]; rfl
    simp only [h1, h2, h3, h4, h5, h6, h7, h8, h9, h10, h11, h12, h13, if_false, List.map_nil]
    rfl
end Go.Proofs.YtchiifnciijagaaGreatDoor
set_option linter.unusedSimpArgs false
namespace Go.Proofs.YtchiifnciijagaaGreatDoor
open Go.RowKit

theorem kw_year : OneT (kwT [121, 101, 97, 114]) := ⟨by kernel_rfl, by decide⟩
theorem kw_of : OneT (kwT [111, 102]) := ⟨by kernel_rfl, by decide⟩
theorem kw_table : OneT (kwT [116, 97, 98, 108, 101]) := ⟨by kernel_rfl, by decide⟩
theorem kw_min : OneT (kwT [109, 105, 110]) := ⟨by kernel_rfl, by decide⟩
theorem kw_max : OneT (kwT [109, 97, 120]) := ⟨by kernel_rfl, by decide⟩
theorem kw_if : OneT (kwT [105, 102]) := ⟨by kernel_rfl, by decide⟩
theorem kw_then : OneT (kwT [116, 104, 101, 110]) := ⟨by kernel_rfl, by decide⟩
theorem kw_else : OneT (kwT [101, 108, 115, 101]) := ⟨by kernel_rfl, by decide⟩
theorem kw_let : OneT (kwT [108, 101, 116]) := ⟨by kernel_rfl, by decide⟩
theorem kw_earn : OneT (kwT [101, 97, 114, 110]) := ⟨by kernel_rfl, by decide⟩
theorem kw_take : OneT (kwT [116, 97, 107, 101]) := ⟨by kernel_rfl, by decide⟩
theorem kw_tax : OneT (kwT [116, 97, 120]) := ⟨by kernel_rfl, by decide⟩
theorem sg_pct : OneT (sgT [37]) := ⟨by kernel_rfl, by decide⟩
theorem sg_minus : OneT (sgT [45]) := ⟨by kernel_rfl, by decide⟩
theorem sg_plus : OneT (sgT [43]) := ⟨by kernel_rfl, by decide⟩
theorem sg_mul : OneT (sgT [42]) := ⟨by kernel_rfl, by decide⟩
theorem sg_div : OneT (sgT [47]) := ⟨by kernel_rfl, by decide⟩
theorem sg_lpar : OneT (sgT [40]) := ⟨by kernel_rfl, by decide⟩
theorem sg_rpar : OneT (sgT [41]) := ⟨by kernel_rfl, by decide⟩
theorem sg_comma : OneT (sgT [44]) := ⟨by kernel_rfl, by decide⟩
theorem sg_eq : OneT (sgT [61]) := ⟨by kernel_rfl, by decide⟩
theorem sg_test {t : Nat} (h : 1 ≤ t ∧ t ≤ 3) : OneT ⟨3, tsW t, 0, false, 0⟩ := by
  have : t = 1 ∨ t = 2 ∨ t = 3 := by omega
  rcases this with rfl | rfl | rfl
  · exact ⟨by kernel_rfl, by decide⟩
  · exact ⟨by kernel_rfl, by decide⟩
  · exact ⟨by kernel_rfl, by decide⟩
def AllO (l : List Tk) : Prop := ∀ t ∈ l, OneT t
theorem AllO.app {a b : List Tk} (ha : AllO a) (hb : AllO b) : AllO (a ++ b) := fun t h => (List.mem_append.1 h).elim (ha t) (hb t)
theorem AllO.one {x : Tk} (h : OneT x) : AllO [x] := fun t ht => by rw [List.mem_singleton.1 ht]; exact h
theorem AllO.cons {x : Tk} {l : List Tk} (h : OneT x) (hl : AllO l) : AllO (x :: l) := AllO.app (AllO.one h) hl
theorem AllO.wrap (k : Int) {l : List Tk} (h : AllO l) : AllO (wrapK k l) := by
  unfold wrapK
  split
  · exact (AllO.one sg_lpar).app (h.app (AllO.one sg_rpar))
  · exact h
theorem own_nmQ {k n : Int} {s : ByteArray} {m : Nat} (h : ownE k n s m = 0) (hk : namedB k = true) : NameP s := by
  unfold ownE at h
  by_cases h1 : k < 1 ∨ 13 < k
  · rw [if_pos h1] at h; omega
  rw [if_neg h1] at h
  by_cases h2 : (m : Int) ≠ kidsOf k
  · rw [if_pos h2] at h; omega
  rw [if_neg h2] at h
  by_cases h3 : namedB k = true ∧ ¬ NameP s
  · rw [if_pos h3] at h; omega
  exact Classical.byContradiction fun hc => h3 ⟨hk, hc⟩
theorem tks_one : ∀ x : Ex, x.err = 0 → AllO x.tks := by
  intro x
  induction x with
  | no => intro _ t ht; rw [Ex.tks] at ht; cases ht
  | mk k n s m kid ih =>
    intro he
    have he' := he
    rw [err_mk] at he'
    have how : ownE k n s m = 0 := Classical.byContradiction fun hc => by rw [if_neg hc] at he'; exact hc he'
    have hnm := fun hk => one_name (own_nmQ how hk)
    obtain ⟨⟨hk1, hk13, hm, hn0, hn1⟩, hkd⟩ := mk_okP he
    have hi : ∀ j, j < m → AllO (kid j).tks := fun j hj => ih j (hkd j hj)
    have hw : ∀ j, j < m → AllO (wrapK (kid j).k (kid j).tks) := fun j hj => (hi j hj).wrap _
    rw [Ex.tks]
    have hc : k = 1 ∨ k = 2 ∨ k = 3 ∨ k = 4 ∨ k = 5 ∨ k = 6 ∨ k = 7 ∨ k = 8 ∨ k = 9 ∨ k = 10 ∨ k = 11 ∨ k = 12 ∨ k = 13 := by omega
    clear he he' how ih hkd
    rcases hc with rfl | rfl | rfl | rfl | rfl | rfl | rfl | rfl | rfl | rfl | rfl | rfl | rfl
    · simp [leastOf, mostOf] at hn0 hn1
      simp only [reduceIte, Int.reduceEq]
      exact (AllO.one (one_money (by omega) (by omega)))
    · simp [leastOf, mostOf] at hn0 hn1
      simp only [reduceIte, Int.reduceEq]
      exact (AllO.one (hnm rfl))
    · simp [leastOf, mostOf] at hn0 hn1
      simp only [reduceIte, Int.reduceEq]
      exact (AllO.cons (kw_year) (AllO.one (hnm rfl)))
    · have hm' : m = 1 := by simp [kidsOf] at hm; omega
      simp [leastOf, mostOf] at hn0 hn1
      simp only [reduceIte, Int.reduceEq]
      exact (AllO.cons (one_money (by omega) (by omega)) (AllO.cons (sg_pct) (AllO.one (kw_of)))).app (hw 0 (by omega))
    · have hm' : m = 1 := by simp [kidsOf] at hm; omega
      simp [leastOf, mostOf] at hn0 hn1
      simp only [reduceIte, Int.reduceEq]
      exact (AllO.cons (kw_table) (AllO.cons (hnm rfl) (AllO.one (kw_of)))).app (hw 0 (by omega))
    · have hm' : m = 1 := by simp [kidsOf] at hm; omega
      simp [leastOf, mostOf] at hn0 hn1
      simp only [reduceIte, Int.reduceEq]
      exact (AllO.one (sg_minus)).app (hw 0 (by omega))
    · have hm' : m = 2 := by simp [kidsOf] at hm; omega
      simp [leastOf, mostOf] at hn0 hn1
      simp only [reduceIte, Int.reduceEq]
      exact (hw 0 (by omega)).app ((AllO.one (sg_plus)).app (hw 1 (by omega)))
    · have hm' : m = 2 := by simp [kidsOf] at hm; omega
      simp [leastOf, mostOf] at hn0 hn1
      simp only [reduceIte, Int.reduceEq]
      exact (hw 0 (by omega)).app ((AllO.one (sg_minus)).app (hw 1 (by omega)))
    · have hm' : m = 1 := by simp [kidsOf] at hm; omega
      simp [leastOf, mostOf] at hn0 hn1
      simp only [reduceIte, Int.reduceEq]
      exact (hw 0 (by omega)).app (AllO.cons (sg_mul) (AllO.one (one_num (by omega) (by omega))))
    · have hm' : m = 1 := by simp [kidsOf] at hm; omega
      simp [leastOf, mostOf] at hn0 hn1
      simp only [reduceIte, Int.reduceEq]
      exact (hw 0 (by omega)).app (AllO.cons (sg_div) (AllO.one (one_num (by omega) (by omega))))
    · have hm' : m = 2 := by simp [kidsOf] at hm; omega
      simp [leastOf, mostOf] at hn0 hn1
      simp only [reduceIte, Int.reduceEq]
      exact (AllO.cons (kw_min) (AllO.one (sg_lpar))).app ((hi 0 (by omega)).app ((AllO.one (sg_comma)).app ((hi 1 (by omega)).app (AllO.one (sg_rpar)))))
    · have hm' : m = 2 := by simp [kidsOf] at hm; omega
      simp [leastOf, mostOf] at hn0 hn1
      simp only [reduceIte, Int.reduceEq]
      exact (AllO.cons (kw_max) (AllO.one (sg_lpar))).app ((hi 0 (by omega)).app ((AllO.one (sg_comma)).app ((hi 1 (by omega)).app (AllO.one (sg_rpar)))))
    · have hm' : m = 4 := by simp [kidsOf] at hm; omega
      simp [leastOf, mostOf] at hn0 hn1
      simp only [reduceIte, Int.reduceEq]
      exact (AllO.one (kw_if)).app (((hw 0 (by omega)).app ((AllO.one (sg_test (by omega))).app (hw 1 (by omega)))).app ((AllO.one (kw_then)).app ((hi 2 (by omega)).app ((AllO.one (kw_else)).app (hi 3 (by omega))))))
end Go.Proofs.YtchiifnciijagaaGreatDoor
