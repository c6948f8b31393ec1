/-
  Promise E3: what a text begins with hangs on the token's own bytes alone, where a blank or nothing is behind them.
-/
import Derived.Test.YtgiacemmigjloaaDoorTPlaced
namespace Go.Proofs.YtgiacemmigjloaaDoor
open Go.RowKit

theorem ext_bt {s t : ByteArray} (h : s.size = t.size) (hb : ∀ i, i < s.size → bt s i = bt t i) : s = t := by
  apply ByteArray.ext
  apply Array.ext h
  intro i h1 h2
  have := hb i h1
  rw [bt_in h1, bt_in (show i < t.size from h2)] at this
  exact UInt8.toNat_inj.1 (by have e : (s[i]'h1).toNat = (t[i]'h2).toNat := by omega
                              exact e)
theorem extract_same {u u' : ByteArray} {n : Nat} (h : n ≤ u.size) (h' : n ≤ u'.size) (hb : ∀ i, i < n → bt u' i = bt u i) : u'.extract 0 n = u.extract 0 n := by
  refine ext_bt (by rw [ByteArray.size_extract, ByteArray.size_extract]; omega) fun i hi => ?_
  rw [ByteArray.size_extract] at hi
  rw [bt_extract u' 0 n i h' (by omega), bt_extract u 0 n i h (by omega), Nat.zero_add]
  exact hb i (by omega)
theorem prefix_two (l : List UInt8) : Lib.hasPrefix l [60, 61] = true ↔ ∃ r, l = 60 :: 61 :: r := by
  constructor
  · intro h
    match l with
    | [] => simp [Lib.hasPrefix, List.isPrefixOf] at h
    | [a] => simp [Lib.hasPrefix, List.isPrefixOf] at h
    | a :: b :: r =>
      simp [Lib.hasPrefix, List.isPrefixOf] at h
      exact ⟨r, by rw [← h.1, ← h.2]⟩
  · rintro ⟨r, rfl⟩
    simp [Lib.hasPrefix, List.isPrefixOf]
theorem bt_list {s : ByteArray} {l : List UInt8} (h : s.data.toList = l) (j : Nat) : bt s j = match l[j]? with | some c => (c.toNat : Int) | none => -1 := by
  subst h
  by_cases hj : j < s.size
  · rw [bt_in hj, List.getElem?_eq_getElem (by rw [← size_toL]; exact hj)]
    rfl
  · rw [bt_out hj, List.getElem?_eq_none (by rw [← size_toL]; omega)]
theorem long_bt (s : ByteArray) : longB s = true ↔ bt s 0 = 60 ∧ bt s 1 = 61 := by
  unfold longB
  rw [prefix_two]
  constructor
  · rintro ⟨r, h⟩
    rw [bt_list h 0, bt_list h 1]
    exact ⟨rfl, rfl⟩
  · rintro ⟨h0, h1⟩
    match h : s.data.toList with
    | [] =>
      rw [bt_list h 0] at h0
      simp at h0
    | [a] =>
      rw [bt_list h 1] at h1
      simp at h1
    | a :: b :: r =>
      rw [bt_list h 0] at h0
      rw [bt_list h 1] at h1
      simp at h0 h1
      refine ⟨r, ?_⟩
      have e0 : a = 60 := UInt8.toNat_inj.1 (by have : a.toNat = 60 := by omega
                                                rw [this]; rfl)
      have e1 : b = 61 := UInt8.toNat_inj.1 (by have : b.toNat = 61 := by omega
                                                rw [this]; rfl)
      rw [e0, e1]
theorem span_zero {P : Int → Bool} {s : ByteArray} (h : ¬ 0 < spanN P s) (h0 : 0 < s.size) : P (bt s 0) = false := by
  have := (spanN_is P s).2.2
  rw [show spanN P s = 0 by omega] at this
  exact this h0
theorem span_none {P : Int → Bool} {s : ByteArray} (h : P (bt s 0) = false) : spanN P s = 0 :=
  (spanN_eq (n := 0) ⟨Nat.zero_le _, fun k hk => absurd hk (by omega), fun _ => h⟩).symm
/-- The byte with which a token begins is no blank, and begins no remark. -/
theorem first_byte {u : ByteArray} {k : Int} {n : Nat} {v : Int} {p : Bool} (hf : firstO u = .tok k n v p) : blkB (bt u 0) = false ∧ bt u 0 ≠ 35 := by
  unfold firstO at hf
  split at hf
  · rename_i hl
    have := of_decide_eq_true ((spanN_is letB u).2.1 0 hl)
    exact ⟨decide_eq_false (by omega), by omega⟩
  · split at hf
    · rename_i hd
      have := of_decide_eq_true ((spanN_is digB u).2.1 0 hd)
      exact ⟨decide_eq_false (by omega), by omega⟩
    · unfold signO at hf
      split at hf
      · rename_i hl
        have := ((long_bt u).1 hl).1
        exact ⟨decide_eq_false (by omega), by omega⟩
      · split at hf
        · rename_i hs
          have key : ∀ c : Int, signB c = false → bt u 0 ≠ c := fun c hc e => by rw [e, hc] at hs; cases hs
          have k1 := key 32 (by decide)
          have k2 := key 9 (by decide)
          have k3 := key 10 (by decide)
          exact ⟨decide_eq_false (by omega), key 35 (by decide)⟩
        · cases hf
theorem same_first {u u' : ByteArray} {k : Int} {n : Nat} {v : Int} {p : Bool} (h0 : 0 < u.size) (hf : firstO u = .tok k n v p) (hn' : n ≤ u'.size) (hb : ∀ i, i < n → bt u' i = bt u i) (he : bt u' n = 32 ∨ bt u' n = -1) : firstO u' = .tok k n v p := by
  have hlen := first_len h0 hf
  have hb0 := hb 0 (by omega)
  have hex := extract_same hlen.2 hn' hb
  have hend : letB (bt u' n) = false ∧ digB (bt u' n) = false ∧ bt u' n ≠ 46 ∧ bt u' n ≠ 61 := by
    rcases he with e | e <;> rw [e] <;> decide
  unfold firstO at hf ⊢
  split at hf
  · rename_i hl
    have hs := spanN_is letB u
    generalize spanN letB u = m at *
    unfold wordO at hf
    split at hf
    · cases hf
    · rename_i h8
      have hm : m = n := by split at hf <;> (injection hf with _ e)
      subst hm
      have e : spanN letB u' = m := (spanN_eq ⟨hn', fun i hi => by rw [hb i hi]; exact hs.2.1 i hi, fun _ => hend.1⟩).symm
      rw [e, if_pos hl]
      unfold wordO
      rw [if_neg h8, hex]
      exact hf
  · rename_i hl
    have hl0 := span_zero hl h0
    have el : spanN letB u' = 0 := span_none (by rw [hb0]; exact hl0)
    rw [el, if_neg (by omega)]
    split at hf
    · rename_i hd
      have hs := spanN_is digB u
      generalize spanN digB u = m at *
      have hmn : m ≤ n := by
        unfold numO at hf
        split at hf
        · split at hf
          · cases hf
          · split at hf
            · cases hf
            · split at hf
              · injection hf with _ e; omega
              · split at hf
                · cases hf
                · split at hf
                  · injection hf with _ e; omega
                  · cases hf
        · cases hf
      have hexm := extract_same (u := u) (u' := u') (n := m) hs.1 (by omega) (fun i hi => hb i (by omega))
      unfold numO at hf
      split at hf
      · rename_i uu hu
        split at hf
        · cases hf
        · rename_i c1
          split at hf
          · cases hf
          · rename_i c2
            split at hf
            · rename_i c3
              obtain rfl : m = n := by injection hf with _ e
              have e : spanN digB u' = m := (spanN_eq ⟨hn', fun i hi => by rw [hb i hi]; exact hs.2.1 i hi, fun _ => hend.2.1⟩).symm
              rw [e, if_pos hd]
              unfold numO
              rw [hexm, hu]
              dsimp only
              rw [if_neg c1, hb0, if_neg c2, if_pos hend.2.2.1]
              exact hf
            · rename_i c3
              split at hf
              · cases hf
              · rename_i c4
                split at hf
                · rename_i c5
                  obtain rfl : m + 3 = n := by injection hf with _ e
                  have c3' : bt u m = 46 := by simpa using c3
                  have hbm := hb m (by omega)
                  have e : spanN digB u' = m := (spanN_eq ⟨by omega, fun i hi => by rw [hb i (by omega)]; exact hs.2.1 i hi, fun _ => by rw [hbm, c3']; decide⟩).symm
                  have hk := spanN_is digB (u.extract (m + 1) u.size)
                  have d1 := hk.2.1 0 (by omega)
                  have d2 := hk.2.1 1 (by omega)
                  rw [bt_suffix] at d1 d2
                  have c4' : ¬ spanN digB (u'.extract (m + 1) u'.size) < 2 := fun hlt => by
                    have hk' := spanN_is digB (u'.extract (m + 1) u'.size)
                    have hsz : (u'.extract (m + 1) u'.size).size = u'.size - (m + 1) := by rw [ByteArray.size_extract]; omega
                    have hP := hk'.2.2 (by rw [hsz]; omega)
                    rw [bt_suffix] at hP
                    rcases (show spanN digB (u'.extract (m + 1) u'.size) = 0 ∨ spanN digB (u'.extract (m + 1) u'.size) = 1 by omega) with e0 | e0
                    · rw [e0, hb _ (by omega), d1] at hP
                      cases hP
                    · rw [e0, hb _ (by omega), d2] at hP
                      cases hP
                  rw [e, if_pos hd]
                  unfold numO
                  rw [hexm, hu]
                  dsimp only
                  rw [if_neg c1, hb0, if_neg c2, hbm, if_neg c3, if_neg c4', hb (m + 1) (by omega), hb (m + 2) (by omega), if_pos c5]
                  exact hf
                · cases hf
      · cases hf
    · rename_i hd
      have hd0 := span_zero hd h0
      have ed : spanN digB u' = 0 := span_none (by rw [hb0]; exact hd0)
      rw [ed, if_neg (by omega)]
      unfold signO at hf ⊢
      split at hf
      · rename_i hg
        obtain rfl : 2 = n := by injection hf with _ e
        have hg' := (long_bt u).1 hg
        have : longB u' = true := (long_bt u').2 ⟨by rw [hb0]; exact hg'.1, by rw [hb 1 (by omega)]; exact hg'.2⟩
        rw [if_pos this]
        exact hf
      · split at hf
        · rename_i hg hsg
          obtain rfl : 1 = n := by injection hf with _ e
          have : ¬ longB u' = true := fun h => hend.2.2.2 ((long_bt u').1 h).2
          rw [if_neg this, hb0, if_pos hsg]
          exact hf
        · cases hf
/-- A blank, and then no blank. -/
theorem gap_one {s : ByteArray} {m : Nat} (h : GapAt s 0 m) (h0 : bt s 0 = 32) (h1 : blkB (bt s 1) = false) (h2 : bt s 1 ≠ 35) (hs : 1 ≤ s.size) : m = 1 := by
  have key : ∀ k, SpanAt blkB s 0 k → k = 1 := fun k hk => by
    by_cases e0 : k = 0
    · subst e0
      have := hk.2.2 (by omega)
      simp only [Nat.add_zero, h0] at this
      exact absurd this (by decide)
    · by_cases e1 : 1 < k
      · have := hk.2.1 1 e1
        rw [Nat.zero_add, h1] at this
        cases this
      · omega
  cases h with
  | stop _ k hsp hn =>
    have := key k hsp
    omega
  | more _ k m _ hsp hn hm hr =>
    obtain rfl := key k hsp
    rw [Nat.zero_add] at hn
    exact absurd hn h2
end Go.Proofs.YtgiacemmigjloaaDoor
