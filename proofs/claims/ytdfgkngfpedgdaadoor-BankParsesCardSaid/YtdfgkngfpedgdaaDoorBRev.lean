/-
  Promise P3: a text of a file's form whose day and payments pass is their file just where the sum and the check that stand in it are theirs: no walk here.
-/
import Derived.Test.YtdfgkngfpedgdaaDoorBGrd
namespace Go.Proofs.YtdfgkngfpedgdaaDoor
open Go.RowKit

/-- What is wrong with a text of a file's form, as the reference says it. -/
def refE (s : ByteArray) (c : Nat) : Int :=
  if dayB (dayT s) = true ∧ ¬ 300 < c then (if payE (lnsOf s c) c = 0 then (if sumL (lnsOf s c) = numT (s.extract 9 (9 + 15)) ∧ chkN (lnsOf s c) (dayT s) c = numT (s.extract (25 + 45 * c + 1) (25 + 45 * c + 1 + 10)) then 0 else 4) else payE (lnsOf s c) c) else 3
/-- Digits are the digits of their number. -/
theorem sfx_bt {t : ByteArray} (hd : allT digB t = true) : ∀ d, d ≤ t.size → ∀ j, j < d → bt (tx (sfx (numN t d).toNat d)) j = bt t j
  | 0, _, j, hj => by omega
  | d + 1, hz, j, hj => by
    have ih := sfx_bt hd d (by omega)
    have hb := dig_bd (allT_iff.1 hd d (by omega))
    have h0 := (numN_bd (s := t) (k := d) (fun j hj => allT_iff.1 hd j (by omega))).1
    have e1 : (numN t (d + 1)).toNat / 10 = (numN t d).toNat := by rw [numN]; omega
    have e2 : (((numN t (d + 1)).toNat % 10 : Nat) : Int) = bt t d - 48 := by rw [numN]; omega
    rw [sfx_snoc, e1]
    by_cases e : j < d
    · rw [← ih j e]
      exact bt_same (by rw [List.getElem?_append_left (by rw [sfx_len]; exact e)])
    · obtain rfl : j = d := by omega
      rw [bt_tx (x := dig ((numN t (j + 1)).toNat % 10)) (by rw [List.getElem?_append_right (by rw [sfx_len]; omega), sfx_len]; simp), dig_toNat _ (Nat.mod_lt _ (by omega)), e2]
      omega
theorem sfx_ext {s : ByteArray} {k n : Nat} (h : k + n ≤ s.size) (hd : ∀ j, j < n → digB (bt s (k + j)) = true) {j : Nat} (hj : j < n) : bt (tx (sfx (numT (s.extract k (k + n))).toNat n)) j = bt s (k + j) := by
  have := sfx_bt (ext_dig h hd) n (by rw [ext_size h]; exact Nat.le_refl _) j hj
  unfold numT
  rw [ext_size h, this, bt_extract s k (k + n) j h (by omega)]
theorem trim_fill (l : List UInt8) (c : UInt8) : Lib.trimRightB l c ++ List.replicate (l.length - (Lib.trimRightB l c).length) c = l := by
  unfold Lib.trimRightB
  have h := List.takeWhile_append_dropWhile (p := (· == c)) (l := l.reverse)
  have hr : (l.reverse.takeWhile (· == c)) = List.replicate (l.reverse.takeWhile (· == c)).length c := by
    rw [List.eq_replicate_iff]
    refine ⟨rfl, fun b hb => ?_⟩
    have := List.all_takeWhile (p := (· == c)) (l := l.reverse)
    rw [List.all_eq_true] at this
    simpa using this b hb
  have hl : l.length = (l.reverse.takeWhile (· == c)).length + (l.reverse.dropWhile (· == c)).length := by
    rw [← List.length_append, h, List.length_reverse]
  rw [List.length_reverse, show l.length - (l.reverse.dropWhile (· == c)).length = (l.reverse.takeWhile (· == c)).length by omega]
  conv => rhs; rw [← List.reverse_reverse l, ← h, List.reverse_append]
  congr 1
  conv => rhs; rw [hr]
  rw [List.reverse_replicate]
set_option maxHeartbeats 2000000 in
theorem payL_of {s : ByteArray} {k : Nat} (h : ∀ j, j < 45 → lineQ s k j = true) (hk : k + 45 ≤ s.size) {q : Nat} (hq : q < 45) : bt (tx (payL (pyOf s k))) q = bt s (k + q) := by
  have hA : (pyOf s k).acc.data.toList.length = 12 := by
    rw [← size_toList]
    show (s.extract (k + 1) (k + 1 + 12)).size = 12
    exact ext_size (by omega)
  have hF : (pyOf s k).nam.data.toList ++ List.replicate (12 - (pyOf s k).nam.size) 46 = (s.extract (k + 32) (k + 32 + 12)).data.toList := by
    have := trim_fill (s.extract (k + 32) (k + 32 + 12)).data.toList 46
    have hl : (s.extract (k + 32) (k + 32 + 12)).data.toList.length = 12 := by rw [← size_toList]; exact ext_size (by omega)
    rw [hl] at this
    have hn : (pyOf s k).nam.data.toList = Lib.trimRightB (s.extract (k + 32) (k + 32 + 12)).data.toList 46 := tx_list _
    rw [size_toList, hn]
    exact this
  have hFl : (s.extract (k + 32) (k + 32 + 12)).data.toList.length = 12 := by rw [← size_toList]; exact ext_size (by omega)
  have hL : payL (pyOf s k) = [80] ++ (pyOf s k).acc.data.toList ++ sfx (pyOf s k).mon.toNat 13 ++ sfx (pyOf s k).ref.toNat 6 ++ (s.extract (k + 32) (k + 32 + 12)).data.toList ++ [10] := by
    rw [← hF]
    simp [payL]
  have dg : ∀ a n, 1 ≤ a → a + n ≤ 32 → ∀ j, j < n → digB (bt s (k + a + j)) = true := fun a n h1 h2 j hj => (lineQ_dig s k a j (by omega)).symm.trans (h _ (by omega))
  by_cases e0 : q = 0
  · subst e0
    have := bt_mid (L := payL (pyOf s k)) (P := []) (C := [80]) (S := (pyOf s k).acc.data.toList ++ sfx (pyOf s k).mon.toNat 13 ++ sfx (pyOf s k).ref.toNat 6 ++ (s.extract (k + 32) (k + 32 + 12)).data.toList ++ [10]) (by rw [hL]; simp) (p := 0) rfl (j := 0) (by simp)
    have h0 := h 0 (by omega)
    rw [lineQ_0] at h0
    have h1 := of_decide_eq_true h0
    rw [show bt (tx (payL (pyOf s k))) 0 = bt (tx (payL (pyOf s k))) (0 + 0) from rfl, this, Nat.add_zero, h1]
    rfl
  by_cases e1 : q < 13
  · have := bt_mid (L := payL (pyOf s k)) (P := [80]) (C := (pyOf s k).acc.data.toList) (S := sfx (pyOf s k).mon.toNat 13 ++ sfx (pyOf s k).ref.toNat 6 ++ (s.extract (k + 32) (k + 32 + 12)).data.toList ++ [10]) (by rw [hL]; simp) (p := 1) rfl (j := q - 1) (by omega)
    rw [show q = 1 + (q - 1) by omega, this, tx_data]
    show bt (s.extract (k + 1) (k + 1 + 12)) (q - 1) = _
    rw [bt_extract s _ _ _ (by omega) (by omega), Nat.add_assoc]
  by_cases e2 : q < 26
  · have := bt_mid (L := payL (pyOf s k)) (P := [80] ++ (pyOf s k).acc.data.toList) (C := sfx (pyOf s k).mon.toNat 13) (S := sfx (pyOf s k).ref.toNat 6 ++ (s.extract (k + 32) (k + 32 + 12)).data.toList ++ [10]) (by rw [hL]; simp) (p := 13) (by simp [hA]) (j := q - 13) (by rw [sfx_len]; omega)
    rw [show q = 13 + (q - 13) by omega, this]
    have := sfx_ext (s := s) (k := k + 13) (n := 13) (by omega) (dg 13 13 (by omega) (by omega)) (j := q - 13) (by omega)
    exact this.trans (congrArg (bt s) (Nat.add_assoc _ _ _))
  by_cases e3 : q < 32
  · have := bt_mid (L := payL (pyOf s k)) (P := [80] ++ (pyOf s k).acc.data.toList ++ sfx (pyOf s k).mon.toNat 13) (C := sfx (pyOf s k).ref.toNat 6) (S := (s.extract (k + 32) (k + 32 + 12)).data.toList ++ [10]) (by rw [hL]; simp) (p := 26) (by simp [hA, sfx_len]) (j := q - 26) (by rw [sfx_len]; omega)
    rw [show q = 26 + (q - 26) by omega, this]
    have := sfx_ext (s := s) (k := k + 26) (n := 6) (by omega) (dg 26 6 (by omega) (by omega)) (j := q - 26) (by omega)
    exact this.trans (congrArg (bt s) (Nat.add_assoc _ _ _))
  by_cases e4 : q < 44
  · have := bt_mid (L := payL (pyOf s k)) (P := [80] ++ (pyOf s k).acc.data.toList ++ sfx (pyOf s k).mon.toNat 13 ++ sfx (pyOf s k).ref.toNat 6) (C := (s.extract (k + 32) (k + 32 + 12)).data.toList) (S := [10]) (by rw [hL]) (p := 32) (by simp [hA, sfx_len]) (j := q - 32) (by omega)
    rw [show q = 32 + (q - 32) by omega, this, tx_data, bt_extract s _ _ _ (by omega) (by omega), Nat.add_assoc]
  · obtain rfl : q = 44 := by omega
    have := bt_mid (L := payL (pyOf s k)) (P := [80] ++ (pyOf s k).acc.data.toList ++ sfx (pyOf s k).mon.toNat 13 ++ sfx (pyOf s k).ref.toNat 6 ++ (s.extract (k + 32) (k + 32 + 12)).data.toList) (C := [10]) (S := []) (by rw [hL]; simp) (p := 44) (by rw [List.length_append, hFl]; simp [hA, sfx_len]) (j := 0) (by simp)
    have h0 := h 44 (by omega)
    rw [lineQ_44] at h0
    have h1 := of_decide_eq_true h0
    rw [show bt (tx (payL (pyOf s k))) 44 = bt (tx (payL (pyOf s k))) (44 + 0) from rfl, this, h1]
    rfl
theorem lines_bt {s : ByteArray} {c : Nat} (h : ∀ i, i < c → ∀ j, j < 45 → lineQ s (25 + 45 * i) j = true) (hz : 25 + 45 * c ≤ s.size) {l : List Py} (hl : ∀ i, i < c → pnth l i = pyOf s (25 + 45 * i)) (hlen : ∀ i, i ≤ c → (linesL l i).length = 45 * i) {H E : List UInt8} (hH : H.length = 25) {i q : Nat} (hi : i < c) (hq : q < 45) : bt (tx (H ++ linesL l c ++ E)) (25 + 45 * i + q) = bt s (25 + 45 * i + q) := by
  obtain ⟨R, hR⟩ := lines_at l i hi
  have hp : (payL (pnth l i)).length = 45 := by
    have h1 := hlen (i + 1) (by omega)
    rw [linesL, List.length_append, hlen i (by omega)] at h1
    omega
  rw [bt_mid (P := H ++ linesL l i) (C := payL (pnth l i)) (S := R ++ E) (by rw [hR]; simp) (by rw [List.length_append, hH, hlen i (by omega)]) (by omega), hl i hi]
  exact payL_of (h i hi) (by omega) hq
theorem file_rev {s : ByteArray} {c : Nat} (hf : Form s c) (hok : ∀ j, j < c → OkP (pnth (lnsOf s c) j)) (h1 : sumL (lnsOf s c) = numT (s.extract 9 (9 + 15))) (h2 : chkN (lnsOf s c) (dayT s) c = numT (s.extract (25 + 45 * c + 1) (25 + 45 * c + 1 + 10))) : fileT (dayT s) (lnsOf s c) c = s := by
  have hz := hf.2.2.2
  have hq := hf.2.2.1
  have hlen := linesL_len hok
  have hF : fileT (dayT s) (lnsOf s c) c = tx (headL (dayT s).toNat c (sumL (lnsOf s c)).toNat ++ linesL (lnsOf s c) c ++ endL (chkN (lnsOf s c) (dayT s) c).toNat) := rfl
  have dH : ∀ a n, 1 ≤ a → a + n ≤ 24 → ∀ j, j < n → digB (bt s (a + j)) = true := fun a n u1 u2 j hj => (fileQ_head s c a j (by omega)).symm.trans (hq _ (by omega))
  have dT : ∀ j, j < 10 → digB (bt s (25 + 45 * c + 1 + j)) = true := fun j hj => ((congrArg (fileQ s c) (Nat.add_assoc _ 1 j)).trans ((fileQ_tail s c (1 + j)).trans (tailQ_dig s _ j hj))).symm.trans (hq _ (by omega))
  have cE : c = (numT (s.extract 6 (6 + 3))).toNat := by have := hf.1; omega
  rw [hF]
  have hL0 : (headL (dayT s).toNat c (sumL (lnsOf s c)).toNat ++ linesL (lnsOf s c) c ++ endL (chkN (lnsOf s c) (dayT s) c).toNat).length = 25 + 45 * c + 12 := by rw [List.length_append, List.length_append, headL_len, endL_len, hlen c (Nat.le_refl _)]
  apply ba_eq
  · rw [tx_size, hL0, hz]
  · intro j hj
    rw [tx_size, hL0] at hj
    by_cases j25 : j < 25
    · by_cases e0 : j = 0
      · subst e0
        have := bt_mid (L := headL (dayT s).toNat c (sumL (lnsOf s c)).toNat ++ linesL (lnsOf s c) c ++ endL (chkN (lnsOf s c) (dayT s) c).toNat) (P := []) (C := [70]) (S := sfx (dayT s).toNat 5 ++ sfx c 3 ++ sfx (sumL (lnsOf s c)).toNat 15 ++ [10] ++ linesL (lnsOf s c) c ++ endL (chkN (lnsOf s c) (dayT s) c).toNat) (by simp [headL]) (p := 0) rfl (j := 0) (by simp)
        have h0 := of_decide_eq_true (show eqB 70 (bt s 0) = true from hq 0 (by omega))
        rw [h0]
        exact this
      by_cases e1 : j < 6
      · have := bt_mid (L := headL (dayT s).toNat c (sumL (lnsOf s c)).toNat ++ linesL (lnsOf s c) c ++ endL (chkN (lnsOf s c) (dayT s) c).toNat) (P := [70]) (C := sfx (dayT s).toNat 5) (S := sfx c 3 ++ sfx (sumL (lnsOf s c)).toNat 15 ++ [10] ++ linesL (lnsOf s c) c ++ endL (chkN (lnsOf s c) (dayT s) c).toNat) (by simp [headL]) (p := 1) rfl (j := j - 1) (by rw [sfx_len]; omega)
        have h3 := sfx_ext (s := s) (k := 1) (n := 5) (by omega) (dH 1 5 (by omega) (by omega)) (j := j - 1) (by omega)
        rw [show j = 1 + (j - 1) by omega, this]
        exact h3
      by_cases e2 : j < 9
      · have := bt_mid (L := headL (dayT s).toNat c (sumL (lnsOf s c)).toNat ++ linesL (lnsOf s c) c ++ endL (chkN (lnsOf s c) (dayT s) c).toNat) (P := [70] ++ sfx (dayT s).toNat 5) (C := sfx c 3) (S := sfx (sumL (lnsOf s c)).toNat 15 ++ [10] ++ linesL (lnsOf s c) c ++ endL (chkN (lnsOf s c) (dayT s) c).toNat) (by simp [headL]) (p := 6) (by simp [sfx_len]) (j := j - 6) (by rw [sfx_len]; omega)
        have h3 := sfx_ext (s := s) (k := 6) (n := 3) (by omega) (dH 6 3 (by omega) (by omega)) (j := j - 6) (by omega)
        rw [← cE] at h3
        rw [show j = 6 + (j - 6) by omega, this]
        exact h3
      by_cases e3 : j < 24
      · have := bt_mid (L := headL (dayT s).toNat c (sumL (lnsOf s c)).toNat ++ linesL (lnsOf s c) c ++ endL (chkN (lnsOf s c) (dayT s) c).toNat) (P := [70] ++ sfx (dayT s).toNat 5 ++ sfx c 3) (C := sfx (sumL (lnsOf s c)).toNat 15) (S := [10] ++ linesL (lnsOf s c) c ++ endL (chkN (lnsOf s c) (dayT s) c).toNat) (by simp [headL]) (p := 9) (by simp [sfx_len]) (j := j - 9) (by rw [sfx_len]; omega)
        have h3 := sfx_ext (s := s) (k := 9) (n := 15) (by omega) (dH 9 15 (by omega) (by omega)) (j := j - 9) (by omega)
        rw [← h1] at h3
        rw [show j = 9 + (j - 9) by omega, this]
        exact h3
      · obtain rfl : j = 24 := by omega
        have := bt_mid (L := headL (dayT s).toNat c (sumL (lnsOf s c)).toNat ++ linesL (lnsOf s c) c ++ endL (chkN (lnsOf s c) (dayT s) c).toNat) (P := [70] ++ sfx (dayT s).toNat 5 ++ sfx c 3 ++ sfx (sumL (lnsOf s c)).toNat 15) (C := [10]) (S := linesL (lnsOf s c) c ++ endL (chkN (lnsOf s c) (dayT s) c).toNat) (by simp [headL]) (p := 24) (by simp [sfx_len]) (j := 0) (by simp)
        have h0 := of_decide_eq_true (show eqB 10 (bt s 24) = true from hq 24 (by omega))
        rw [h0]
        exact this
    by_cases jl : j < 25 + 45 * c
    · obtain ⟨i, q, rfl, hq45, hi⟩ : ∃ i q, j = 25 + 45 * i + q ∧ q < 45 ∧ i < c := ⟨(j - 25) / 45, (j - 25) % 45, by omega, by omega, by omega⟩
      exact lines_bt (fun i hi => (hf.line hi).1) (by omega) (fun i hi => pnth_lns s hi) hlen (headL_len _ _ _) hi hq45
    · have hhl : (headL (dayT s).toNat c (sumL (lnsOf s c)).toNat ++ linesL (lnsOf s c) c).length = 25 + 45 * c := by rw [List.length_append, headL_len, hlen c (Nat.le_refl _)]
      by_cases e0 : j = 25 + 45 * c
      · have := bt_mid (L := headL (dayT s).toNat c (sumL (lnsOf s c)).toNat ++ linesL (lnsOf s c) c ++ endL (chkN (lnsOf s c) (dayT s) c).toNat) (P := headL (dayT s).toNat c (sumL (lnsOf s c)).toNat ++ linesL (lnsOf s c) c) (C := [69]) (S := sfx (chkN (lnsOf s c) (dayT s) c).toNat 10 ++ [10]) (by simp [endL]) (p := 25 + 45 * c) hhl (j := 0) (by simp)
        have h0 := of_decide_eq_true (show eqB 69 (bt s (25 + 45 * c)) = true from (fileQ_tail s c 0).symm.trans (hq _ (by omega)))
        rw [e0, h0]
        exact this
      by_cases e1 : j < 25 + 45 * c + 11
      · have := bt_mid (L := headL (dayT s).toNat c (sumL (lnsOf s c)).toNat ++ linesL (lnsOf s c) c ++ endL (chkN (lnsOf s c) (dayT s) c).toNat) (P := headL (dayT s).toNat c (sumL (lnsOf s c)).toNat ++ linesL (lnsOf s c) c ++ [69]) (C := sfx (chkN (lnsOf s c) (dayT s) c).toNat 10) (S := [10]) (by simp [endL]) (p := 25 + 45 * c + 1) (by rw [List.length_append, hhl]; rfl) (j := j - (25 + 45 * c + 1)) (by rw [sfx_len]; omega)
        have h3 := sfx_ext (s := s) (k := 25 + 45 * c + 1) (n := 10) (by omega) dT (j := j - (25 + 45 * c + 1)) (by omega)
        rw [← h2] at h3
        rw [show j = 25 + 45 * c + 1 + (j - (25 + 45 * c + 1)) by omega, this]
        exact h3
      · obtain rfl : j = 25 + 45 * c + 11 := by omega
        have := bt_mid (L := headL (dayT s).toNat c (sumL (lnsOf s c)).toNat ++ linesL (lnsOf s c) c ++ endL (chkN (lnsOf s c) (dayT s) c).toNat) (P := headL (dayT s).toNat c (sumL (lnsOf s c)).toNat ++ linesL (lnsOf s c) c ++ [69] ++ sfx (chkN (lnsOf s c) (dayT s) c).toNat 10) (C := [10]) (S := []) (by simp [endL]) (p := 25 + 45 * c + 11) (by rw [List.length_append, List.length_append, hhl, sfx_len]; rfl) (j := 0) (by simp)
        have h0 := of_decide_eq_true (show eqB 10 (bt s (25 + 45 * c + 11)) = true from (fileQ_tail s c 11).symm.trans (hq _ (by omega)))
        rw [h0]
        exact this
/-- The program and the reference find the same wrong. -/
theorem cmp_ref {s : ByteArray} {c : Nat} (hf : Form s c) : cmpE s (dayT s) (lnsOf s c) c = refE s c := by
  unfold refE
  by_cases hm : 300 < c
  · rw [cmp_many hm, if_neg (fun h => h.2 hm)]
  · cases hd : dayB (dayT s)
    · rw [if_neg (fun h => by cases h.1), cmp_pr hm (by rw [(pr_day hd).1]; decide), (pr_day hd).1]
    · rw [if_pos ⟨rfl, hm⟩]
      by_cases hp : payE (lnsOf s c) c = 0
      · rw [if_pos hp]
        have hpr := (pr_ok (n := c) hd hp).1
        obtain ⟨_, _, hok⟩ := pr_parts hpr
        by_cases hb : sumL (lnsOf s c) = numT (s.extract 9 (9 + 15)) ∧ chkN (lnsOf s c) (dayT s) c = numT (s.extract (25 + 45 * c + 1) (25 + 45 * c + 1 + 10))
        · rw [if_pos hb]
          exact cmp_ok hm hpr (file_rev hf hok hb.1 hb.2)
        · rw [if_neg hb]
          refine cmp_ne hm hpr (fun e => hb ?_)
          obtain ⟨a1, a2⟩ := file_sums (day := dayT s) (lnsOf_len s c) (by omega) hok
          rw [e] at a1 a2
          exact ⟨a1.symm, a2.symm⟩
      · rw [if_neg hp, cmp_pr hm (by rw [(pr_pay hd hp).1]; exact hp), (pr_pay hd hp).1]
end Go.Proofs.YtdfgkngfpedgdaaDoor
