/-
  Promise P5: a file in which one digit is another one is no file: no walk here. That 9999999967 is a prime is not needed: no change of a ref, times a place, comes up to it.
-/
import Derived.Test.YtdfgkngfpedgdaaDoorBBack
namespace Go.Proofs.YtdfgkngfpedgdaaDoor
open Go.RowKit

/-- What holds of a file that is printed. -/
theorem pr_parts {day : Int} {l : List Py} {n : Nat} (hp : prE day l n = 0) : (0 ≤ day ∧ day ≤ 73048) ∧ n ≤ 300 ∧ ∀ j, j < n → OkP (pnth l j) := by
  have hd : dayB day = true := by
    cases e : dayB day
    · rw [(pr_day (l := l) (n := n) e).1] at hp; omega
    · rfl
  have hpay : payE l n = 0 := by
    by_cases e : payE l n = 0
    · exact e
    · rw [(pr_pay hd e).1] at hp; exact hp
  obtain ⟨h300, hall, _⟩ := payE_zero hpay
  exact ⟨dayB_iff.1 hd, h300, okP_of hall⟩
theorem file_sums {day : Int} {l : List Py} {n : Nat} (hn : l.length = n) (hm : n ≤ 300) (hok : ∀ j, j < n → OkP (pnth l j)) :
    numT ((fileT day l n).extract 9 (9 + 15)) = sumL l ∧ numT ((fileT day l n).extract (25 + 45 * n + 1) (25 + 45 * n + 1 + 10)) = chkN l day n := by
  have hll := linesL_len hok n (Nat.le_refl _)
  have hF : fileT day l n = tx (fileL day l n) := rfl
  have hMB : MonB l := fun j hj => by have := (hok j (by omega)).2.1; omega
  have hsb := sumL_bd hMB l.length (Nat.le_refl _)
  rw [List.take_length] at hsb
  have hcb := chkN_bd l day n
  obtain ⟨tot, hT⟩ : ∃ tot, (sumL l).toNat = tot := ⟨_, rfl⟩
  obtain ⟨ck, hC⟩ : ∃ ck, (chkN l day n).toNat = ck := ⟨_, rfl⟩
  have hL : fileL day l n = headL day.toNat n tot ++ linesL l n ++ endL ck := by unfold fileL; rw [hT, hC]
  have p15 : (10 : Nat) ^ 15 = 1000000000000000 := by decide
  have p10 : (10 : Nat) ^ 10 = 10000000000 := by decide
  rw [hF]
  generalize fileL day l n = L at *
  have h1 : (tx L).extract 9 (9 + 15) = tx (sfx tot 15) := ext_mid (P := [70] ++ sfx day.toNat 5 ++ sfx n 3) (C := sfx tot 15) (S := [10] ++ linesL l n ++ endL ck) (by rw [hL]; simp [headL]) (by simp [sfx_len]) (sfx_len _ _)
  have h2 : (tx L).extract (25 + 45 * n + 1) (25 + 45 * n + 1 + 10) = tx (sfx ck 10) := ext_mid (P := headL day.toNat n tot ++ linesL l n ++ [69]) (C := sfx ck 10) (S := [10]) (by rw [hL]; simp [endL]) (by rw [List.length_append, List.length_append, headL_len, hll]; rfl) (sfx_len _ _)
  rw [h1, h2, numT_sfx (by omega), numT_sfx (by omega)]
  omega
theorem ext_same {s t : ByteArray} {a e : Nat} (hz : s.size = t.size) (h : ∀ j, a ≤ j → j < e → bt s j = bt t j) (he : e ≤ s.size) : s.extract a e = t.extract a e := by
  apply ba_eq
  · rw [ByteArray.size_extract, ByteArray.size_extract]; omega
  · intro j hj
    rw [ByteArray.size_extract] at hj
    rw [bt_extract s a e j he (by omega), bt_extract t a e j (by omega) (by omega)]
    exact h _ (by omega) (by omega)
theorem pyOf_same {s t : ByteArray} {k : Nat} (hz : s.size = t.size) (h : ∀ j, k ≤ j → j < k + 45 → bt s j = bt t j) (hk : k + 45 ≤ s.size) : pyOf s k = pyOf t k := by
  unfold pyOf nmT
  rw [ext_same hz (fun j h1 h2 => h j (by omega) (by omega)) (a := k + 1) (e := k + 1 + 12) (by omega), ext_same hz (fun j h1 h2 => h j (by omega) (by omega)) (a := k + 13) (e := k + 13 + 13) (by omega), ext_same hz (fun j h1 h2 => h j (by omega) (by omega)) (a := k + 26) (e := k + 26 + 6) (by omega), ext_same hz (fun j h1 h2 => h j (by omega) (by omega)) (a := k + 32) (e := k + 32 + 12) (by omega)]
/-- Sums and checks of lists that differ in one place. -/
theorem sum_one {l m : List Py} {i : Nat} (hl : l.length = m.length) (h : ∀ j, j < l.length → j ≠ i → pnth m j = pnth l j) : ∀ k, k ≤ l.length → sumL (m.take k) = sumL (l.take k) + if i < k then (pnth m i).mon - (pnth l i).mon else 0
  | 0, _ => by simp [sumL]
  | k + 1, hk => by
    have ih := sum_one hl h k (by omega)
    rw [take_snoc (by omega), take_snoc (by omega), sumL_append, sumL_append, ih]
    simp only [sumL]
    by_cases e : k = i
    · subst e
      rw [if_neg (by omega), if_pos (by omega)]
      omega
    · rw [h k (by omega) e]
      by_cases e2 : i < k
      · rw [if_pos e2, if_pos (by omega)]; omega
      · rw [if_neg e2, if_neg (by omega)]; omega
theorem chk_one {l m : List Py} {i n : Nat} {day : Int} (h : ∀ j, j < n → j ≠ i → pnth m j = pnth l j) : ∀ k, k ≤ n → chkS m day k = chkS l day k + if i < k then term m i - term l i else 0
  | 0, _ => by simp [chkS]
  | k + 1, hk => by
    have ih := chk_one (day := day) h k (by omega)
    rw [chkS, chkS, ih]
    by_cases e : k = i
    · subst e
      rw [if_neg (by omega), if_pos (by omega)]
      omega
    · have ht : term m k = term l k := by unfold term; rw [h k (by omega) e]
      rw [ht]
      by_cases e2 : i < k
      · rw [if_pos e2, if_pos (by omega)]; omega
      · rw [if_neg e2, if_neg (by omega)]; omega
theorem chk_day {l : List Py} {a b : Int} : ∀ k, chkS l a k = chkS l b k + (a - b)
  | 0 => by simp [chkS]; omega
  | k + 1 => by rw [chkS, chkS, chk_day (l := l) (a := a) (b := b) k]; omega
/-- Numbers of texts that differ in one place. -/
theorem num_one {s t : ByteArray} {q : Nat} (h : ∀ j, j ≠ q → bt s j = bt t j) : ∀ d, numN s d = numN t d + if q < d then (bt s q - bt t q) * 10 ^ (d - 1 - q) else 0
  | 0 => by simp [numN]
  | d + 1 => by
    have ih := num_one h d
    rw [numN, numN, ih]
    by_cases e : d = q
    · subst e
      rw [if_neg (by omega), if_pos (by omega), show d + 1 - 1 - d = 0 by omega]
      omega
    · rw [h d e]
      by_cases e2 : q < d
      · rw [if_pos e2, if_pos (by omega), show d + 1 - 1 - q = d - 1 - q + 1 by omega, Int.pow_succ, ← Int.mul_assoc]
        omega
      · rw [if_neg e2, if_neg (by omega)]; omega
/-- 97 parts no digit's change. -/
theorem by97 {x : Int} (h : -9 ≤ x ∧ x ≤ 9) (h0 : x ≠ 0) : ∀ e : Nat, e ≤ 11 → (x * 10 ^ e) % 97 ≠ 0
  | 0, _ => by simp; omega
  | 1, _ => by simp; omega
  | 2, _ => by simp; omega
  | 3, _ => by simp; omega
  | 4, _ => by simp; omega
  | 5, _ => by simp; omega
  | 6, _ => by simp; omega
  | 7, _ => by simp; omega
  | 8, _ => by simp; omega
  | 9, _ => by simp; omega
  | 10, _ => by simp; omega
  | 11, _ => by simp; omega
  | e + 12, he => by omega
theorem acc_one {s t : ByteArray} {q : Nat} (hs : accB s = true) (ht : accB t = true) (hq : q < 12) (h : ∀ j, j ≠ q → bt s j = bt t j) : bt s q = bt t q := by
  obtain ⟨ds, zs, _, ns⟩ := accB_iff.1 hs
  obtain ⟨dt, zt, _, nt⟩ := accB_iff.1 ht
  have b1 := dig_bd (allT_iff.1 ds q (by omega))
  have b2 := dig_bd (allT_iff.1 dt q (by omega))
  have hd := num_one h 12
  rw [if_pos hq] at hd
  by_cases e : bt s q = bt t q
  · exact e
  · have := by97 (x := bt s q - bt t q) (by omega) (by omega) (12 - 1 - q) (by omega)
    generalize (bt s q - bt t q) * 10 ^ (12 - 1 - q) = y at *
    omega
theorem not_dig {x : Int} (h : digB x = true) : eqB 80 x = false ∧ eqB 10 x = false ∧ ∀ z, nmF z x = false := by
  have := of_decide_eq_true h
  refine ⟨decide_eq_false (by omega), decide_eq_false (by omega), fun z => ?_⟩
  unfold nmF letB
  rw [decide_eq_false (show ¬ (97 ≤ x ∧ x ≤ 122) by omega), decide_eq_false (show ¬ x = 46 by omega)]
  rfl
set_option maxHeartbeats 1000000 in
theorem guard {day : Int} {l : List Py} {n : Nat} (hp : prE day l n = 0) (hn : l.length = n) {s' : ByteArray} (hz : s'.size = (fileT day l n).size) {k : Nat} (hk : k < s'.size) (hd : digB (bt (fileT day l n) k) = true) (hne : bt s' k ≠ bt (fileT day l n) k) (hsame : ∀ j, j ≠ k → bt s' j = bt (fileT day l n) j) {c : Nat} (hf : Form s' c) : cmpE s' (dayT s') (lnsOf s' c) c ≠ 0 := by
  intro hc
  obtain ⟨hF, hD, hL, _⟩ := cmp_back hp hn
  obtain ⟨hdd, h300, hok⟩ := pr_parts hp
  obtain rfl : c = n := by have := hf.2.2.2; have := hF.2.2.2; omega
  obtain ⟨hp', hs'⟩ := cmp_zero hc
  obtain ⟨hdd', _, hok'⟩ := pr_parts hp'
  have hn' := lnsOf_len s' c
  obtain ⟨su, ck⟩ := file_sums (day := day) hn h300 hok
  obtain ⟨su', ck'⟩ := file_sums (day := dayT s') hn' h300 hok'
  rw [hs'] at su' ck'
  have hsz := hF.2.2.2
  generalize hs : fileT day l c = s at *
  generalize hday' : dayT s' = day' at *
  generalize hl' : lnsOf s' c = l' at *
  have key : ¬ (day' = day ∧ l' = l) := by
    rintro ⟨rfl, rfl⟩
    rw [hs] at hs'
    exact hne (by rw [hs'])
  have hP' : ∀ j, j < c → pnth l' j = pyOf s' (25 + 45 * j) := fun j hj => by rw [← hl']; exact pnth_lns s' hj
  have hP : ∀ j, j < c → pnth l j = pyOf s (25 + 45 * j) := fun j hj => by rw [← hL]; exact pnth_lns s hj
  have hline : ∀ j, j < c → (k < 25 + 45 * j ∨ 25 + 45 * j + 45 ≤ k) → pnth l' j = pnth l j := fun j hj hout => by
    rw [hP' j hj, hP j hj]
    exact pyOf_same hz (fun q h1 h2 => hsame q (by omega)) (by omega)
  by_cases k1 : k < 25
  · have hll : l' = l := list_pnth (by omega) (fun j hj => hline j (by omega) (by omega))
    have e2 : s'.extract (25 + 45 * c + 1) (25 + 45 * c + 1 + 10) = s.extract (25 + 45 * c + 1) (25 + 45 * c + 1 + 10) := ext_same hz (fun j h1 h2 => hsame j (by omega)) (by omega)
    rw [e2, ck, hll] at ck'
    have := chk_day (l := l) (a := day') (b := day) c
    unfold chkN at ck'
    exact key ⟨by omega, hll⟩
  have hdays : day' = day := by
    rw [← hday', ← hD]
    unfold dayT
    rw [ext_same hz (fun j h1 h2 => hsame j (by omega)) (by omega)]
  by_cases k2 : 25 + 45 * c ≤ k
  · exact key ⟨hdays, list_pnth (by omega) (fun j hj => hline j (by omega) (by omega))⟩
  obtain ⟨i, q, hkq, hq, hi⟩ : ∃ i q, k = 25 + 45 * i + q ∧ q < 45 ∧ i < c := ⟨(k - 25) / 45, (k - 25) % 45, by omega, by omega, by omega⟩
  have hoth : ∀ j, j < c → j ≠ i → pnth l' j = pnth l j := fun j hj hji => hline j hj (by omega)
  have hall : pnth l' i = pnth l i → False := fun e => key ⟨hdays, list_pnth (by omega) (fun j hj => by
    by_cases ji : j = i
    · rw [ji]; exact e
    · exact hoth j (by omega) ji)⟩
  have hlq := (hF.line hi).1 q hq
  have q1 : 1 ≤ q ∧ q < 32 := by
    obtain ⟨n1, n2, n3⟩ := not_dig hd
    by_cases e0 : q = 0
    · subst e0
      rw [lineQ_0, show 25 + 45 * i = k by omega, n1] at hlq
      cases hlq
    · by_cases e1 : q < 32
      · omega
      · by_cases e2 : q < 44
        · have := lineQ_nam s (25 + 45 * i) (q - 32) (by omega)
          rw [show 32 + (q - 32) = q by omega, hlq, show 25 + 45 * i + 32 + (q - 32) = k by omega, n3] at this
          cases this
        · obtain rfl : q = 44 := by omega
          rw [lineQ_44, show 25 + 45 * i + 44 = k by omega, n2] at hlq
          cases hlq
  have eA : ¬ (1 ≤ q ∧ q < 13) → s'.extract (25 + 45 * i + 1) (25 + 45 * i + 1 + 12) = s.extract (25 + 45 * i + 1) (25 + 45 * i + 1 + 12) := fun h => ext_same hz (fun j h1 h2 => hsame j (by omega)) (by omega)
  have eM : ¬ (13 ≤ q ∧ q < 26) → s'.extract (25 + 45 * i + 13) (25 + 45 * i + 13 + 13) = s.extract (25 + 45 * i + 13) (25 + 45 * i + 13 + 13) := fun h => ext_same hz (fun j h1 h2 => hsame j (by omega)) (by omega)
  have eR : ¬ (26 ≤ q ∧ q < 32) → s'.extract (25 + 45 * i + 26) (25 + 45 * i + 26 + 6) = s.extract (25 + 45 * i + 26) (25 + 45 * i + 26 + 6) := fun h => ext_same hz (fun j h1 h2 => hsame j (by omega)) (by omega)
  have eN : s'.extract (25 + 45 * i + 32) (25 + 45 * i + 32 + 12) = s.extract (25 + 45 * i + 32) (25 + 45 * i + 32 + 12) := ext_same hz (fun j h1 h2 => hsame j (by omega)) (by omega)
  have pA' : (pnth l' i).acc = s'.extract (25 + 45 * i + 1) (25 + 45 * i + 1 + 12) := by rw [hP' i hi]; rfl
  have pA : (pnth l i).acc = s.extract (25 + 45 * i + 1) (25 + 45 * i + 1 + 12) := by rw [hP i hi]; rfl
  have pM' : (pnth l' i).mon = numT (s'.extract (25 + 45 * i + 13) (25 + 45 * i + 13 + 13)) := by rw [hP' i hi]; rfl
  have pM : (pnth l i).mon = numT (s.extract (25 + 45 * i + 13) (25 + 45 * i + 13 + 13)) := by rw [hP i hi]; rfl
  have pR' : (pnth l' i).ref = numT (s'.extract (25 + 45 * i + 26) (25 + 45 * i + 26 + 6)) := by rw [hP' i hi]; rfl
  have pR : (pnth l i).ref = numT (s.extract (25 + 45 * i + 26) (25 + 45 * i + 26 + 6)) := by rw [hP i hi]; rfl
  have pN : (pnth l' i).nam = (pnth l i).nam := by
    rw [hP' i hi, hP i hi]
    show nmT s' (25 + 45 * i + 32) = nmT s (25 + 45 * i + 32)
    unfold nmT
    rw [eN]
  have mk : (pnth l' i).acc = (pnth l i).acc → (pnth l' i).mon = (pnth l i).mon → (pnth l' i).ref = (pnth l i).ref → False := fun h1 h2 h3 => hall (by
    generalize pnth l' i = P at *
    generalize pnth l i = Q at *
    obtain ⟨a1, a2, a3, a4⟩ := P
    obtain ⟨b1, b2, b3, b4⟩ := Q
    simp only at *
    subst h1 h2 h3 pN
    rfl)
  by_cases c1 : q < 13
  · refine hne ?_
    have ha := acc_one (s := (pnth l' i).acc) (t := (pnth l i).acc) (q := q - 1) (hok' i hi).1.1 (hok i hi).1.1 (by omega) (fun j hj => by
      rw [pA', pA]
      by_cases hj12 : j < 12
      · rw [bt_extract s' _ _ j (by omega) (by omega), bt_extract s _ _ j (by omega) (by omega)]
        exact hsame _ (by omega)
      · rw [bt_out (by rw [ByteArray.size_extract]; omega), bt_out (by rw [ByteArray.size_extract]; omega)])
    rw [pA', pA, bt_extract s' _ _ _ (by omega) (by omega), bt_extract s _ _ _ (by omega) (by omega), show 25 + 45 * i + 1 + (q - 1) = k by omega] at ha
    exact ha
  · have hA : (pnth l' i).acc = (pnth l i).acc := by rw [pA', pA, eA (by omega)]
    by_cases c2 : q < 26
    · have hR : (pnth l' i).ref = (pnth l i).ref := by rw [pR', pR, eR (by omega)]
      have e2 : s'.extract 9 (9 + 15) = s.extract 9 (9 + 15) := ext_same hz (fun j h1 h2 => hsame j (by omega)) (by omega)
      rw [e2, su] at su'
      have := sum_one (l := l) (m := l') (i := i) (by omega) (fun j hj hji => hoth j (by omega) hji) l.length (Nat.le_refl _)
      rw [List.take_length, show l.length = l'.length by omega, List.take_length, if_pos (by omega)] at this
      exact mk hA (by omega) hR
    · have hM : (pnth l' i).mon = (pnth l i).mon := by rw [pM', pM, eM (by omega)]
      have e2 : s'.extract (25 + 45 * c + 1) (25 + 45 * c + 1 + 10) = s.extract (25 + 45 * c + 1) (25 + 45 * c + 1 + 10) := ext_same hz (fun j h1 h2 => hsame j (by omega)) (by omega)
      rw [e2, ck, hdays] at ck'
      have h1 := chk_one (l := l) (m := l') (i := i) (n := c) (day := day) hoth c (Nat.le_refl _)
      rw [if_pos hi] at h1
      unfold chkN at ck'
      have ht : term l' i - term l i = ((i : Int) + 1) * ((pnth l' i).ref - (pnth l i).ref) := by
        unfold term
        rw [hA, hM, ← Int.mul_sub]
        congr 1
        omega
      rw [ht] at h1
      have r1 := (hok i hi).2.2
      have r2 := (hok' i hi).2.2
      generalize (pnth l' i).ref = x at *
      generalize (pnth l i).ref = y at *
      by_cases hxy : x = y
      · exact mk hA hM hxy
      · exfalso
        obtain ⟨z, hzz⟩ : ∃ z, z = x - y := ⟨_, rfl⟩
        rw [← hzz] at h1
        have hb : ((i : Int) + 1) * z ≠ 0 := Int.mul_ne_zero (by omega) (by omega)
        have hb1 : -299999700 ≤ ((i : Int) + 1) * z ∧ ((i : Int) + 1) * z ≤ 299999700 := by
          by_cases hpos : 0 ≤ z
          · have u1 := Int.mul_nonneg (show 0 ≤ (i : Int) + 1 by omega) hpos
            have u2 := Int.mul_le_mul (show (i : Int) + 1 ≤ 300 by omega) (show z ≤ 999999 by omega) hpos (by omega)
            omega
          · have u1 := Int.mul_nonneg (show 0 ≤ (i : Int) + 1 by omega) (show 0 ≤ -z by omega)
            have u2 := Int.mul_le_mul (show (i : Int) + 1 ≤ 300 by omega) (show -z ≤ 999999 by omega) (show 0 ≤ -z by omega) (by omega)
            rw [Int.mul_neg] at u1 u2
            omega
        generalize ((i : Int) + 1) * z = y2 at *
        omega
end Go.Proofs.YtdfgkngfpedgdaaDoor
