/-
  Promise P5: a file that is printed has a file's form, and its lines are the payments: no walk here.
-/
import Derived.Test.YtdfgkngfpedgdaaDoorBParsW
namespace Go.Proofs.YtdfgkngfpedgdaaDoor
open Go.RowKit

def tx (l : List UInt8) : ByteArray := ⟨l.toArray⟩
theorem tx_list (l : List UInt8) : (tx l).data.toList = l := by simp [tx]
theorem tx_size (l : List UInt8) : (tx l).size = l.length := by rw [size_toList, tx_list]
theorem bt_tx {l : List UInt8} {j : Nat} {x : UInt8} (h : l[j]? = some x) : bt (tx l) j = (x.toNat : Int) := bt_mk l h
theorem bt_same {l m : List UInt8} {i j : Nat} (h : l[i]? = m[j]?) : bt (tx l) i = bt (tx m) j := by
  cases e : m[j]? with
  | some x => rw [bt_tx (h.trans e), bt_tx e]
  | none =>
    rw [bt_out (by rw [tx_size]; have := List.getElem?_eq_none_iff.1 (h.trans e); omega), bt_out (by rw [tx_size]; have := List.getElem?_eq_none_iff.1 e; omega)]
theorem bt_mid {L P C S : List UInt8} (h : L = P ++ C ++ S) {p : Nat} (hp : P.length = p) {j : Nat} (hj : j < C.length) : bt (tx L) (p + j) = bt (tx C) j := by
  apply bt_same
  rw [h, List.append_assoc, List.getElem?_append_right (by omega), List.getElem?_append_left (by omega)]
  congr 1
  omega
theorem ext_mid {L P C S : List UInt8} (h : L = P ++ C ++ S) {p c : Nat} (hp : P.length = p) (hc : C.length = c) : (tx L).extract p (p + c) = tx C := by
  have hz : p + c ≤ (tx L).size := by rw [tx_size, h, List.length_append, List.length_append]; omega
  apply ba_eq
  · rw [ByteArray.size_extract, tx_size C]; omega
  · intro j hj
    rw [ByteArray.size_extract] at hj
    rw [bt_extract _ p (p + c) j hz (by omega)]
    exact bt_mid h hp (by omega)
theorem sfx_mem {n : Nat} : ∀ {d : Nat} {x : UInt8}, x ∈ sfx n d → ∃ m, m < 10 ∧ x = dig m
  | 0, x, h => by simp [sfx] at h
  | d + 1, x, h => by
    rw [sfx, List.mem_cons] at h
    rcases h with rfl | h
    · exact ⟨_, Nat.mod_lt _ (by omega), rfl⟩
    · exact sfx_mem h
theorem dig_ok {m : Nat} (h : m < 10) : digB (((dig m).toNat : Int)) = true := digB_of (by rw [dig_toNat m h]; omega)
theorem bt_all {P : Int → Bool} {l : List UInt8} (h : ∀ x ∈ l, P ((x.toNat : Int)) = true) {j : Nat} (hj : j < l.length) : P (bt (tx l) j) = true := by
  rw [bt_tx (List.getElem?_eq_getElem hj)]
  exact h _ (List.getElem_mem hj)
theorem sfx_digB {n d : Nat} {x : UInt8} (h : x ∈ sfx n d) : digB ((x.toNat : Int)) = true := by
  obtain ⟨m, hm, rfl⟩ := sfx_mem h
  exact dig_ok hm
theorem numN_sfx : ∀ (d n : Nat), n < 10 ^ d → numN (tx (sfx n d)) d = (n : Int)
  | 0, n, h => by
    obtain rfl : n = 0 := by simpa using h
    rfl
  | d + 1, n, h => by
    have h10 : n / 10 < 10 ^ d := by
      rw [Nat.pow_succ] at h
      omega
    have ih := numN_sfx d (n / 10) h10
    have e : sfx n (d + 1) = sfx (n / 10) d ++ [dig (n % 10)] := sfx_snoc n d
    rw [numN, e]
    have e1 : numN (tx (sfx (n / 10) d ++ [dig (n % 10)])) d = numN (tx (sfx (n / 10) d)) d := numN_congr (fun j hj => bt_same (by rw [List.getElem?_append_left (by rw [sfx_len]; exact hj)]))
    have e2 : bt (tx (sfx (n / 10) d ++ [dig (n % 10)])) d = 48 + ((n % 10 : Nat) : Int) := by
      rw [bt_tx (x := dig (n % 10)) (by rw [List.getElem?_append_right (by rw [sfx_len]; omega), sfx_len]; simp), dig_toNat _ (Nat.mod_lt _ (by omega))]
    rw [e1, e2, ih]
    omega
theorem numT_sfx {d n : Nat} (h : n < 10 ^ d) : numT (tx (sfx n d)) = (n : Int) := by
  unfold numT
  rw [tx_size, sfx_len]
  exact numN_sfx d n h
/-- What lies at k within a text is a text of its own. -/
theorem lineQ_loc {s t : ByteArray} {k : Nat} (h : ∀ j, j < 45 → bt s (k + j) = bt t j) {j : Nat} (hj : j < 45) : lineQ s k j = lineQ t 0 j := by
  have hp : ∀ q, q < 12 → prv s (k + 32) q = prv t (0 + 32) q := fun q hq => by
    unfold prv
    split
    · rfl
    · rw [show k + 32 + (q - 1) = k + (32 + (q - 1)) by omega, h _ (by omega), Nat.zero_add]
  unfold lineQ
  rw [h j hj, Nat.zero_add]
  split
  · rfl
  · split
    · rfl
    · split
      · rw [hp _ (by omega)]
      · rfl
theorem ext_loc {s t : ByteArray} {k : Nat} (h : ∀ j, j < 45 → bt s (k + j) = bt t j) (hs : k + 45 ≤ s.size) (ht : t.size = 45) {a n : Nat} (ha : a + n ≤ 45) : s.extract (k + a) (k + a + n) = t.extract (0 + a) (0 + a + n) := by
  apply ba_eq
  · rw [ByteArray.size_extract, ByteArray.size_extract]; omega
  · intro j hj
    rw [ByteArray.size_extract] at hj
    rw [bt_extract s _ _ j (by omega) (by omega), bt_extract t _ _ j (by omega) (by omega), Nat.add_assoc, h _ (by omega)]
    congr 1
    omega
theorem pyOf_loc {s t : ByteArray} {k : Nat} (h : ∀ j, j < 45 → bt s (k + j) = bt t j) (hs : k + 45 ≤ s.size) (ht : t.size = 45) : pyOf s k = pyOf t 0 := by
  unfold pyOf nmT
  rw [ext_loc h hs ht (a := 1) (n := 12) (by omega), ext_loc h hs ht (a := 13) (n := 13) (by omega), ext_loc h hs ht (a := 26) (n := 6) (by omega), ext_loc h hs ht (a := 32) (n := 12) (by omega)]
theorem data_mem {P : Int → Bool} {s : ByteArray} (h : allT P s = true) : ∀ x ∈ s.data.toList, P ((x.toNat : Int)) = true := by
  intro x hx
  obtain ⟨j, hj, e⟩ := List.mem_iff_getElem.1 hx
  have hj' : j < s.size := by rw [size_toList]; exact hj
  have := allT_iff.1 h j hj'
  rw [bt_in hj'] at this
  have e2 : s[j] = x := by rw [← e]; rfl
  rw [← e2]
  exact this
theorem tx_data (s : ByteArray) : tx s.data.toList = s := ba_ext (tx_list _)
theorem payL_form {p : Py} (h : OkP p) {j : Nat} (hj : j < 45) : lineQ (tx (payL p)) 0 j = true := by
  obtain ⟨_, _, hz, hd⟩ := h.num
  have hn := h.nam
  have hl : allT letB p.nam = true := by
    have := h.1.2
    unfold nameB at this
    rw [Bool.and_eq_true] at this
    exact this.1
  have hz' : p.acc.data.toList.length = 12 := by rw [← size_toList]; exact hz
  have hn' : p.nam.data.toList.length = p.nam.size := (size_toList _).symm
  by_cases e0 : j = 0
  · subst e0
    have : bt (tx (payL p)) (0 + 0) = bt (tx [80]) 0 := bt_mid (P := []) (C := [80]) (S := p.acc.data.toList ++ sfx p.mon.toNat 13 ++ sfx p.ref.toNat 6 ++ p.nam.data.toList ++ List.replicate (12 - p.nam.size) 46 ++ [10]) (by simp [payL]) rfl (by simp)
    rw [lineQ_0]
    show eqB 80 (bt (tx (payL p)) (0 + 0)) = true
    rw [this]
    decide
  by_cases e1 : j < 32
  · have := bt_mid (L := payL p) (P := [80]) (C := p.acc.data.toList ++ sfx p.mon.toNat 13 ++ sfx p.ref.toNat 6) (S := p.nam.data.toList ++ List.replicate (12 - p.nam.size) 46 ++ [10]) (by simp [payL]) (p := 1) rfl (j := j - 1) (by simp [sfx_len, hz']; omega)
    have e : j = 1 + (j - 1) := by omega
    rw [e, lineQ_dig _ 0 1 (j - 1) (by omega), show 0 + 1 + (j - 1) = 1 + (j - 1) by omega, this]
    refine bt_all (fun x hx => ?_) (by simp [sfx_len, hz']; omega)
    rw [List.mem_append, List.mem_append] at hx
    rcases hx with (hx | hx) | hx
    · exact data_mem hd x hx
    · exact sfx_digB hx
    · exact sfx_digB hx
  by_cases e2 : j < 44
  · have hb : ∀ q, q < 12 → bt (tx (payL p)) (32 + q) = bt (tx (p.nam.data.toList ++ List.replicate (12 - p.nam.size) 46)) q := fun q hq => bt_mid (P := [80] ++ p.acc.data.toList ++ sfx p.mon.toNat 13 ++ sfx p.ref.toNat 6) (C := p.nam.data.toList ++ List.replicate (12 - p.nam.size) 46) (S := [10]) (by simp [payL]) (by simp [sfx_len, hz']) (by rw [List.length_append, hn', List.length_replicate]; omega)
    have hlet : ∀ q, q < p.nam.size → letB (bt (tx (p.nam.data.toList ++ List.replicate (12 - p.nam.size) 46)) q) = true := fun q hq => by
      rw [bt_same (m := p.nam.data.toList) (j := q) (by rw [List.getElem?_append_left (by omega)])]
      exact bt_all (data_mem hl) (by omega)
    have hdot : ∀ q, p.nam.size ≤ q → q < 12 → bt (tx (p.nam.data.toList ++ List.replicate (12 - p.nam.size) 46)) q = 46 := fun q h1 h2 => by
      rw [bt_tx (x := 46) (by rw [List.getElem?_append_right (by omega), List.getElem?_replicate, if_pos (by omega)])]
      rfl
    have e : j = 32 + (j - 32) := by omega
    rw [e, lineQ_nam _ 0 (j - 32) (by omega), Nat.zero_add]
    generalize hq : j - 32 = q
    have hq12 : q < 12 := by omega
    rw [hb q hq12]
    have hprv : prv (tx (payL p)) 32 q = if q = 0 then 0 else bt (tx (p.nam.data.toList ++ List.replicate (12 - p.nam.size) 46)) (q - 1) := by
      unfold prv
      split
      · rfl
      · exact hb _ (by omega)
    rw [hprv]
    by_cases hlt : q < p.nam.size
    · have h1 := hlet q hlt
      unfold nmF
      rw [h1]
      by_cases h0 : q = 0
      · rw [if_pos h0]; rfl
      · rw [if_neg h0]
        have h2 := hlet (q - 1) (by omega)
        have h3 : ¬ bt (tx (p.nam.data.toList ++ List.replicate (12 - p.nam.size) 46)) (q - 1) = 46 := by
          unfold letB at h2
          have := of_decide_eq_true h2
          omega
        rw [decide_eq_false h3]
        rfl
    · rw [if_neg (by omega), hdot q (by omega) hq12]
      unfold nmF
      have h3 : ¬ bt (tx (p.nam.data.toList ++ List.replicate (12 - p.nam.size) 46)) (q - 1) = 0 := by
        by_cases h4 : q - 1 < p.nam.size
        · have h2 := hlet (q - 1) h4
          unfold letB at h2
          have := of_decide_eq_true h2
          omega
        · rw [hdot (q - 1) (by omega) (by omega)]; decide
      rw [decide_eq_false h3]
      simp
  · obtain rfl : j = 44 := by omega
    have := bt_mid (L := payL p) (P := [80] ++ p.acc.data.toList ++ sfx p.mon.toNat 13 ++ sfx p.ref.toNat 6 ++ p.nam.data.toList ++ List.replicate (12 - p.nam.size) 46) (C := [10]) (S := []) (by simp [payL]) (p := 44) (by simp [sfx_len, hz']; omega) (j := 0) (by simp)
    rw [lineQ_44]
    show eqB 10 (bt (tx (payL p)) (0 + 44)) = true
    rw [show 0 + 44 = 44 + 0 from rfl, this]
    decide
theorem payL_py {p : Py} (h : OkP p) : pyOf (tx (payL p)) 0 = p := by
  obtain ⟨_, _, hz, hd⟩ := h.num
  have hn := h.nam
  have hl : allT letB p.nam = true := by
    have := h.1.2
    unfold nameB at this
    rw [Bool.and_eq_true] at this
    exact this.1
  have hz' : p.acc.data.toList.length = 12 := by rw [← size_toList]; exact hz
  have hn' : p.nam.data.toList.length = p.nam.size := (size_toList _).symm
  obtain ⟨_, ⟨m0, m1⟩, r0, r1⟩ := h
  have a1 : (tx (payL p)).extract 1 (1 + 12) = p.acc := (ext_mid (P := [80]) (C := p.acc.data.toList) (S := sfx p.mon.toNat 13 ++ sfx p.ref.toNat 6 ++ p.nam.data.toList ++ List.replicate (12 - p.nam.size) 46 ++ [10]) (by simp [payL]) rfl hz').trans (tx_data _)
  have a2 : (tx (payL p)).extract 13 (13 + 13) = tx (sfx p.mon.toNat 13) := ext_mid (P := [80] ++ p.acc.data.toList) (C := sfx p.mon.toNat 13) (S := sfx p.ref.toNat 6 ++ p.nam.data.toList ++ List.replicate (12 - p.nam.size) 46 ++ [10]) (by simp [payL]) (by simp [hz']) (sfx_len _ _)
  have a3 : (tx (payL p)).extract 26 (26 + 6) = tx (sfx p.ref.toNat 6) := ext_mid (P := [80] ++ p.acc.data.toList ++ sfx p.mon.toNat 13) (C := sfx p.ref.toNat 6) (S := p.nam.data.toList ++ List.replicate (12 - p.nam.size) 46 ++ [10]) (by simp [payL]) (by simp [hz', sfx_len]) (sfx_len _ _)
  have a4 : (tx (payL p)).extract 32 (32 + 12) = tx (p.nam.data.toList ++ List.replicate (12 - p.nam.size) 46) := ext_mid (P := [80] ++ p.acc.data.toList ++ sfx p.mon.toNat 13 ++ sfx p.ref.toNat 6) (C := p.nam.data.toList ++ List.replicate (12 - p.nam.size) 46) (S := [10]) (by simp [payL]) (by simp [hz', sfx_len]) (by rw [List.length_append, hn', List.length_replicate]; omega)
  have p13 : (10 : Nat) ^ 13 = 10000000000000 := by decide
  have p6 : (10 : Nat) ^ 6 = 1000000 := by decide
  have b2 : numT (tx (sfx p.mon.toNat 13)) = p.mon := by rw [numT_sfx (by omega)]; omega
  have b3 : numT (tx (sfx p.ref.toNat 6)) = p.ref := by rw [numT_sfx (by omega)]; omega
  have b4 : Lib.trimRightB (tx (p.nam.data.toList ++ List.replicate (12 - p.nam.size) 46)).data.toList 46 = p.nam.data.toList := by
    rw [tx_list, Lib.trimRightB_take _ 46 p.nam.size (by rw [List.length_append]; omega)]
    · rw [List.take_append_of_le_length (by omega), ← hn', List.take_length]
    · intro j b hj hb
      rw [List.getElem?_append_right (by omega), List.getElem?_replicate] at hb
      split at hb
      · injection hb with e; exact e.symm
      · cases hb
    · intro b h0 hb
      rw [List.getElem?_append_left (by omega)] at hb
      have hm := List.mem_of_getElem? hb
      have := data_mem hl b hm
      intro e
      subst e
      exact absurd this (by decide)
  unfold pyOf nmT
  simp only [Nat.zero_add]
  rw [a1, a2, a3, a4, b2, b3, b4]
theorem lines_at (l : List Py) (i : Nat) : ∀ {n : Nat}, i < n → ∃ R, linesL l n = linesL l i ++ payL (pnth l i) ++ R
  | 0, h => by omega
  | n + 1, h => by
    by_cases e : i = n
    · subst e
      exact ⟨[], by rw [linesL, List.append_nil]⟩
    · obtain ⟨R, hR⟩ := lines_at l i (n := n) (by omega)
      exact ⟨R ++ payL (pnth l n), by rw [linesL, hR, List.append_assoc]⟩
theorem list_pnth {a b : List Py} (hl : a.length = b.length) (h : ∀ j, j < a.length → pnth a j = pnth b j) : a = b := by
  apply List.ext_getElem hl
  intro j h1 h2
  have := h j h1
  unfold pnth at this
  rwa [List.getD_eq_getElem?_getD, List.getD_eq_getElem?_getD, List.getElem?_eq_getElem h1, List.getElem?_eq_getElem h2] at this
theorem file_facts {day : Int} {l : List Py} {n : Nat} (hd : 0 ≤ day ∧ day ≤ 73048) (hn : l.length = n) (hm : n ≤ 300) (hok : ∀ j, j < n → OkP (pnth l j)) :
    Form (fileT day l n) n ∧ dayT (fileT day l n) = day ∧ lnsOf (fileT day l n) n = l := by
  have hll := linesL_len hok n (Nat.le_refl _)
  have hF : fileT day l n = tx (fileL day l n) := rfl
  obtain ⟨tot, hT⟩ : ∃ tot, (sumL l).toNat = tot := ⟨_, rfl⟩
  obtain ⟨ck, hC⟩ : ∃ ck, (chkN l day n).toNat = ck := ⟨_, rfl⟩
  have hL : fileL day l n = headL day.toNat n tot ++ linesL l n ++ endL ck := by unfold fileL; rw [hT, hC]
  have hsz : (fileL day l n).length = 25 + 45 * n + 12 := by rw [hL, List.length_append, List.length_append, headL_len, endL_len, hll]
  rw [hF]
  generalize fileL day l n = L at *
  have p5 : (10 : Nat) ^ 5 = 100000 := by decide
  have p3 : (10 : Nat) ^ 3 = 1000 := by decide
  have hday : (tx L).extract 1 (1 + 5) = tx (sfx day.toNat 5) := ext_mid (P := [70]) (C := sfx day.toNat 5) (S := sfx n 3 ++ sfx tot 15 ++ [10] ++ linesL l n ++ endL ck) (by rw [hL]; simp [headL]) rfl (sfx_len _ _)
  have hcnt : (tx L).extract 6 (6 + 3) = tx (sfx n 3) := ext_mid (P := [70] ++ sfx day.toNat 5) (C := sfx n 3) (S := sfx tot 15 ++ [10] ++ linesL l n ++ endL ck) (by rw [hL]; simp [headL]) (by simp [sfx_len]) (sfx_len _ _)
  have hline : ∀ i, i < n → ∀ j, j < 45 → bt (tx L) (25 + 45 * i + j) = bt (tx (payL (pnth l i))) j := fun i hi j hj => by
    obtain ⟨R, hR⟩ := lines_at l i hi
    refine bt_mid (P := headL day.toNat n tot ++ linesL l i) (C := payL (pnth l i)) (S := R ++ endL ck) (by rw [hL, hR]; simp) ?_ ?_
    · rw [List.length_append, headL_len, linesL_len hok i (by omega)]
    · rw [payL_len (hok i hi)]; exact hj
  have hts : (tx L).size = 25 + 45 * n + 12 := by rw [tx_size, hsz]
  refine ⟨⟨?_, by omega, ?_, hts⟩, ?_, ?_⟩
  · rw [hcnt, numT_sfx (by omega)]
  · intro j hj
    by_cases h25 : j < 25
    · unfold fileQ
      rw [if_pos h25]
      unfold headQ
      by_cases e0 : j = 0
      · subst e0
        rw [if_pos rfl]
        have := bt_mid (L := L) (P := []) (C := [70]) (S := sfx day.toNat 5 ++ sfx n 3 ++ sfx tot 15 ++ [10] ++ linesL l n ++ endL ck) (by rw [hL]; simp [headL]) (p := 0) rfl (j := 0) (by simp)
        rw [show (0 : Nat) = 0 + 0 from rfl, this]
        decide
      · rw [if_neg e0]
        by_cases e1 : j < 24
        · rw [if_pos e1]
          have := bt_mid (L := L) (P := [70]) (C := sfx day.toNat 5 ++ sfx n 3 ++ sfx tot 15) (S := [10] ++ linesL l n ++ endL ck) (by rw [hL]; simp [headL]) (p := 1) rfl (j := j - 1) (by simp [sfx_len]; omega)
          rw [show j = 1 + (j - 1) by omega, this]
          refine bt_all (fun x hx => ?_) (by simp [sfx_len]; omega)
          rw [List.mem_append, List.mem_append] at hx
          rcases hx with (hx | hx) | hx <;> exact sfx_digB hx
        · rw [if_neg e1]
          obtain rfl : j = 24 := by omega
          have := bt_mid (L := L) (P := [70] ++ sfx day.toNat 5 ++ sfx n 3 ++ sfx tot 15) (C := [10]) (S := linesL l n ++ endL ck) (by rw [hL]; simp [headL]) (p := 24) (by simp [sfx_len]) (j := 0) (by simp)
          rw [show 24 = 24 + 0 from rfl, this]
          decide
    · by_cases hl2 : j < 25 + 45 * n
      · obtain ⟨i, q, rfl, hq, hi⟩ : ∃ i q, j = 25 + 45 * i + q ∧ q < 45 ∧ i < n := ⟨(j - 25) / 45, (j - 25) % 45, by omega, by omega, by omega⟩
        rw [fileQ_line _ n i q hi hq, lineQ_loc (hline i hi) hq]
        exact payL_form (hok i hi) hq
      · obtain ⟨q, rfl⟩ : ∃ q, j = 25 + 45 * n + q := ⟨j - (25 + 45 * n), by omega⟩
        rw [fileQ_tail]
        have hb : ∀ r, r < 12 → bt (tx L) (25 + 45 * n + r) = bt (tx (endL ck)) r := fun r hr => bt_mid (P := headL day.toNat n tot ++ linesL l n) (C := endL ck) (S := []) (by rw [hL]; simp) (by rw [List.length_append, headL_len, hll]) (by rw [endL_len]; exact hr)
        unfold tailQ
        by_cases e0 : q = 0
        · subst e0
          rw [if_pos rfl, hb 0 (by omega)]
          rfl
        · rw [if_neg e0]
          by_cases e1 : q < 11
          · rw [if_pos e1, hb q (by omega)]
            have := bt_mid (L := endL ck) (P := [69]) (C := sfx ck 10) (S := [10]) (by simp [endL]) (p := 1) rfl (j := q - 1) (by simp [sfx_len]; omega)
            rw [show q = 1 + (q - 1) by omega, this]
            exact bt_all (fun x hx => sfx_digB hx) (by simp [sfx_len]; omega)
          · rw [if_neg e1]
            by_cases e2 : q < 12
            · obtain rfl : q = 11 := by omega
              have := bt_mid (L := endL ck) (P := [69] ++ sfx ck 10) (C := [10]) (S := []) (by simp [endL]) (p := 11) (by simp [sfx_len]) (j := 0) (by simp)
              rw [if_pos e2, hb 11 e2, show 11 = 11 + 0 from rfl, this]
              decide
            · rw [if_neg e2, bt_out (by omega)]
              decide
  · unfold dayT
    rw [hday, numT_sfx (by omega)]
    omega
  · apply list_pnth
    · rw [lnsOf_len, hn]
    · intro j hj
      rw [lnsOf_len] at hj
      rw [pnth_lns _ hj, pyOf_loc (hline j hj) (by omega) (by rw [tx_size, payL_len (hok j hj)])]
      exact payL_py (hok j hj)
/-- Of a text of a file's form it is known what Parse comes to. -/
theorem ParseIs.form {s : ByteArray} {w w' : World} {e : Ending} (h : ParseIs s w e w') {c : Nat} (hf : Form s c) : Below w.heap.size w w' ∧ ((cmpE s (dayT s) (lnsOf s c) c = 0 ∧ ∃ v, e = .returned (.tuple #[.int .i64 (dayT s), v, .agg #[.int .i64 0, .int .i64 0]]) ∧ GrowP w' w.heap.size v (lnsOf s c))
    ∨ (cmpE s (dayT s) (lnsOf s c) c ≠ 0 ∧ e = .returned (.tuple #[.int .i64 0, .slice none 0 0, .agg #[.int .i64 (cmpE s (dayT s) (lnsOf s c) c), .int .i64 0]]))) := by
  refine ⟨h.1, ?_⟩
  rcases h.2 with ⟨c', v, h1, h2, h3, h4⟩ | ⟨er, a, h1, h2, ⟨_, c', o, _, h4, h5, h6⟩ | ⟨rfl, c', h4, h5⟩⟩
  · obtain rfl : c' = c := by have := h1.1.symm.trans hf.1; omega
    exact .inl ⟨h2, v, h3, h4⟩
  · exfalso
    have key : fileQ s c' o = true := by
      rcases h4 with h4 | h4
      · have : fileQ s c' o = fileQ s c o := by unfold fileQ; rw [if_pos h4, if_pos h4]
        rw [this]
        exact hf.2.2.1 o (by omega)
      · obtain rfl : c' = c := by have := h4.symm.trans hf.1; omega
        exact hf.2.2.1 o h6.1
    rw [h6.2.2] at key
    cases key
  · obtain rfl : c' = c := by have := h4.1.symm.trans hf.1; omega
    subst h5
    exact .inr ⟨h1, h2⟩
/-- A file that is printed. -/
theorem cmp_back {day : Int} {l : List Py} {n : Nat} (hp : prE day l n = 0) (hn : l.length = n) : Form (fileT day l n) n ∧ dayT (fileT day l n) = day ∧ lnsOf (fileT day l n) n = l ∧ cmpE (fileT day l n) day l n = 0 := by
  have hd : dayB day = true := by
    cases e : dayB day
    · rw [(pr_day (l := l) (n := n) e).1] at hp; omega
    · rfl
  have hpay : payE l n = 0 := by
    by_cases e : payE l n = 0
    · exact e
    · rw [(pr_pay hd e).1] at hp; exact hp
  obtain ⟨h300, hall, _⟩ := payE_zero hpay
  obtain ⟨h1, h2, h3⟩ := file_facts (dayB_iff.1 hd) hn h300 (okP_of hall)
  exact ⟨h1, h2, h3, cmp_ok (by omega) hp rfl⟩
theorem cmp_zero {s : ByteArray} {day : Int} {l : List Py} {n : Nat} (h : cmpE s day l n = 0) : prE day l n = 0 ∧ fileT day l n = s := by
  unfold cmpE at h
  by_cases h1 : 300 < n
  · rw [if_pos h1] at h; omega
  · rw [if_neg h1] at h
    by_cases h2 : prE day l n = 0
    · rw [if_pos h2] at h
      by_cases h3 : fileT day l n = s
      · exact ⟨h2, h3⟩
      · rw [if_neg h3] at h; omega
    · rw [if_neg h2] at h; exact absurd h h2
end Go.Proofs.YtdfgkngfpedgdaaDoor
