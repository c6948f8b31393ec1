/-
  Promise P5: the walk of the reference's PaySum, and of the law BankParts: it answers true at every input.
-/
import Derived.Test.YtdfgkngfpedgdaaDoorBRej
import Derived.Test.YtdfgkngfpedgdaaDoorLBankAccounts
namespace Go.Proofs.YtdfgkngfpedgdaaDoor
open Go.RowKit

/-- What payments come to. -/
def sumL : List Py → Int
  | [] => 0
  | p :: l => p.mon + sumL l
theorem sumL_append : ∀ l m : List Py, sumL (l ++ m) = sumL l + sumL m
  | [], m => by simp [sumL]
  | p :: l, m => by rw [List.cons_append, sumL, sumL, sumL_append l m]; omega
theorem take_snoc {l : List Py} {k : Nat} (h : k < l.length) : l.take (k + 1) = l.take k ++ [pnth l k] := by
  rw [List.take_add_one, List.getElem?_eq_getElem h]
  simp [pnth, List.getD_eq_getElem?_getD, h]
def MonB (l : List Py) : Prop := ∀ j, j < l.length → 0 ≤ (pnth l j).mon ∧ (pnth l j).mon ≤ 1000000000000
theorem sumL_bd {l : List Py} (h : MonB l) : ∀ k, k ≤ l.length → 0 ≤ sumL (l.take k) ∧ sumL (l.take k) ≤ 1000000000000 * k
  | 0, _ => by simp [sumL]
  | k + 1, hk => by
    have ih := sumL_bd h k (by omega)
    have := h k (by omega)
    rw [take_snoc (by omega), sumL_append]
    simp [sumL]
    omega
set_option maxRecDepth 100000 in
set_option maxHeartbeats 1000000 in
theorem paySum_ref (a : Option Addr) (n cap : Nat) (l : List Py) (w : World) (hc : CameP w a l) (hn : l.length = n) (hm : n ≤ 1000) (hb : MonB l) :
    Calls Tryd.prog 28 #[.slice a n cap] w fun e w' => e = .returned (.int .i64 (sumL l)) ∧ w' = w := by
  have HO := Lib.hid (fun h0 => hc.open hn h0)
  have HN := Lib.hid hn
  have HMB := Lib.hid hb
  clear hc hn hb
  go_enter Tryd.func28, Tryd.ntmps28
  go_wp2_with fail
  go_loop [3, 4] (fun v i => ∃ k : Nat, k ≤ n ∧ i = .int .i64 k ∧ v = .int .i64 (sumL (l.take k))) (fun _ i => n - (intOf i).toNat)
  case atStart => exact ⟨0, Nat.zero_le _, rfl, rfl⟩
  case round =>
    obtain ⟨k, hk, rfl, rfl⟩ := hrel
    by_cases hlt : k < n
    · have hlt' : (k : Int) < (n : Int) := by omega
      obtain ⟨b, off, rfl, hbl, hcell⟩ := HO.out (by omega)
      obtain ⟨x0, x1, x2, x3⟩ := hcell w (Below.refl _ _) k hlt
      have HS : Hid (sumL (l.take (k + 1)) = sumL (l.take k) + (pnth l k).mon) := by unfold Hid; rw [take_snoc (by rw [HN.out]; exact hlt), sumL_append]; simp [sumL]
      have hb1 := sumL_bd HMB.out k (by rw [HN.out]; exact hk)
      have hb2 := HMB.out k (by rw [HN.out]; exact hlt)
      obtain ⟨s0, s1⟩ := hb1
      obtain ⟨m0, m1⟩ := hb2
      have s2 : sumL (l.take k) ≤ 1000000000000000 := by omega
      clear hcell s1
      generalize sumL (l.take k) = S at *
      generalize (pnth l k).mon = mo at *
      go_wp2_with fail
      go_round
      case rel => exact ⟨k + 1, by omega, by go_num, by rw [HS.out]⟩
      case measure => simp [intOf]; omega
    · obtain rfl : n = k := by omega
      have HT : Hid (l.take n = l) := List.take_of_length_le (by rw [HN.out]; exact Nat.le_refl _)
      rw [HT.out]
      go_wp2_with fail
      go_ret
      exact ⟨rfl, rfl⟩
/-- How many of the first k have a ref that is so. -/
def cntB (l : List Py) (P : Int → Bool) : Nat → Nat
  | 0 => 0
  | k + 1 => cntB l P k + if P (pnth l k).ref = true then 1 else 0
theorem selP_cnt (l : List Py) (P : Int → Bool) : ∀ k, (selP l P k).length = cntB l P k
  | 0 => rfl
  | k + 1 => by
    rw [selP, cntB, List.length_append, selP_cnt l P k]
    split <;> simp
theorem cntB_not (l : List Py) (P : Int → Bool) : ∀ k, cntB l (fun x => !P x) k + cntB l P k = k
  | 0 => rfl
  | k + 1 => by
    have := cntB_not l P k
    rw [cntB, cntB]
    cases h : P (pnth l k).ref <;> simp <;> omega
theorem cntB_one (l : List Py) (y : Int) : ∀ k, dupB l k = false → cntB l (fun x => y == x) k = if metR l y k = true then 1 else 0
  | 0, _ => rfl
  | k + 1, hd => by
    rw [dupB, Bool.or_eq_false_iff] at hd
    rw [cntB, cntB_one l y k hd.1, metR]
    by_cases e : (pnth l k).ref = y
    · have h1 : (y == (pnth l k).ref) = true := by simpa using e.symm
      have h2 : ((pnth l k).ref == y) = true := by simpa using e
      rw [e] at hd
      rw [hd.2, h1, h2]
      rfl
    · have h1 : (y == (pnth l k).ref) = false := by simpa using fun q => e q.symm
      have h2 : ((pnth l k).ref == y) = false := by simpa using e
      rw [h1, h2, Bool.or_false]
      simp
theorem cntB_or (l : List Py) (P Q : Int → Bool) (h : ∀ x, P x = true → Q x = false) : ∀ k, cntB l (fun x => P x || Q x) k = cntB l P k + cntB l Q k
  | 0 => rfl
  | k + 1 => by
    rw [cntB, cntB, cntB, cntB_or l P Q h k]
    cases h1 : P (pnth l k).ref
    · simp; omega
    · rw [h _ h1]; simp; omega
theorem cnt_refs {l : List Py} {n : Nat} {z : List Int} (hd : dupB l n = false) : ∀ m, (∀ j, j < m → badI l n z j = 0) → cntB l (fun x => metI z x m) n = m
  | 0, _ => by
    have : ∀ k, cntB l (fun x => metI z x 0) k = 0 := by
      intro k
      induction k with
      | zero => rfl
      | succ q ih => rw [cntB, ih]; rfl
    exact this n
  | m + 1, h => by
    have ih := cnt_refs hd m (fun j hj => h j (by omega))
    have hb := h m (by omega)
    have hmet : metR l (nth z m) n = true := by
      cases q : metR l (nth z m) n
      · rw [badI_none q] at hb; omega
      · rfl
    have hnew : metI z (nth z m) m = false := by
      cases q : metI z (nth z m) m
      · rfl
      · rw [badI_twice hmet q] at hb; omega
    have e : (fun x => metI z x (m + 1)) = fun x => (fun x => metI z x m) x || (fun x => nth z m == x) x := rfl
    rw [e, cntB_or l _ _ (fun x hx => by
      have : x ≠ nth z m := fun q => by rw [q, hnew] at hx; cases hx
      simpa using fun q : nth z m = x => this q.symm), ih, cntB_one l _ n hd, hmet]
    rfl
theorem sum_sel {l : List Py} (P : Int → Bool) : ∀ k, k ≤ l.length → sumL (selP l (fun x => !P x) k) + sumL (selP l P k) = sumL (l.take k)
  | 0, _ => by simp [selP, sumL]
  | k + 1, hk => by
    have ih := sum_sel (l := l) P k (by omega)
    rw [take_snoc (by omega), selP, selP, sumL_append, sumL_append, sumL_append, ← ih]
    cases h : P (pnth l k).ref <;> simp [sumL] <;> omega
theorem sel_mem {l : List Py} {P : Int → Bool} : ∀ {k : Nat} {p : Py}, p ∈ selP l P k → ∃ j, j < k ∧ p = pnth l j
  | 0, p, h => by simp [selP] at h
  | k + 1, p, h => by
    rw [selP, List.mem_append] at h
    rcases h with h | h
    · obtain ⟨j, hj, e⟩ := sel_mem h
      exact ⟨j, by omega, e⟩
    · split at h
      · simp at h
        exact ⟨k, by omega, h⟩
      · simp at h
theorem pnth_mem {l : List Py} {j : Nat} (h : j < l.length) : pnth l j ∈ l := by
  unfold pnth
  rw [List.getD_eq_getElem?_getD, List.getElem?_eq_getElem h]
  exact List.getElem_mem h
theorem mon_of {l : List Py} {n : Nat} (h : ∀ j, j < n → wrongP (pnth l j) = 0) (j : Nat) (hj : j < n) : 0 ≤ (pnth l j).mon ∧ (pnth l j).mon ≤ 1000000000000 := by
  have := (wrongP_zero (h j hj)).2.2.1
  omega
theorem monB_sel {l : List Py} {n : Nat} (h : ∀ j, j < n → wrongP (pnth l j) = 0) (P : Int → Bool) : MonB (selP l P n) := by
  intro j hj
  obtain ⟨i, hi, e⟩ := sel_mem (pnth_mem hj)
  rw [e]
  exact mon_of h i hi
set_option maxRecDepth 100000 in
set_option maxHeartbeats 2000000 in
theorem walk_bankParts {w : World} (a : Option Addr) (n cap : Nat) (l : List Py) (hc : CameP w a l) (hn : l.length = n) (hm : n ≤ maxLen) (hf : ∀ j, j < n → FitP (pnth l j))
    (za : Option Addr) (m zcap : Nat) (z : List Int) (hz : Came w za z) (hzn : z.length = m) (hzm : m ≤ maxLen) (hzw : ∀ x ∈ z, (Lit.int .i64 x).wf = true) (ht : Tab w) :
    Calls Tryd.prog 9 #[.slice a n cap, .slice za m zcap] w fun e w' => e = .returned (.bool true) ∧ Below w.heap.size w w' := by
  have hmI : n ≤ 9223372036854775807 := by unfold maxLen at hm; omega
  have hzI : m ≤ 9223372036854775807 := by unfold maxLen at hzm; omega
  have HT := Lib.hid ht
  have HC := Lib.hid hc
  have HZ := Lib.hid hz
  have HN := Lib.hid hn
  have HK := Lib.hid (fun w ht hc hz => Reject_any a n cap l za m zcap z w ht hc hf hn hmI hz hzn hzm hzw)
  clear ht hc hz hf hn hzn hzw hm hzm
  go_enter Tryd.func9, Tryd.ntmps9
  go_wp2_with fail
  refine (begun_any _ HT.out).mono ?_
  rintro e w1 ⟨rfl, hb1⟩
  have HB1 := Lib.hid hb1
  clear hb1
  go_wp2_with fail
  refine (HK.out _ (HT.out.below HB1.out) (HC.out.below HB1.out) (HZ.out.below HB1.out)).mono ?_
  rintro e w2 ⟨lv, rv, rfl, hv, hb2⟩
  have HB2 := Lib.hid (HB1.out.trans (hb2.mono HB1.out.size))
  have HC2 := Lib.hid ((HC.out.below HB1.out).below hb2)
  clear hb2
  rcases hv with ⟨hne, rfl, rfl⟩ | ⟨hze, hgl, hgr⟩
  · have heB : (rejE l n z m != 0) = true := by simpa using hne
    have heD : decide (rejE l n z m = 0) = false := decide_eq_false hne
    go_wp2_with fail
    go_ret
    exact ⟨rfl, HB2.out⟩
  · have hp : payE l n = 0 := by
      by_cases h : payE l n = 0
      · exact h
      · rw [rejE_pay h] at hze; exact absurd hze h
    obtain ⟨h300, hall, hdup⟩ := payE_zero hp
    have hbad := firstI_zero (by rw [← rejE_ref (z := z) (m := m) hp]; exact hze)
    rw [hze]
    have hcr := cnt_refs hdup m hbad
    have hcn := cntB_not l (fun x => metI z x m) n
    have hsum := sum_sel (l := l) (fun x => metI z x m) n (by rw [HN.out]; exact Nat.le_refl _)
    rw [List.take_of_length_le (by rw [HN.out]; exact Nat.le_refl _)] at hsum
    have m0 := monB_sel hall (fun x => !metI z x m)
    have m1 := monB_sel hall (fun x => metI z x m)
    have mm : MonB l := fun j hj => mon_of hall j (by rw [HN.out] at hj; exact hj)
    have l0 : (selP l (fun x => !metI z x m) n).length = cntB l (fun x => !metI z x m) n := selP_cnt _ _ _
    have l1 : (selP l (fun x => metI z x m) n).length = m := (selP_cnt _ _ _).trans hcr
    rw [hcr] at hcn
    obtain ⟨xl, cl, rfl, cml⟩ := hgl.slice
    obtain ⟨xr, cr, rfl, cmr⟩ := hgr.slice
    have hb0 := sumL_bd m0 _ (Nat.le_refl _)
    have hb1 := sumL_bd m1 _ (Nat.le_refl _)
    rw [List.take_length] at hb0 hb1
    have HP0 := Lib.hid (paySum_ref xl _ cl _ w2 cml rfl (by omega) m0)
    have HP1 := Lib.hid (paySum_ref xr _ cr _ w2 cmr rfl (by omega) m1)
    have HP2 := Lib.hid (paySum_ref a n cap l w2 HC2.out HN.out (by omega) mm)
    rw [l0] at *
    rw [l1] at *
    generalize cntB l (fun x => !metI z x m) n = q at *
    generalize sumL (selP l (fun x => !metI z x m) n) = s0 at *
    generalize sumL (selP l (fun x => metI z x m) n) = s1 at *
    have HQ : Hid ((q : Int) + (m : Int) = (n : Int)) := by unfold Hid; omega
    have HSU := Lib.hid hsum
    have hqm : (((q : Int) + (m : Int)) == (n : Int)) = true := by simp; omega
    have hmm2 : ((m : Int) == (m : Int)) = true := by simp
    have hw1 : IntKind.i64.wrap ((q : Int) + (m : Int)) = (q : Int) + (m : Int) := IntWalk.i64_in _ (by omega)
    have hw2 : IntKind.i64.wrap (s0 + s1) = s0 + s1 := IntWalk.i64_in _ (by omega)
    have hqmD : decide ((q : Int) + (m : Int) = (n : Int)) = true := decide_eq_true (by omega)
    clear hcn hsum hze hp hall hdup hbad hcr m0 m1 mm l0 l1 cml cmr hgl hgr
    go_wp2_with fail
    refine HP0.out.mono ?_
    rintro e w' ⟨rfl, h'⟩
    subst w'
    go_wp2_with fail
    refine HP1.out.mono ?_
    rintro e w' ⟨rfl, h'⟩
    subst w'
    go_wp2_with fail
    refine HP2.out.mono ?_
    rintro e w' ⟨rfl, h'⟩
    subst w'
    rw [← HSU.out]
    go_wp2_with fail
    go_ret
    exact ⟨tret_bool (by simp), HB2.out⟩
end Go.Proofs.YtdfgkngfpedgdaaDoor
