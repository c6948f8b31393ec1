/-
  Promise P1: accounts: the walks of Account and IsAccount, and of the reference's IsBankAccount and BankAccount.
-/
import Derived.Test.YtdfgkngfpedgdaaDoorBPad
namespace Go.Proofs.YtdfgkngfpedgdaaDoor
open Go.RowKit

theorem bt_mk (l : List UInt8) {j : Nat} {x : UInt8} (h : l[j]? = some x) : bt ⟨l.toArray⟩ j = (x.toNat : Int) := by
  obtain ⟨hj, hx⟩ := List.getElem?_eq_some_iff.1 h
  have h1 : j < (⟨l.toArray⟩ : ByteArray).size := by show j < l.toArray.size; simpa using hj
  rw [bt_in h1]
  have e : (⟨l.toArray⟩ : ByteArray)[j] = x := by
    show l.toArray[j]'_ = x
    simpa using hx
  rw [e]
theorem bt_pad2 (n : Nat) (h : n < 100) : bt (padT n 2) 0 = 48 + ((n / 10 : Nat) : Int) ∧ bt (padT n 2) 1 = 48 + ((n % 10 : Nat) : Int) := by
  unfold padT
  refine ⟨?_, ?_⟩
  · rw [bt_mk (sfx n 2) (j := 0) (x := dig (n / 10 % 10)) (by simp [sfx]), dig_toNat _ (by omega)]
    omega
  · rw [bt_mk (sfx n 2) (j := 1) (x := dig (n % 10)) (by simp [sfx]), dig_toNat _ (by omega)]
theorem numN_congr {s t : ByteArray} : ∀ {k : Nat}, (∀ j, j < k → bt s j = bt t j) → numN s k = numN t k
  | 0, _ => rfl
  | k + 1, h => by rw [numN, numN, numN_congr (k := k) (fun j hj => h j (by omega)), h k (by omega)]
theorem digB_of {x : Int} (h : 48 ≤ x ∧ x ≤ 57) : digB x = true := decide_eq_true h
def bodyB (b : ByteArray) : Bool := allT digB b && decide (b.size = 10)
theorem bodyB_iff {b : ByteArray} : bodyB b = true ↔ allT digB b = true ∧ b.size = 10 := by unfold bodyB; rw [Bool.and_eq_true, decide_eq_true_iff]
/-- The end that an account has which begins so. -/
def endOf (b : ByteArray) : Nat := (98 - numN b 10 * 100 % 97).toNat
theorem endOf_bd (b : ByteArray) : 2 ≤ endOf b ∧ endOf b ≤ 98 ∧ (endOf b : Int) = 98 - numN b 10 * 100 % 97 := by unfold endOf; omega
def accT (b : ByteArray) : ByteArray := b ++ padT (endOf b) 2
theorem accT_size {b : ByteArray} (h : b.size = 10) : (accT b).size = 12 := by unfold accT; rw [ByteArray.size_append, padT_size, h]
/-- The number of the last two of twelve. -/
def e2 (s : ByteArray) : Int := 10 * (bt s 10 - 48) + (bt s 11 - 48)
def accB (s : ByteArray) : Bool := (allT digB s && decide (s.size = 12)) && decide ((2 ≤ e2 s ∧ e2 s ≤ 98) ∧ numN s 12 % 97 = 1)
theorem accB_iff {s : ByteArray} : accB s = true ↔ allT digB s = true ∧ s.size = 12 ∧ (2 ≤ e2 s ∧ e2 s ≤ 98) ∧ numN s 12 % 97 = 1 := by
  unfold accB; rw [Bool.and_eq_true, Bool.and_eq_true, decide_eq_true_iff, decide_eq_true_iff, and_assoc]
theorem accB_not {s : ByteArray} (h : ¬ (allT digB s = true ∧ s.size = 12)) : accB s = false := by
  rw [Bool.eq_false_iff]
  intro e
  have := accB_iff.1 e
  exact h ⟨this.1, this.2.1⟩
/-- Ten digits with two behind them are an account just if these are their end. -/
theorem acc_pad {b : ByteArray} (hb : bodyB b = true) {k : Nat} (h2 : 2 ≤ k) (h98 : k ≤ 98) : accB (b ++ padT k 2) = decide (k = endOf b) := by
  obtain ⟨hd, hz⟩ := bodyB_iff.1 hb
  have hd' := allT_iff.1 hd
  obtain ⟨p0, p1⟩ := bt_pad2 k (by omega)
  have q0 : bt (b ++ padT k 2) 10 = 48 + ((k / 10 : Nat) : Int) := by have := bt_append_r b (padT k 2) 0; rw [hz] at this; exact this.trans p0
  have q1 : bt (b ++ padT k 2) 11 = 48 + ((k % 10 : Nat) : Int) := by have := bt_append_r b (padT k 2) 1; rw [hz] at this; exact this.trans p1
  have qj : ∀ j, j < 10 → bt (b ++ padT k 2) j = bt b j := fun j hj => bt_append_l b _ j (by omega)
  have hsz : (b ++ padT k 2).size = 12 := by rw [ByteArray.size_append, padT_size, hz]
  have hall : allT digB (b ++ padT k 2) = true := allT_iff.2 fun j hj => by
    rw [hsz] at hj
    by_cases h : j < 10
    · rw [qj j h]; exact hd' j (by omega)
    · by_cases h' : j = 10
      · subst h'; rw [q0]; exact digB_of (by omega)
      · obtain rfl : j = 11 := by omega
        rw [q1]; exact digB_of (by omega)
  have hn : numN (b ++ padT k 2) 12 = numN b 10 * 100 + k := by
    show 10 * (10 * numN (b ++ padT k 2) 10 + (bt (b ++ padT k 2) 10 - 48)) + (bt (b ++ padT k 2) 11 - 48) = _
    rw [numN_congr (s := b ++ padT k 2) (t := b) (k := 10) qj, q0, q1]
    omega
  have he : e2 (b ++ padT k 2) = k := by unfold e2; rw [q0, q1]; omega
  have hE := endOf_bd b
  rw [Bool.eq_iff_iff, accB_iff, decide_eq_true_iff, hn, he]
  constructor
  · rintro ⟨_, _, _, h⟩
    omega
  · rintro rfl
    exact ⟨hall, hsz, by omega, by omega⟩
theorem acc_is {s : ByteArray} (hz : s.size = 12) : (bodyB (s.extract 0 10) && decide (accT (s.extract 0 10) = s)) = accB s := by
  have hbz : (s.extract 0 10).size = 10 := by rw [ByteArray.size_extract]; omega
  have hbj : ∀ j, j < 10 → bt (s.extract 0 10) j = bt s j := fun j hj => by rw [bt_extract s 0 10 j (by omega) (by omega), Nat.zero_add]
  cases hb : bodyB (s.extract 0 10)
  · symm
    refine accB_not ?_
    rintro ⟨h1, _⟩
    rw [Bool.eq_false_iff] at hb
    exact hb (bodyB_iff.2 ⟨allT_iff.2 fun j hj => by rw [hbz] at hj; rw [hbj j hj]; exact allT_iff.1 h1 j (by omega), hbz⟩)
  · rw [Bool.true_and, Bool.eq_iff_iff, decide_eq_true_iff]
    constructor
    · intro h
      have := acc_pad hb (endOf_bd (s.extract 0 10)).1 (endOf_bd (s.extract 0 10)).2.1
      rw [decide_eq_true rfl] at this
      have e : s.extract 0 10 ++ padT (endOf (s.extract 0 10)) 2 = s := h
      rw [e] at this
      exact this
    · intro h
      obtain ⟨h1, _, h3, h4⟩ := accB_iff.1 h
      have d10 := dig_bd (allT_iff.1 h1 10 (by omega))
      have d11 := dig_bd (allT_iff.1 h1 11 (by omega))
      have hn : numN s 12 = 10 * (10 * numN s 10 + (bt s 10 - 48)) + (bt s 11 - 48) := rfl
      have hE := endOf_bd (s.extract 0 10)
      rw [numN_congr (s := s.extract 0 10) (t := s) (k := 10) hbj] at hE
      unfold e2 at h3
      have hq : numN s 12 / 97 = numN s 10 * 100 / 97 + 1 := by omega
      have hEe : (endOf (s.extract 0 10) : Int) = 10 * (bt s 10 - 48) + (bt s 11 - 48) := by omega
      obtain ⟨p0, p1⟩ := bt_pad2 (endOf (s.extract 0 10)) (by omega)
      refine ba_eq (by rw [accT_size hbz, hz]) fun j hj => ?_
      rw [accT_size hbz] at hj
      unfold accT
      by_cases hj' : j < 10
      · rw [bt_append_l _ _ j (by omega)]; exact hbj j hj'
      · by_cases e : j = 10
        · subst e
          have := bt_append_r (s.extract 0 10) (padT (endOf (s.extract 0 10)) 2) 0
          rw [hbz] at this
          have h' : bt (s.extract 0 10 ++ padT (endOf (s.extract 0 10)) 2) 10 = _ := this.trans p0
          rw [h']
          omega
        · obtain rfl : j = 11 := by omega
          have := bt_append_r (s.extract 0 10) (padT (endOf (s.extract 0 10)) 2) 1
          rw [hbz] at this
          have h' : bt (s.extract 0 10 ++ padT (endOf (s.extract 0 10)) 2) 11 = _ := this.trans p1
          rw [h']
          omega
theorem padded_k (n k : Nat) (D : Int) (hD : D = (k : Int)) (w : World) (ht : Tab w) (h1 : 1 ≤ k) (hk : k ≤ 15) (hn : n < 10 ^ k) :
    Calls Tryd.prog 32 #[.int .i64 (n : Int), .int .i64 D] w fun e w' => e = .returned (.string (padT n k)) ∧ Below w.heap.size w w' := by
  obtain ⟨d, rfl⟩ : ∃ d, k = d + 1 := ⟨k - 1, by omega⟩
  have h := padded_any n d w ht (by omega) hn
  rw [hD]
  have e : ((d + 1 : Nat) : Int) = (d : Int) + 1 := by omega
  rw [e]
  exact h
/-- The empty text. -/
def nilT : ByteArray := ⟨#[]⟩
def accA (b : ByteArray) : ByteArray := if bodyB b = true then accT b else nilT
def accE (b : ByteArray) : Int := if bodyB b = true then 0 else 1
theorem acc_no {b : ByteArray} (h : bodyB b = false) : accA b = nilT ∧ accE b = 1 := by unfold accA accE; rw [h]; exact ⟨rfl, rfl⟩
theorem acc_ok {b : ByteArray} (h : bodyB b = true) : accA b = accT b ∧ accE b = 0 := by unfold accA accE; rw [h]; exact ⟨rfl, rfl⟩
set_option maxRecDepth 100000 in
set_option maxHeartbeats 1000000 in
theorem Account_any (b : ByteArray) (w : World) (ht : Tab w) :
    Calls Tryd.prog 10 #[.string b] w fun e w' => e = .returned (.tuple #[.string (accA b), .int .i64 (accE b)]) ∧ Below w.heap.size w w' := by
  have HT := Lib.hid ht
  clear ht
  by_cases hz : b.size = 10
  · have hzB : ((b.size : Int) != 10) = false := by simp; omega
    have hzI : (b.size : Int) = 10 := by omega
    have HZ := Lib.hid hz
    cases hd : allT digB b
    · have hB : bodyB b = false := by unfold bodyB; rw [hd]; rfl
      rw [(acc_no hB).1, (acc_no hB).2]
      clear hB hz
      go_enter Tryd.func10, Tryd.ntmps10
      go_wp2_with fail
      refine (isAll_dig b _).mono ?_
      rintro e w1 ⟨rfl, hb1⟩
      rw [hd]
      have HB1 := Lib.hid hb1
      clear hb1
      go_wp2_with fail
      go_ret2
      exact ⟨rfl, HB1.out⟩
    · have hB : bodyB b = true := bodyB_iff.2 ⟨hd, hz⟩
      rw [(acc_ok hB).1, (acc_ok hB).2]
      have HN := Lib.hid (number_any b)
      have HE := Lib.hid (endOf_bd b)
      have HC := Lib.hid (numN_cap (s := b) (k := 10) (by omega) (fun j hj => allT_iff.1 hd j (by omega)))
      have HA : Hid (accT b = b ++ padT (endOf b) 2) := rfl
      have HD := Lib.hid hd
      generalize endOf b = en at *
      generalize accT b = at' at *
      clear hB hz
      go_enter Tryd.func10, Tryd.ntmps10
      go_wp2_with fail
      refine (isAll_dig b _).mono ?_
      rintro e w1 ⟨rfl, hb1⟩
      rw [hd]
      have HB1 := Lib.hid hb1
      clear hb1
      go_wp2_with fail
      refine (HN.out _ HD.out (by rw [HZ.out]; omega)).mono ?_
      rintro e w2 ⟨rfl, hb2⟩
      have HB2 := Lib.hid (HB1.out.trans (hb2.mono HB1.out.size))
      rw [HZ.out]
      clear hb2
      obtain ⟨hc0, hc1⟩ := HC.out
      obtain ⟨he0, he1, he2⟩ := HE.out
      have HE2 := Lib.hid he2
      generalize numN b 10 = N at *
      have hw : IntKind.i64.wrap (N * 100) = N * 100 := IntWalk.i64_in _ (by omega)
      have hm1 : (N * 100).tmod 97 = N * 100 % 97 := Int.tmod_eq_emod_of_nonneg (by omega)
      have hsub : 98 - N * 100 % 97 = (en : Int) := he2.symm
      clear he2
      go_wp2_with fail
      refine (padded_k en 2 2 rfl _ (HT.out.below HB2.out) (by omega) (by omega) (by show en < 100; omega)).mono ?_
      rintro e w3 ⟨rfl, hb3⟩
      have HB3 := Lib.hid (HB2.out.trans (hb3.mono HB2.out.size))
      have hsum : b.size + (padT en 2).size ≤ 9223372036854775807 := by rw [HZ.out, padT_size]; omega
      clear hb3
      go_wp2_with fail
      go_ret2
      exact ⟨by rw [HA.out]; rfl, HB3.out⟩
  · have hzB : ((b.size : Int) != 10) = true := by simp; omega
    have hB : bodyB b = false := by unfold bodyB; rw [decide_eq_false hz, Bool.and_false]
    rw [(acc_no hB).1, (acc_no hB).2]
    go_enter Tryd.func10, Tryd.ntmps10
    go_wp2_with fail
    go_ret2
    exact ⟨rfl, Below.refl _ _⟩
set_option maxRecDepth 100000 in
set_option maxHeartbeats 1000000 in
theorem IsAccount_any (s : ByteArray) (w : World) (ht : Tab w) :
    Calls Tryd.prog 15 #[.string s] w fun e w' => e = .returned (.bool (accB s)) ∧ Below w.heap.size w w' := by
  have HT := Lib.hid ht
  clear ht
  by_cases hz : s.size = 12
  · have hzB : ((s.size : Int) != 12) = false := by simp; omega
    have hzI : (s.size : Int) = 12 := by omega
    have HA := Lib.hid (acc_is hz)
    have h10 : (10 : Int) ≤ (s.size : Int) := by omega
    have HK := Lib.hid (fun w ht => Account_any (s.extract 0 10) w ht)
    cases hb : bodyB (s.extract 0 10)
    · rw [(acc_no hb).1, (acc_no hb).2] at HK
      rw [hb] at HA
      go_enter Tryd.func15, Tryd.ntmps15
      go_wp2_with fail
      refine (HK.out _ HT.out).mono ?_
      rintro e w1 ⟨rfl, hb1⟩
      have HB1 := Lib.hid hb1
      clear hb1
      go_wp2_with fail
      go_ret
      exact ⟨tret_bool HA.out, HB1.out⟩
    · rw [(acc_ok hb).1, (acc_ok hb).2] at HK
      rw [hb] at HA
      generalize accT (s.extract 0 10) = at' at *
      go_enter Tryd.func15, Tryd.ntmps15
      go_wp2_with fail
      refine (HK.out _ HT.out).mono ?_
      rintro e w1 ⟨rfl, hb1⟩
      have HB1 := Lib.hid hb1
      clear hb1
      go_wp2_with fail
      go_ret
      refine ⟨tret_bool ?_, HB1.out⟩
      rw [← HA.out, Bool.true_and, Bool.eq_iff_iff, beq_iff_eq, decide_eq_true_iff]
      exact ⟨fun h => ba_ext (by rw [← ByteArray.toList_eq, ← ByteArray.toList_eq]; exact h), fun h => by rw [h]⟩
  · have hzB : ((s.size : Int) != 12) = true := by simp; omega
    have HF := Lib.hid (accB_not (s := s) (fun h => hz h.2))
    go_enter Tryd.func15, Tryd.ntmps15
    go_wp2_with fail
    go_ret
    exact ⟨tret_bool HF.out.symm, Below.refl _ _⟩
set_option maxRecDepth 100000 in
set_option maxHeartbeats 1000000 in
theorem isBankAccount_ref (s : ByteArray) (w : World) (hs : s.size ≤ 9223372036854775807) :
    Calls Tryd.prog 16 #[.string s] w fun e w' => e = .returned (.bool (accB s)) ∧ w' = w := by
  cases hA : (allT digB s && decide ((s.size : Int) = 12))
  · have HF : Hid (accB s = false) := accB_not (by
      rintro ⟨h1, h2⟩
      rw [h1, Bool.true_and, decide_eq_false_iff_not] at hA
      omega)
    go_enter Tryd.func16, Tryd.ntmps16
    go_wp2_with (go_at_call 11; refine (allDigits_ref s 12 _ hs).mono ?_; rintro e w' ⟨rfl, h'⟩; subst w'; rw [hA])
    go_ret
    exact ⟨tret_bool HF.out.symm, rfl⟩
  · have hA' := hA
    rw [Bool.and_eq_true, decide_eq_true_iff] at hA'
    obtain ⟨hd, hz⟩ := hA'
    have hz' : s.size = 12 := by omega
    have hx : (s.extract 10 s.size).size = 2 := by rw [ByteArray.size_extract]; omega
    have hxd : allT digB (s.extract 10 s.size) = true := allT_iff.2 fun j hj => by
      rw [hx] at hj
      rw [bt_extract s 10 s.size j (by omega) (by omega)]
      exact allT_iff.1 hd _ (by omega)
    have hxn : numN (s.extract 10 s.size) 2 = e2 s := by
      show 10 * (10 * 0 + (bt (s.extract 10 s.size) 0 - 48)) + (bt (s.extract 10 s.size) 1 - 48) = _
      rw [bt_extract s 10 s.size 0 (by omega) (by omega), bt_extract s 10 s.size 1 (by omega) (by omega)]
      show 10 * (10 * 0 + (bt s 10 - 48)) + (bt s 11 - 48) = 10 * (bt s 10 - 48) + (bt s 11 - 48)
      omega
    have HN1 := Lib.hid (number_ref (s.extract 10 s.size) w hxd (by omega))
    rw [hx, hxn] at HN1
    have HN2 := Lib.hid (number_ref s w hd (by omega))
    rw [hz'] at HN2
    have hcap := numN_cap (s := s) (k := 12) (by omega) (fun j hj => allT_iff.1 hd j (by omega))
    have HF : Hid (accB s = decide ((2 ≤ e2 s ∧ e2 s ≤ 98) ∧ numN s 12 % 97 = 1)) := by unfold Hid accB; rw [hd, decide_eq_true hz']; rfl
    clear hx hxd hxn
    generalize e2 s = x at *
    generalize numN s 12 = N at *
    obtain ⟨hN0, hN1⟩ := hcap
    have hm : N.tmod 97 = N % 97 := Int.tmod_eq_emod_of_nonneg hN0
    have h10 : (10 : Int) ≤ (s.size : Int) := by omega
    clear hz hz'
    by_cases h2 : 2 ≤ x
    · have h2B : decide (2 ≤ x) = true := decide_eq_true h2
      by_cases h98 : x ≤ 98
      · have h98B : decide (x ≤ 98) = true := decide_eq_true h98
        go_enter Tryd.func16, Tryd.ntmps16
        go_wp2_with fail
        refine (allDigits_ref s 12 _ hs).mono ?_
        rintro e w' ⟨rfl, h'⟩
        subst w'
        rw [hA]
        go_wp2_with fail
        refine HN1.out.mono ?_
        rintro e w' ⟨rfl, h'⟩
        subst w'
        go_wp2_with fail
        refine HN2.out.mono ?_
        rintro e w' ⟨rfl, h'⟩
        subst w'
        go_wp2_with fail
        go_ret
        refine ⟨tret_bool ?_, rfl⟩
        rw [HF.out, Bool.eq_iff_iff]
        simp [h2, h98]
      · have h98B : decide (x ≤ 98) = false := decide_eq_false h98
        go_enter Tryd.func16, Tryd.ntmps16
        go_wp2_with fail
        refine (allDigits_ref s 12 _ hs).mono ?_
        rintro e w' ⟨rfl, h'⟩
        subst w'
        rw [hA]
        go_wp2_with fail
        refine HN1.out.mono ?_
        rintro e w' ⟨rfl, h'⟩
        subst w'
        go_wp2_with fail
        go_ret
        exact ⟨tret_bool (by rw [HF.out, decide_eq_false (by omega)]), rfl⟩
    · have h2B : decide (2 ≤ x) = false := decide_eq_false h2
      go_enter Tryd.func16, Tryd.ntmps16
      go_wp2_with fail
      refine (allDigits_ref s 12 _ hs).mono ?_
      rintro e w' ⟨rfl, h'⟩
      subst w'
      rw [hA]
      go_wp2_with fail
      refine HN1.out.mono ?_
      rintro e w' ⟨rfl, h'⟩
      subst w'
      go_wp2_with fail
      go_ret
      exact ⟨tret_bool (by rw [HF.out, decide_eq_false (by omega)]), rfl⟩
end Go.Proofs.YtdfgkngfpedgdaaDoor
