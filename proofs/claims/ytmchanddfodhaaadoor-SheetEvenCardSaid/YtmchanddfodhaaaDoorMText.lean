/-
  Promise A3 (printing): what money is printed as; the walk of money.Print: at every int it returns that text, or the error, where the library's table of powers of ten lies as the program's text lays it.
-/
import Derived.Test.YtmchanddfodhaaaDoorShelf
import Derived.Test.YtmchanddfodhaaaDoorMRoundU
import Derived.Lib.ItoaLen
import Derived.Lib.SmallJoins
namespace Go.Proofs.YtmchanddfodhaaaDoor.Mny
open Go.RowKit

/-- The library's table of powers of ten lies as its initialiser lays it. -/
def Tab (w : World) : Prop := Lib.TabIs Tryd.prog w "internal/strconv.uint64pow10" .u64 Lib.pow10Tab
theorem tab_global : Tryd.prog.globalNamed "internal/strconv.uint64pow10" = some 1 := by kernel_rfl
theorem Tab.below {w w' : World} (h : Tab w) (hb : Below w.heap.size w w') : Tab w' := Joins.tab_stays tab_global h hb (Nat.le_refl _)
theorem below_grow (w : World) (k : Nat) (os : Array Obj) : Below w.heap.size w (Sort.grow (w.drewN k) os) :=
  ⟨rfl, rfl, rfl, by rw [Sort.size_grow]; exact Nat.le_add_right _ _, fun i hi => by
    show (w.heap ++ os)[i]? = w.heap[i]?
    rw [Array.getElem?_append_left hi]⟩

theorem itoa_any (n : Int) (h0 : -9223372036854775808 ≤ n) (h1 : n ≤ 9223372036854775807) (w : World) (ht : Tab w) :
    Calls Tryd.prog 36 #[.int .i64 n] w fun e w' => ∃ s : ByteArray, e = .returned (.string s) ∧ Hid (s.data.toList = Lib.itoa n) ∧ s.size ≤ 21 ∧ Below w.heap.size w w' := by
  refine (sh_strconv_Itoa n h0 h1 w ht).mono ?_
  rintro e w' ⟨rfl, k, os, rfl⟩
  refine ⟨_, rfl, by simp [Hid], ?_, below_grow w k os⟩
  have := Lib.itoa_length_le n h0 h1
  simpa [ByteArray.size] using this

def dig (n : Nat) : UInt8 := UInt8.ofNat (48 + n)
/-- What money is printed as. -/
def printL (n : Int) : List UInt8 :=
  (if n < 0 then [45] else []) ++ Lib.decDigits (n.natAbs / 100) ++ [46] ++ [dig (n.natAbs / 10 % 10), dig (n.natAbs % 10)]

theorem two_digits (x : Nat) (h : x < 100) : (Lib.decDigits (100 + x)).drop 1 = [dig (x / 10), dig (x % 10)] := by
  rw [Lib.decDigits, dif_neg (by omega), Lib.decDigits, dif_neg (by omega), Lib.decDigits, dif_pos (by omega)]
  have h1 : (100 + x) / 10 % 10 = x / 10 := by omega
  have h2 : (100 + x) % 10 = x % 10 := by omega
  simp [dig, h1, h2]

theorem ba_ext {s t : ByteArray} (h : s.data.toList = t.data.toList) : s = t := by
  cases s with | mk a => cases t with | mk b => exact congrArg ByteArray.mk (Array.ext' h)

theorem itoa_nat (m : Nat) : Lib.itoa (m : Int) = Lib.decDigits m := by
  unfold Lib.itoa
  rw [if_neg (by omega)]
  rfl
theorem size_toList (s : ByteArray) : s.size = s.data.toList.length := Array.length_toList.symm
theorem ba_append (a b : ByteArray) : (a ++ b).data.toList = a.data.toList ++ b.data.toList := by simp [ByteArray.data_append]
theorem ba_drop (s : ByteArray) (k : Nat) : (s.extract k s.size).data.toList = s.data.toList.drop k := by
  rw [ByteArray.data_extract, Array.toList_extract, List.extract_eq_take_drop, size_toList, ← List.length_drop, List.take_length]
theorem size_three {s : ByteArray} {x : Nat} (h : s.data.toList = Lib.itoa (100 + (x : Int))) (hx : x < 100) : s.size = 3 ∧ s.data.toList.drop 1 = [dig (x / 10), dig (x % 10)] := by
  rw [show (100 + (x : Int)) = ((100 + x : Nat) : Int) from by omega, itoa_nat] at h
  have h2 := two_digits x hx
  rw [← h] at h2
  refine ⟨?_, h2⟩
  have := congrArg List.length h2
  simp at this
  have h3 : Lib.decDigits (100 + x) ≠ [] := by
    rw [Lib.decDigits, dif_neg (by omega)]
    simp
  rw [size_toList]
  have : s.data.toList.length ≠ 0 := by rw [h]; simpa using h3
  simp at *
  omega

set_option maxHeartbeats 1000000 in
theorem print_neg (m : Nat) (w : World) (hm : 1 ≤ m) (hm1 : m ≤ 1000000000000) (ht : Tab w) :
    Calls Tryd.prog 19 #[.int .i64 (-(m : Int))] w fun e w' => ∃ s : ByteArray, e = .returned (.tuple #[.string s, .int .i64 0]) ∧ s.data.toList = printL (-(m : Int)) ∧ Below w.heap.size w w' := by
  have hB : monB (-(m : Int)) = true := decide_eq_true ⟨by omega, by omega⟩
  have HT : Hid (Tab w) := ht
  have HP : Hid (printL (-(m : Int)) = [45] ++ Lib.decDigits (m / 100) ++ [46] ++ [dig (m % 100 / 10), dig (m % 100 % 10)]) := by
    unfold Hid printL
    rw [if_pos (by omega)]
    have e1 : (-(m : Int)).natAbs = m := by omega
    have e2 : m % 100 / 10 = m / 10 % 10 := by omega
    have e3 : m % 100 % 10 = m % 10 := by omega
    rw [e1, e2, e3]
  clear ht
  go_enter Tryd.func19, Tryd.ntmps19
  go_wp2_with (go_at_call 33; refine (isMoney_any _ _).mono ?_; rintro e w' ⟨rfl, rfl⟩)
  refine (itoa_any _ (by omega) (by omega) _ HT.out).mono ?_
  rintro e w1 ⟨s1, rfl, HS1, hs1, hb1⟩
  have HT1 : Hid (Tab w1) := HT.out.below hb1
  have HB1 : Hid (Below w'.heap.size w' w1) := hb1
  clear hb1 hs1
  have hsz := size_three (x := m % 100) HS1.out (Nat.mod_lt _ (by decide))
  have HD1 : Hid (s1.data.toList.drop 1 = [dig (m % 100 / 10), dig (m % 100 % 10)]) := hsz.2
  have hs1 : 3 ≤ s1.size := by omega
  have hs1' : s1.size ≤ 3 := by omega
  clear hsz
  go_wp2_with fail
  refine (itoa_any _ (by omega) (by omega) _ HT1.out).mono ?_
  rintro e w2 ⟨s2, rfl, HS2, hs2, hb2⟩
  have HB2 : Hid (Below w'.heap.size w' w2) := HB1.out.trans (hb2.mono HB1.out.size)
  clear hb2
  go_wp2_with fail
  go_ret2
  refine ⟨_, rfl, ?_, HB2.out⟩
  rw [ba_append, ba_append, ba_append, ba_drop, HS2.out, HD1.out, HP.out]
  rw [show ((m : Int) / 100) = ((m / 100 : Nat) : Int) from by omega, itoa_nat]

set_option maxHeartbeats 1000000 in
theorem print_pos (m : Nat) (w : World) (hm1 : m ≤ 1000000000000) (ht : Tab w) :
    Calls Tryd.prog 19 #[.int .i64 (m : Int)] w fun e w' => ∃ s : ByteArray, e = .returned (.tuple #[.string s, .int .i64 0]) ∧ s.data.toList = printL (m : Int) ∧ Below w.heap.size w w' := by
  have hB : monB (m : Int) = true := decide_eq_true ⟨by omega, by omega⟩
  have HT : Hid (Tab w) := ht
  have HP : Hid (printL (m : Int) = [] ++ Lib.decDigits (m / 100) ++ [46] ++ [dig (m % 100 / 10), dig (m % 100 % 10)]) := by
    unfold Hid printL
    rw [if_neg (by omega)]
    have e2 : m % 100 / 10 = m / 10 % 10 := by omega
    have e3 : m % 100 % 10 = m % 10 := by omega
    rw [Int.natAbs_natCast, e2, e3]
  clear ht
  go_enter Tryd.func19, Tryd.ntmps19
  go_wp2_with (go_at_call 33; refine (isMoney_any _ _).mono ?_; rintro e w' ⟨rfl, rfl⟩)
  refine (itoa_any _ (by omega) (by omega) _ HT.out).mono ?_
  rintro e w1 ⟨s1, rfl, HS1, hs1, hb1⟩
  have HT1 : Hid (Tab w1) := HT.out.below hb1
  have HB1 : Hid (Below w'.heap.size w' w1) := hb1
  clear hb1 hs1
  have hsz := size_three (x := m % 100) HS1.out (Nat.mod_lt _ (by decide))
  have HD1 : Hid (s1.data.toList.drop 1 = [dig (m % 100 / 10), dig (m % 100 % 10)]) := hsz.2
  have hs1 : 3 ≤ s1.size := by omega
  have hs1' : s1.size ≤ 3 := by omega
  clear hsz
  go_wp2_with fail
  refine (itoa_any _ (by omega) (by omega) _ HT1.out).mono ?_
  rintro e w2 ⟨s2, rfl, HS2, hs2, hb2⟩
  have HB2 : Hid (Below w'.heap.size w' w2) := HB1.out.trans (hb2.mono HB1.out.size)
  clear hb2
  go_wp2_with fail
  go_ret2
  refine ⟨_, rfl, ?_, HB2.out⟩
  rw [ba_append, ba_append, ba_append, ba_drop, HS2.out, HD1.out, HP.out]
  rw [show ((m : Int) / 100) = ((m / 100 : Nat) : Int) from by omega, itoa_nat]

theorem print_ok (n : Int) (w : World) (h : monB n = true) (ht : Tab w) :
    Calls Tryd.prog 19 #[.int .i64 n] w fun e w' => ∃ s : ByteArray, e = .returned (.tuple #[.string s, .int .i64 0]) ∧ s.data.toList = printL n ∧ Below w.heap.size w w' := by
  have hn : -1000000000000 ≤ n ∧ n ≤ 1000000000000 := of_decide_eq_true h
  by_cases h0 : n < 0
  · have e : n = -((n.natAbs : Nat) : Int) := by omega
    rw [e]
    exact print_neg n.natAbs w (by omega) (by omega) ht
  · have e : n = ((n.toNat : Nat) : Int) := by omega
    rw [e]
    exact print_pos n.toNat w (by omega) ht

theorem ret_s0 {a b : Int} (h : a = b) : Ending.returned (.tuple #[.string ⟨#[]⟩, .int .i64 a]) = .returned (.tuple #[.string ⟨#[]⟩, .int .i64 b]) := by rw [h]
theorem print_bad (n : Int) (w : World) (h : monB n = false) :
    Calls Tryd.prog 19 #[.int .i64 n] w fun e w' => e = .returned (.tuple #[.string ⟨#[]⟩, .int .i64 3]) ∧ w' = w := by
  go_enter Tryd.func19, Tryd.ntmps19
  go_wp2_with (go_at_call 33; refine (isMoney_any _ _).mono ?_; rintro e w' ⟨rfl, rfl⟩)
  go_ret2
  exact ⟨rfl, rfl⟩
end Go.Proofs.YtmchanddfodhaaaDoor.Mny
