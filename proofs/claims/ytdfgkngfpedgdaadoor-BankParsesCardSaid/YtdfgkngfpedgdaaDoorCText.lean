/-
  Printed numbers and lists that came in, for the calendar's laws: the library's table, Itoa, two digits.
-/
import Derived.Test.YtdfgkngfpedgdaaDoorMInts
import Derived.Test.YtdfgkngfpedgdaaDoorShelf
import Derived.Lib.ItoaLen
import Derived.Lib.LaidTab
import Derived.Lib.SmallJoins
import Derived.Lib.Hide
namespace Go.Proofs.YtdfgkngfpedgdaaDoor
open Go.RowKit

/-- The library's table of powers of ten lies as its initialiser lays it. -/
def Tab (w : World) : Prop := Lib.TabIs Tryd.prog w "internal/strconv.uint64pow10" .u64 Lib.pow10Tab
theorem tab_global : Tryd.prog.globalNamed "internal/strconv.uint64pow10" = some 1 := by kernel_rfl
theorem Tab.below {w w' : World} (h : Tab w) (hb : Below w.heap.size w w') : Tab w' := Joins.tab_stays tab_global h hb (Nat.le_refl _)
theorem below_grow (w : World) (k : Nat) (os : Array Obj) : Below w.heap.size w (Sort.grow (w.drewN k) os) :=
  ⟨rfl, rfl, rfl, by rw [Sort.size_grow]; exact Nat.le_add_right _ _, fun i hi => by
    show (w.heap ++ os)[i]? = w.heap[i]?
    rw [Array.getElem?_append_left hi]⟩

theorem itoa_any (n : Int) (h0 : -9223372036854775808 ≤ n) (h1 : n ≤ 9223372036854775807) (w : World) (ht : Tab w) :
    Calls Tryd.prog 48 #[.int .i64 n] w fun e w' => ∃ s : ByteArray, e = .returned (.string s) ∧ Hid (s.data.toList = Lib.itoa n) ∧ s.size ≤ 21 ∧ Below w.heap.size w w' := by
  refine (sh_strconv_Itoa n h0 h1 w ht).mono ?_
  rintro e w' ⟨rfl, k, os, rfl⟩
  refine ⟨_, rfl, by simp [Hid], ?_, below_grow w k os⟩
  have := Lib.itoa_length_le n h0 h1
  simpa [ByteArray.size] using this

def dig (n : Nat) : UInt8 := UInt8.ofNat (48 + n)
theorem two_digits (x : Nat) (h : x < 100) : (Lib.decDigits (100 + x)).drop 1 = [dig (x / 10), dig (x % 10)] := by
  rw [Lib.decDigits, dif_neg (by omega), Lib.decDigits, dif_neg (by omega), Lib.decDigits, dif_pos (by omega)]
  have h1 : (100 + x) / 10 % 10 = x / 10 := by omega
  have h2 : (100 + x) % 10 = x % 10 := by omega
  simp [dig, h1, h2]

theorem ba_ext {s t : ByteArray} (h : s.data.toList = t.data.toList) : s = t := by
  cases s with | mk a => cases t with | mk b => exact congrArg ByteArray.mk (Array.ext' h)

theorem itoa_nat (m : Nat) : Lib.itoa (m : Int) = Lib.decDigits m := by
  unfold Lib.itoa
  rw [if_neg (by omega)]
  rfl
theorem size_toList (s : ByteArray) : s.size = s.data.toList.length := Array.length_toList.symm
theorem ba_append (a b : ByteArray) : (a ++ b).data.toList = a.data.toList ++ b.data.toList := by simp [ByteArray.data_append]
theorem ba_drop (s : ByteArray) (k : Nat) : (s.extract k s.size).data.toList = s.data.toList.drop k := by
  rw [ByteArray.data_extract, Array.toList_extract, List.extract_eq_take_drop, size_toList, ← List.length_drop, List.take_length]
theorem size_three {s : ByteArray} {x : Nat} (h : s.data.toList = Lib.itoa (100 + (x : Int))) (hx : x < 100) : s.size = 3 ∧ s.data.toList.drop 1 = [dig (x / 10), dig (x % 10)] := by
  rw [show (100 + (x : Int)) = ((100 + x : Nat) : Int) from by omega, itoa_nat] at h
  have h2 := two_digits x hx
  rw [← h] at h2
  refine ⟨?_, h2⟩
  have := congrArg List.length h2
  simp at this
  have h3 : Lib.decDigits (100 + x) ≠ [] := by
    rw [Lib.decDigits, dif_neg (by omega)]
    simp
  rw [size_toList]
  have : s.data.toList.length ≠ 0 := by rw [h]; simpa using h3
  simp at *
  omega

/-- A slice of ints that came in: its address, its numbers. -/
def Came (w : World) (a : Option Addr) (l : List Int) : Prop := l.length = 0 ∨ ∃ b off, a = some ⟨b, off, none⟩ ∧ At w b off l
theorem Came.below {w w' : World} {a : Option Addr} {l : List Int} (h : Came w a l) (hb : Below w.heap.size w w') : Came w' a l := by
  rcases h with h | ⟨b, off, rfl, h⟩
  · exact .inl h
  · exact .inr ⟨b, off, rfl, h.below hb h.1⟩

theorem lt_of_cell {W : World} {p : Addr} {v : Value} (h : W.cell? p = some v) : p.block < W.heap.size := by
  by_cases hb : p.block < W.heap.size
  · exact hb
  · have : W.heap[p.block]? = none := Array.getElem?_eq_none (by omega)
    simp [World.cell?, this] at h
theorem came_of (W : World) (x : Addr) (zs : List Int) (len cap : Nat) (hl : len ≤ cap) (hz : zs.length = cap) (hm : cap ≤ maxLen)
    (hcell : ∀ i, i < zs.length → W.cell? (x.add i) = some (.int .i64 (zs.getD i 0))) (hwz : ∀ n ∈ zs, (Lit.int .i64 n).wf = true) :
    ∃ l : List Int, Came W (some x) l ∧ l.length = len ∧ len ≤ maxLen ∧ ∀ n ∈ l, (Lit.int .i64 n).wf = true := by
  refine ⟨zs.take len, ?_, by simp; omega, by omega, fun n hn => hwz n (List.mem_of_mem_take hn)⟩
  by_cases h0 : len = 0
  · exact .inl (by simp [h0])
  · obtain ⟨b, off, spot⟩ := x
    have hc := hcell 0 (by omega)
    have hspot : spot = none := by simpa [Addr.add] using World.cell?_spot hc
    subst hspot
    refine .inr ⟨b, off, rfl, lt_of_cell hc, fun j hj => ?_⟩
    have hj' : j < len := by simp at hj; omega
    have := hcell j (by omega)
    rw [Addr.add_lit] at this
    rw [this]
    simp [nth, List.getD_eq_getElem?_getD, hj']

theorem nth_mem_or {P : Int → Prop} (h0 : P 0) {l : List Int} (h : ∀ x ∈ l, P x) (j : Nat) : P (nth l j) := by
  unfold nth
  rw [List.getD_eq_getElem?_getD]
  cases hj : l[j]? with
  | none => simpa using h0
  | some x => simpa using h x (List.mem_of_getElem? hj)
end Go.Proofs.YtdfgkngfpedgdaaDoor
