/-
  Promise E1: numbers: the walk of number where the digits ahead of the point are right.
-/
import Derived.Test.YtgiacemmigjloaaDoorTNum
namespace Go.Proofs.YtgiacemmigjloaaDoor
open Go.RowKit

theorem dot_at (s : ByteArray) (a : Nat) (b : Bool) (h : decide (bt s a = 46) = b) (w : World) :
    Calls Tryd.prog 26 #[.string (s.extract a s.size), .string ⟨#[46]⟩] w fun e w' => e = .returned (.bool b) ∧ w' = w := by
  have := sh_strings_HasPrefix (s.extract a s.size) ⟨#[46]⟩ w
  rw [show (⟨#[46]⟩ : ByteArray).data.toList = [46] from rfl, prefix_byte, bt_suffix, Nat.add_zero, show (((46 : UInt8).toNat : Nat) : Int) = 46 from rfl, h] at this
  exact this
/-- The digits ahead of the point are right: no leading zero, not too great. -/
def HeadOk (s : ByteArray) (n : Nat) (u : Int) : Prop := 0 ≤ u ∧ u ≤ 10000000000 ∧ 0 < n ∧ (bt s 0 = 48 → n = 1)
set_option maxRecDepth 100000 in
set_option maxHeartbeats 1000000 in
theorem number_whole (s : ByteArray) (a : Int) (n : Nat) (u : Int) (w : World) (hn : SpanIs digB s n) (hr : Reads s n u) (hu0 : 0 ≤ u) (hu : u ≤ 10000000000) (hn0 : 0 < n) (h0 : bt s 0 ≠ 48) (hp : bt s n ≠ 46) :
    Calls Tryd.prog 30 #[.string s, .int .i64 a] w fun e w' => e = .returned (tokV 2 (s.extract 0 n) (100 * u) false a) ∧ Below w.heap.size w w' := by
  have hs0 : 0 < s.size := by have := hn.1; omega
  have hs0' : (0 : Int) < (s.size : Int) := by omega
  have huB : decide ((10000000000 : Int) < u) = false := decide_eq_false (by omega)
  have hb : ((s[0].toNat : Int) == 48) = false := by rw [← bt_in hs0]; simpa using h0
  have HD := Lib.hid (dot_at s n false (decide_eq_false hp))
  clear hp
  have HN := Lib.hid hn
  have hle := hn.1
  have HR := Lib.hid hr
  have HZ := Lib.hid ((Below.refl w.heap.size w).alloc (Nat.le_refl _) (.cells #[.int .i64 0, .string ByteArray.empty, .int .i64 0, .bool false, .int .i64 0] 32))
  have HX := Lib.hid (TBox.made w 32 0 ByteArray.empty 0 false 0)
  clear hn hr
  go_enter Tryd.func30, Tryd.ntmps30
  go_wp2_with fail
  refine (digits_any s _).mono ?_
  rintro e w1 ⟨m, rfl, h1, h2⟩
  obtain rfl := h1.unique HN.out
  have HB1 := Lib.hid (HZ.out.trans (h2.mono HZ.out.size))
  have HX1 := Lib.hid (HX.out.below h2)
  clear h1 h2
  have hle' : (m : Int) ≤ (s.size : Int) := by omega
  go_wp2_with fail
  refine (HR.out _).mono ?_
  rintro e w2 ⟨rfl, h2⟩
  have HB2 := Lib.hid (HB1.out.trans (h2.mono HB1.out.size))
  have HX2 := Lib.hid (HX1.out.below h2)
  have hne : w.heap.size < w2.heap.size := by
    have h3 := h2.size
    by_cases hlt : w.heap.size < w2.heap.size
    · exact hlt
    · have := HX2.out.1.1
      have hz : w2.heap[w.heap.size]? = none := Array.getElem?_eq_none (by omega)
      simp [World.cell?, hz] at this
  clear h2 HX1 HX
  obtain ⟨⟨c0, c1, c2, c3, c4⟩, z0, z1, z2, z3, z4⟩ := HX2.out
  go_wp2_with fail
  refine (HD.out _).mono ?_
  rintro e w3 ⟨rfl, h3⟩
  subst w3
  go_wp2_with fail
  refine bodyPost_ret (v := tokV 2 (s.extract 0 m) (100 * u) false a) ?_ rfl ⟨rfl, ?_⟩
  · obtain ⟨⟨e0, e1, e2, e3, e4⟩, -⟩ := HX2.out.put 2 (s.extract 0 m) (100 * u) false a
    unfold tput at e0 e1 e2 e3 e4
    simp [results, Tryd.results30, go_sem, e0, e1, e2, e3, e4, tokV, hne]
  · exact (((((HB2.out.setCell (by simp) _).setCell (by simp) _).setCell (by simp) _).setCell (by simp) _).setCell (by simp) _).alloc (by simp; omega) _
set_option maxRecDepth 100000 in
set_option maxHeartbeats 1000000 in
theorem number_wholeZ (s : ByteArray) (a : Int) (n : Nat) (u : Int) (w : World) (hn : SpanIs digB s n) (hr : Reads s n u) (hu0 : 0 ≤ u) (hu : u ≤ 10000000000) (hn0 : 0 < n) (h0 : bt s 0 = 48) (h1B : decide ((1 : Int) < (n : Int)) = false) (hp : bt s n ≠ 46) :
    Calls Tryd.prog 30 #[.string s, .int .i64 a] w fun e w' => e = .returned (tokV 2 (s.extract 0 n) (100 * u) false a) ∧ Below w.heap.size w w' := by
  have hs0 : 0 < s.size := by have := hn.1; omega
  have hs0' : (0 : Int) < (s.size : Int) := by omega
  have huB : decide ((10000000000 : Int) < u) = false := decide_eq_false (by omega)
  have hb : (s[0].toNat : Int) = 48 := by rw [← bt_in hs0]; exact h0
  have HD := Lib.hid (dot_at s n false (decide_eq_false hp))
  clear hp
  have HN := Lib.hid hn
  have hle := hn.1
  have HR := Lib.hid hr
  have HZ := Lib.hid ((Below.refl w.heap.size w).alloc (Nat.le_refl _) (.cells #[.int .i64 0, .string ByteArray.empty, .int .i64 0, .bool false, .int .i64 0] 32))
  have HX := Lib.hid (TBox.made w 32 0 ByteArray.empty 0 false 0)
  clear hn hr
  go_enter Tryd.func30, Tryd.ntmps30
  go_wp2_with fail
  refine (digits_any s _).mono ?_
  rintro e w1 ⟨m, rfl, h1, h2⟩
  obtain rfl := h1.unique HN.out
  have HB1 := Lib.hid (HZ.out.trans (h2.mono HZ.out.size))
  have HX1 := Lib.hid (HX.out.below h2)
  clear h1 h2
  have hle' : (m : Int) ≤ (s.size : Int) := by omega
  go_wp2_with fail
  refine (HR.out _).mono ?_
  rintro e w2 ⟨rfl, h2⟩
  have HB2 := Lib.hid (HB1.out.trans (h2.mono HB1.out.size))
  have HX2 := Lib.hid (HX1.out.below h2)
  have hne : w.heap.size < w2.heap.size := by
    have h3 := h2.size
    by_cases hlt : w.heap.size < w2.heap.size
    · exact hlt
    · have := HX2.out.1.1
      have hz : w2.heap[w.heap.size]? = none := Array.getElem?_eq_none (by omega)
      simp [World.cell?, hz] at this
  clear h2 HX1 HX
  obtain ⟨⟨c0, c1, c2, c3, c4⟩, z0, z1, z2, z3, z4⟩ := HX2.out
  go_wp2_with fail
  refine (HD.out _).mono ?_
  rintro e w3 ⟨rfl, h3⟩
  subst w3
  go_wp2_with fail
  refine bodyPost_ret (v := tokV 2 (s.extract 0 m) (100 * u) false a) ?_ rfl ⟨rfl, ?_⟩
  · obtain ⟨⟨e0, e1, e2, e3, e4⟩, -⟩ := HX2.out.put 2 (s.extract 0 m) (100 * u) false a
    unfold tput at e0 e1 e2 e3 e4
    simp [results, Tryd.results30, go_sem, e0, e1, e2, e3, e4, tokV, hne]
  · exact (((((HB2.out.setCell (by simp) _).setCell (by simp) _).setCell (by simp) _).setCell (by simp) _).setCell (by simp) _).alloc (by simp; omega) _
set_option maxRecDepth 100000 in
set_option maxHeartbeats 1000000 in
theorem number_short (s : ByteArray) (a : Int) (n k : Nat) (u : Int) (w : World) (hn : SpanIs digB s n) (hr : Reads s n u) (hu0 : 0 ≤ u) (hu : u ≤ 10000000000) (hn0 : 0 < n) (h0 : bt s 0 ≠ 48) (hp : bt s n = 46) (hk : SpanIs digB (s.extract (n + 1) s.size) k) (hk2 : k < 2) (ha : 0 ≤ a) (has : a + s.size ≤ 140737488351232) :
    Calls Tryd.prog 30 #[.string s, .int .i64 a] w fun e w' => e = .panicked (gone 1 (a + n)) ∧ Below w.heap.size w w' := by
  have hs0 : 0 < s.size := by have := hn.1; omega
  have hs0' : (0 : Int) < (s.size : Int) := by omega
  have huB : decide ((10000000000 : Int) < u) = false := decide_eq_false (by omega)
  have hb : ((s[0].toNat : Int) == 48) = false := by rw [← bt_in hs0]; simpa using h0
  have HD := Lib.hid (dot_at s n true (decide_eq_true hp))
  have HK := Lib.hid hk
  have hnlt : n < s.size := by
    by_cases h : n < s.size
    · exact h
    · rw [bt_out h] at hp; omega
  have hnlt' : (n : Int) + 1 ≤ (s.size : Int) := by omega
  clear hp hk
  have HN := Lib.hid hn
  have hle := hn.1
  have HR := Lib.hid hr
  have HZ := Lib.hid ((Below.refl w.heap.size w).alloc (Nat.le_refl _) (.cells #[.int .i64 0, .string ByteArray.empty, .int .i64 0, .bool false, .int .i64 0] 32))
  have HX := Lib.hid (TBox.made w 32 0 ByteArray.empty 0 false 0)
  clear hn hr
  go_enter Tryd.func30, Tryd.ntmps30
  go_wp2_with fail
  refine (digits_any s _).mono ?_
  rintro e w1 ⟨m, rfl, h1, h2⟩
  obtain rfl := h1.unique HN.out
  have HB1 := Lib.hid (HZ.out.trans (h2.mono HZ.out.size))
  have HX1 := Lib.hid (HX.out.below h2)
  clear h1 h2
  have hle' : (m : Int) ≤ (s.size : Int) := by omega
  go_wp2_with fail
  refine (HR.out _).mono ?_
  rintro e w2 ⟨rfl, h2⟩
  have HB2 := Lib.hid (HB1.out.trans (h2.mono HB1.out.size))
  have HX2 := Lib.hid (HX1.out.below h2)
  have hne : w.heap.size < w2.heap.size := by
    have h3 := h2.size
    by_cases hlt : w.heap.size < w2.heap.size
    · exact hlt
    · have := HX2.out.1.1
      have hz : w2.heap[w.heap.size]? = none := Array.getElem?_eq_none (by omega)
      simp [World.cell?, hz] at this
  clear h2 HX1 HX
  obtain ⟨⟨c0, c1, c2, c3, c4⟩, z0, z1, z2, z3, z4⟩ := HX2.out
  go_wp2_with fail
  refine (HD.out _).mono ?_
  rintro e w3 ⟨rfl, h3⟩
  subst w3
  go_wp2_with fail
  refine (digits_any _ _).mono ?_
  rintro e w3 ⟨k', rfl, h1, h2⟩
  obtain rfl := h1.unique HK.out
  have HB3 := Lib.hid ((HB2.out.alloc (by omega) (.cells #[.int .i64 2, .string (s.extract 0 m), .int .i64 (100 * u), .bool false, .int .i64 a] 32)).trans (h2.mono (by simp; omega)))
  clear h1 h2
  have hk2' : (k' : Int) < 2 := by omega
  go_wp2_with fail
  refine (giveUp_any _ _ _).mono ?_
  rintro e w4 ⟨rfl, rfl⟩
  go_wp2_with fail
  exact ⟨rfl, rfl, HB3.out⟩
set_option maxRecDepth 100000 in
set_option maxHeartbeats 1000000 in
theorem number_shortZ (s : ByteArray) (a : Int) (n k : Nat) (u : Int) (w : World) (hn : SpanIs digB s n) (hr : Reads s n u) (hu0 : 0 ≤ u) (hu : u ≤ 10000000000) (hn0 : 0 < n) (h0 : bt s 0 = 48) (h1B : decide ((1 : Int) < (n : Int)) = false) (hp : bt s n = 46) (hk : SpanIs digB (s.extract (n + 1) s.size) k) (hk2 : k < 2) (ha : 0 ≤ a) (has : a + s.size ≤ 140737488351232) :
    Calls Tryd.prog 30 #[.string s, .int .i64 a] w fun e w' => e = .panicked (gone 1 (a + n)) ∧ Below w.heap.size w w' := by
  have hs0 : 0 < s.size := by have := hn.1; omega
  have hs0' : (0 : Int) < (s.size : Int) := by omega
  have huB : decide ((10000000000 : Int) < u) = false := decide_eq_false (by omega)
  have hb : (s[0].toNat : Int) = 48 := by rw [← bt_in hs0]; exact h0
  have HD := Lib.hid (dot_at s n true (decide_eq_true hp))
  have HK := Lib.hid hk
  have hnlt : n < s.size := by
    by_cases h : n < s.size
    · exact h
    · rw [bt_out h] at hp; omega
  have hnlt' : (n : Int) + 1 ≤ (s.size : Int) := by omega
  clear hp hk
  have HN := Lib.hid hn
  have hle := hn.1
  have HR := Lib.hid hr
  have HZ := Lib.hid ((Below.refl w.heap.size w).alloc (Nat.le_refl _) (.cells #[.int .i64 0, .string ByteArray.empty, .int .i64 0, .bool false, .int .i64 0] 32))
  have HX := Lib.hid (TBox.made w 32 0 ByteArray.empty 0 false 0)
  clear hn hr
  go_enter Tryd.func30, Tryd.ntmps30
  go_wp2_with fail
  refine (digits_any s _).mono ?_
  rintro e w1 ⟨m, rfl, h1, h2⟩
  obtain rfl := h1.unique HN.out
  have HB1 := Lib.hid (HZ.out.trans (h2.mono HZ.out.size))
  have HX1 := Lib.hid (HX.out.below h2)
  clear h1 h2
  have hle' : (m : Int) ≤ (s.size : Int) := by omega
  go_wp2_with fail
  refine (HR.out _).mono ?_
  rintro e w2 ⟨rfl, h2⟩
  have HB2 := Lib.hid (HB1.out.trans (h2.mono HB1.out.size))
  have HX2 := Lib.hid (HX1.out.below h2)
  have hne : w.heap.size < w2.heap.size := by
    have h3 := h2.size
    by_cases hlt : w.heap.size < w2.heap.size
    · exact hlt
    · have := HX2.out.1.1
      have hz : w2.heap[w.heap.size]? = none := Array.getElem?_eq_none (by omega)
      simp [World.cell?, hz] at this
  clear h2 HX1 HX
  obtain ⟨⟨c0, c1, c2, c3, c4⟩, z0, z1, z2, z3, z4⟩ := HX2.out
  go_wp2_with fail
  refine (HD.out _).mono ?_
  rintro e w3 ⟨rfl, h3⟩
  subst w3
  go_wp2_with fail
  refine (digits_any _ _).mono ?_
  rintro e w3 ⟨k', rfl, h1, h2⟩
  obtain rfl := h1.unique HK.out
  have HB3 := Lib.hid ((HB2.out.alloc (by omega) (.cells #[.int .i64 2, .string (s.extract 0 m), .int .i64 (100 * u), .bool false, .int .i64 a] 32)).trans (h2.mono (by simp; omega)))
  clear h1 h2
  have hk2' : (k' : Int) < 2 := by omega
  go_wp2_with fail
  refine (giveUp_any _ _ _).mono ?_
  rintro e w4 ⟨rfl, rfl⟩
  go_wp2_with fail
  exact ⟨rfl, rfl, HB3.out⟩
end Go.Proofs.YtgiacemmigjloaaDoor
