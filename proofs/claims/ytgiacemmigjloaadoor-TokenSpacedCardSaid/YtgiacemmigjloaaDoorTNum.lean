/-
  Promise E1: numbers: the walk of number, by what Atoi answers for the digits ahead of the point.
-/
import Derived.Test.YtgiacemmigjloaaDoorTSign
namespace Go.Proofs.YtgiacemmigjloaaDoor
open Go.RowKit

/-- Atoi reads these digits. -/
def Reads (s : ByteArray) (n : Nat) (u : Int) : Prop := ∀ w, Calls Tryd.prog 35 #[.string (s.extract 0 n)] w fun e w' => e = .returned (.tuple #[.int .i64 u, .nilIface]) ∧ Below w.heap.size w w'

set_option maxRecDepth 100000 in
set_option maxHeartbeats 1000000 in
theorem number_great (s : ByteArray) (a : Int) (n : Nat) (u : Int) (w : World) (hn : SpanIs digB s n) (hr : Reads s n u) (hu : 10000000000 < u) :
    Calls Tryd.prog 30 #[.string s, .int .i64 a] w fun e w' => e = .panicked (gone 3 a) ∧ Below w.heap.size w w' := by
  have HN := Lib.hid hn
  have hle := hn.1
  have HR := Lib.hid hr
  have HZ := Lib.hid ((Below.refl w.heap.size w).alloc (Nat.le_refl _) (.cells #[.int .i64 0, .string ByteArray.empty, .int .i64 0, .bool false, .int .i64 0] 32))
  have HX := Lib.hid (TBox.made w 32 0 ByteArray.empty 0 false 0)
  clear hn hr
  go_enter Tryd.func30, Tryd.ntmps30
  go_wp2_with fail
  refine (digits_any s _).mono ?_
  rintro e w1 ⟨m, rfl, h1, h2⟩
  obtain rfl := h1.unique HN.out
  have HB1 := Lib.hid (HZ.out.trans (h2.mono HZ.out.size))
  have HX1 := Lib.hid (HX.out.below h2)
  clear h1 h2
  have hle' : (m : Int) ≤ (s.size : Int) := by omega
  go_wp2_with fail
  refine (HR.out _).mono ?_
  rintro e w2 ⟨rfl, h2⟩
  have HB2 := Lib.hid (HB1.out.trans (h2.mono HB1.out.size))
  have HX2 := Lib.hid (HX1.out.below h2)
  clear h2 HX1 HX
  go_wp2_with fail
  refine (giveUp_any _ _ _).mono ?_
  rintro e w3 ⟨rfl, rfl⟩
  go_wp2_with fail
  exact ⟨rfl, rfl, HB2.out⟩
set_option maxRecDepth 100000 in
set_option maxHeartbeats 1000000 in
theorem number_zero (s : ByteArray) (a : Int) (n : Nat) (u : Int) (w : World) (hn : SpanIs digB s n) (hr : Reads s n u) (hu : u ≤ 10000000000) (h0 : bt s 0 = 48) (hn1 : 1 < n) :
    Calls Tryd.prog 30 #[.string s, .int .i64 a] w fun e w' => e = .panicked (gone 3 a) ∧ Below w.heap.size w w' := by
  have hs0 : 0 < s.size := by have := hn.1; omega
  have hs0' : (0 : Int) < (s.size : Int) := by omega
  have huB : decide ((10000000000 : Int) < u) = false := decide_eq_false (by omega)
  have hb : (s[0].toNat : Int) = 48 := by rw [← bt_in hs0]; exact h0
  have hn1' : (1 : Int) < (n : Int) := by omega
  have HN := Lib.hid hn
  have hle := hn.1
  have HR := Lib.hid hr
  have HZ := Lib.hid ((Below.refl w.heap.size w).alloc (Nat.le_refl _) (.cells #[.int .i64 0, .string ByteArray.empty, .int .i64 0, .bool false, .int .i64 0] 32))
  have HX := Lib.hid (TBox.made w 32 0 ByteArray.empty 0 false 0)
  clear hn hr
  go_enter Tryd.func30, Tryd.ntmps30
  go_wp2_with fail
  refine (digits_any s _).mono ?_
  rintro e w1 ⟨m, rfl, h1, h2⟩
  obtain rfl := h1.unique HN.out
  have HB1 := Lib.hid (HZ.out.trans (h2.mono HZ.out.size))
  have HX1 := Lib.hid (HX.out.below h2)
  clear h1 h2
  have hle' : (m : Int) ≤ (s.size : Int) := by omega
  go_wp2_with fail
  refine (HR.out _).mono ?_
  rintro e w2 ⟨rfl, h2⟩
  have HB2 := Lib.hid (HB1.out.trans (h2.mono HB1.out.size))
  have HX2 := Lib.hid (HX1.out.below h2)
  clear h2 HX1 HX
  go_wp2_with fail
  refine (giveUp_any _ _ _).mono ?_
  rintro e w3 ⟨rfl, rfl⟩
  go_wp2_with fail
  exact ⟨rfl, rfl, HB2.out⟩
end Go.Proofs.YtgiacemmigjloaaDoor
