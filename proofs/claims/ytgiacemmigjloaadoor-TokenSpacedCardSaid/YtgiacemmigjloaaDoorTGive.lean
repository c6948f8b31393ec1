/-
  Promise E2: what is given up with: the walk of giveUp: it panics with the fault.
-/
import Derived.Test.YtgiacemmigjloaaDoorTGap
import Derived.Test.YtgiacemmigjloaaDoorTWord
import Derived.Recover
namespace Go.Proofs.YtgiacemmigjloaaDoor
open Go.RowKit

/-- What is given up with. -/
def gone (e a : Int) : List PanicEntry := [{ v := .iface 36 (.agg #[.int .i64 e, .int .i64 a]), recovered := false }]
theorem giveUp_any (e a : Int) (w : World) : Calls Tryd.prog 33 #[.int .i64 e, .int .i64 a] w fun x w' => x = .panicked (gone e a) ∧ w' = w := by
  go_enter Tryd.func33, Tryd.ntmps33
  go_wp2_with fail
  exact ⟨rfl, rfl, rfl⟩
/-- A token as a value. -/
def tokV (k : Int) (s : ByteArray) (n : Int) (p : Bool) (a : Int) : Value := .agg #[.int .i64 k, .string s, .int .i64 n, .bool p, .int .i64 a]
theorem span_le {P : Int → Bool} {s : ByteArray} {n : Nat} (h : SpanIs P s n) : n ≤ s.size := h.1
set_option maxRecDepth 100000 in
set_option maxHeartbeats 1000000 in
theorem word_gone (s : ByteArray) (a : Int) (n : Nat) (w : World) (hn : SpanIs letB s n) (h8 : 8 < n) :
    Calls Tryd.prog 28 #[.string s, .int .i64 a] w fun e w' => e = .panicked (gone 3 a) ∧ Below w.heap.size w w' := by
  have HN := Lib.hid hn
  have HZ := Lib.hid ((Below.refl w.heap.size w).alloc (Nat.le_refl _) (.cells #[.int .i64 0, .string ByteArray.empty, .int .i64 0, .bool false, .int .i64 0] 32))
  clear hn
  go_enter Tryd.func28, Tryd.ntmps28
  go_wp2_with fail
  refine (letters_any s _).mono ?_
  rintro e w1 ⟨m, rfl, h1, h2⟩
  obtain rfl := h1.unique HN.out
  have HB1 := Lib.hid (HZ.out.trans (h2.mono HZ.out.size))
  clear h1 h2
  have h8' : (8 : Int) < (m : Int) := by omega
  go_wp2_with fail
  refine (giveUp_any _ _ _).mono ?_
  rintro e w2 ⟨rfl, rfl⟩
  go_wp2_with fail
  exact ⟨rfl, rfl, HB1.out⟩
end Go.Proofs.YtgiacemmigjloaaDoor
