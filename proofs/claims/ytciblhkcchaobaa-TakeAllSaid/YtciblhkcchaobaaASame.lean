/-
  The law's sameTaken, at rows that are the same: its walk.
-/
import Derived.Test.YtciblhkcchaobaaARef
import Derived.Test.YtciblhkcchaobaaALaw
namespace Go.Proofs.Ytciblhkcchaobaa
open Go.RowKit

set_option maxRecDepth 100000 in
set_option maxHeartbeats 1000000 in
theorem sameTaken_yes (g k : Int) (l : List Cl) (x y : Option Addr) (n c d : Nat) (w : World) (hn : n ≤ 30) (hx : TkAt w x n (takenL g k l n)) (hy : TkAt w y n (takenL g k l n)) :
    Calls Try.prog 16 #[.slice x n c, .slice y n d] w fun e w' => e = .returned (.bool true) ∧ ∃ q, w' = w.drewN q := by
  have HX := Lib.hid (fun h0 => hx.open h0)
  have HY := Lib.hid (fun h0 => hy.open h0)
  clear hx hy
  have hnn : ((n : Int) != (n : Int)) = false := by simp
  go_enter Try.func16, Try.ntmps16
  go_wp2_with fail
  go_loopw [5] (fun iv wr => ∃ j : Nat, j ≤ n ∧ iv = .int .i64 j ∧ ∃ q, wr = w.drewN q) (fun iv _ => n - (intOf iv).toNat)
  case atStart => exact ⟨0, Nat.zero_le _, rfl, 0, rfl⟩
  case round =>
    obtain ⟨j, hj, rfl, q, rfl⟩ := hrel
    by_cases hlt : j < n
    · have hlt' : (j : Int) < (n : Int) := by omega
      obtain ⟨b, rfl, hcell⟩ := HX.out (by omega)
      obtain ⟨b2, rfl, hcell2⟩ := HY.out (by omega)
      obtain ⟨x0, x1, x2⟩ := hcell _ (Below.refl _ _) j hlt
      obtain ⟨y0, y1, y2⟩ := hcell2 _ (Below.refl _ _) j hlt
      clear hcell hcell2
      go_wp2_with fail
      go_quiet (fail)
      go_wp2_with fail
      go_roundw
      case rel => exact ⟨j + 1, by omega, by go_num, _, rfl⟩
      case measure => simp [intOf]; omega
    · obtain rfl : j = n := by omega
      go_wp2_with fail
      go_ret
      exact ⟨rfl, _, rfl⟩
end Go.Proofs.Ytciblhkcchaobaa
