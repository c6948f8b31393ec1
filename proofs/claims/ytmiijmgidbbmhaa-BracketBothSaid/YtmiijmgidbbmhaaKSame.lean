/-
  The law's comparison of two tables (SameTable): of two that are alike.
-/
import Derived.Test.YtmiijmgidbbmhaaKTbl
import Derived.Deep.RegionHeld3
namespace Go.Proofs.Ytmiijmgidbbmhaa
open Go.RowKit

set_option maxRecDepth 100000 in
set_option maxHeartbeats 1000000 in
theorem sameTable_yes (s : ByteArray) (x y : Option Addr) (n c d : Nat) (l : List Bk) (w : World) (hx : CameB w x l) (hy : CameB w y l) (hn : l.length = n) (h24 : n ≤ 24) :
    Calls Try.prog 24 #[.agg #[.string s, .slice x n c], .agg #[.string s, .slice y n d]] w fun e w' => e = .returned (.bool true) ∧ Below w.heap.size w w' := by
  have HX := Lib.hid hx
  have HY := Lib.hid hy
  clear hx hy
  have hz1 : (w.alloc (.cells #[.string s, .slice x n c] 24)).heap.size = w.heap.size + 1 := by simp
  have hT1 := TIs.made w s x n c 24
  have hU2 := TIs.made (w.alloc (.cells #[.string s, .slice x n c] 24)) s y n d 24
  rw [hz1] at hU2
  have HT0 := Lib.hid (hT1.below (kbelow_box _ (.cells #[.string s, .slice y n d] 24)) hT1.1)
  have HU0 := Lib.hid hU2
  have HB0 := Lib.hid ((kbelow_box w (.cells #[.string s, .slice x n c] 24)).alloc (kbelow_box w (.cells #[.string s, .slice x n c] 24)).size (.cells #[.string s, .slice y n d] 24))
  clear hT1 hU2 hz1
  have e1 : (s.toList != s.toList) = false := by simp
  have e2 : ((n : Int) != (n : Int)) = false := by simp
  go_enter Try.func24, Try.ntmps24
  obtain ⟨_, x0, x1⟩ := HT0.out
  obtain ⟨_, y0, y1⟩ := HU0.out
  go_wp2_with fail
  generalize ((w.alloc (.cells #[.string s, .slice x n c] 24)).alloc (.cells #[.string s, .slice y n d] 24)) = W at *
  go_loopw [5] (fun i wr => ∃ k : Nat, k ≤ n ∧ i = .int .i64 k ∧ Below W.heap.size W wr) (fun i _ => n - (intOf i).toNat)
  case atStart => exact ⟨0, Nat.zero_le _, rfl, Below.refl _ _⟩
  case round =>
    obtain ⟨k, hk, rfl, hbr⟩ := hrel
    have HBR := Lib.hid hbr
    have HBW := Lib.hid (HB0.out.trans (hbr.mono HB0.out.size))
    have HT1 := Lib.hid (HT0.out.below hbr HT0.out.1)
    have HU1 := Lib.hid (HU0.out.below hbr HU0.out.1)
    clear hbr x0 x1 y0 y1
    obtain ⟨_, x0, x1⟩ := HT1.out
    obtain ⟨_, y0, y1⟩ := HU1.out
    by_cases hlt : k < n
    · have hlt' : (k : Int) < (n : Int) := by omega
      obtain ⟨b, off, rfl, hcell⟩ := HX.out.open hn (by omega)
      obtain ⟨b', off', rfl, hcell'⟩ := HY.out.open hn (by omega)
      obtain ⟨u0, u1⟩ := hcell wr HBW.out k hlt
      obtain ⟨v0, v1⟩ := hcell' wr HBW.out k hlt
      clear hcell hcell'
      generalize (bnth l k).frm = f at *
      generalize (bnth l k).rate = r at *
      have n0 : (f != f) = false := by simp
      have n1 : (r != r) = false := by simp
      go_wp2_with fail
      go_quiet (fail)
      go_wp2_with fail
      go_roundw
      case rel => exact ⟨k + 1, by omega, by go_num, kbelow_dN HBR.out _⟩
      case measure => simp [intOf]; omega
    · have hnl : decide ((k : Int) < (n : Int)) = false := decide_eq_false (by omega)
      go_wp2_with fail
      go_ret
      exact ⟨rfl, HBW.out⟩
end Go.Proofs.Ytmiijmgidbbmhaa
