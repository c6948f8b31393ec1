/-
  The walk of the law SlipChecks: it answers true at every input.
-/
import Derived.Test.YtopcnnmdnnmgoaaSBegun
namespace Go.Proofs.Ytopcnnmdnnmgoaa
open Go.RowKit Go.Sort

set_option maxRecDepth 100000 in
set_option maxHeartbeats 1000000 in
theorem walk_slipChecks (a : Option Addr) (n cap : Nat) (l : List Sl) {w : World} (hc : CameS w a l) (hn : l.length = n) (_ : n ≤ maxLen) (_ : ∀ j, j < n → WfSl (snth l j)) :
    Calls Try.prog 3 #[.slice a n cap] w fun e w' => e = .returned (.bool true) ∧ Go.RowKit.Below w.heap.size w w' := by
  have HC := Lib.hid hc
  have HN := Lib.hid hn
  clear hc hn
  go_enter Try.func3, Try.ntmps3
  go_wp2_with fail
  refine (slipBegun_any _).mono ?_
  rintro e w1 ⟨rfl, hb⟩
  have HB1 := Lib.hid hb
  have HC1 := Lib.hid (HC.out.below hb)
  clear hb
  go_wp2_with fail
  refine (Check_any a n cap l _ HC1.out HN.out).mono ?_
  rintro e w2 ⟨rfl, hb⟩
  have HB2 := Lib.hid (HB1.out.trans (hb.mono HB1.out.size))
  have HC2 := Lib.hid (HC1.out.below hb)
  clear hb
  go_wp2_with fail
  refine (checkSlips_ref a n cap l _ HC2.out HN.out).mono ?_
  rintro e w3 ⟨rfl, hb⟩
  have HB3 := Lib.hid (HB2.out.trans (hb.mono HB2.out.size))
  clear hb
  generalize slE l = er
  go_wp2_with fail
  go_ret
  exact ⟨kret_bool (by simp), HB3.out⟩
end Go.Proofs.Ytopcnnmdnnmgoaa
