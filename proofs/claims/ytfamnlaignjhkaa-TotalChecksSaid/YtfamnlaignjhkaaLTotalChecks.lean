/-
  The walk of the law TotalChecks: it answers true at every input.
-/
import Derived.Test.YtfamnlaignjhkaaOGath
namespace Go.Proofs.Ytfamnlaignjhkaa
open Go.RowKit Go.Sort

set_option maxRecDepth 100000 in
set_option maxHeartbeats 1000000 in
theorem walk_totalChecks (a : Option Addr) (n cap : Nat) (l : List Tt) {w : World} (hc : CameO w a l) (hn : l.length = n) (hm : n ≤ maxLen) (hf : NFit l) :
    Calls Try.prog 3 #[.slice a n cap] w fun e w' => e = .returned (.bool true) ∧ Go.RowKit.Below w.heap.size w w' := by
  have HC := Lib.hid hc
  have HM := Lib.hid hm
  have HN := Lib.hid hn
  have HF := Lib.hid hf
  clear hm hc hn hf
  go_enter Try.func3, Try.ntmps3
  go_wp2_with fail
  refine (totalBegun_any _).mono ?_
  rintro e w1 ⟨rfl, hb⟩
  have HB1 := Lib.hid hb
  have HC1 := Lib.hid (HC.out.below hb)
  clear hb
  go_wp2_with fail
  refine (Check_any a n cap l _ HC1.out HN.out HM.out).mono ?_
  rintro e w2 ⟨rfl, hb⟩
  have HB2 := Lib.hid (HB1.out.trans (hb.mono HB1.out.size))
  have HC2 := Lib.hid (HC1.out.below hb)
  clear hb
  go_wp2_with fail
  refine (checkTotals_ref a n cap l false _ HC2.out HF.out HN.out HM.out).mono ?_
  rintro e w3 ⟨rfl, hb⟩
  have HB3 := Lib.hid (HB2.out.trans (hb.mono HB2.out.size))
  clear hb
  rw [show refE false l = totE l from rfl]
  generalize totE l = er
  go_wp2_with fail
  go_ret
  exact ⟨oret_bool (by simp), HB3.out⟩
end Go.Proofs.Ytfamnlaignjhkaa
