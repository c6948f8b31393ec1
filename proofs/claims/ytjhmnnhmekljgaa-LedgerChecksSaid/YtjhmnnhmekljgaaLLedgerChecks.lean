/-
  The walk of the law LedgerChecks: it answers true at every input.
-/
import Derived.Test.YtjhmnnhmekljgaaQBegun
namespace Go.Proofs.Ytjhmnnhmekljgaa
open Go.RowKit

set_option maxRecDepth 100000 in
set_option maxHeartbeats 1000000 in
theorem walk_ledgerChecks (a : Option Addr) (n cap : Nat) (l : List En) {w : World} (hc : CameE w a l) (hn : l.length = n) (_ : n ≤ maxLen) (_ : ∀ j, j < n → (Lit.int .i64 (enth l j).day).wf = true) :
    Calls Try.prog 3 #[.slice a n cap] w fun e w' => e = .returned (.bool true) ∧ Go.RowKit.Below w.heap.size w w' := by
  have HC := Lib.hid hc
  have HN := Lib.hid hn
  clear hc hn
  go_enter Try.func3, Try.ntmps3
  go_wp2_with fail
  refine (ledgerBegun_any _).mono ?_
  rintro e w1 ⟨rfl, hb⟩
  have HB1 := Lib.hid hb
  have HC1 := Lib.hid (HC.out.below hb)
  clear hb
  go_wp2_with fail
  refine (Check_any a n cap l _ HC1.out HN.out).mono ?_
  rintro e w2 ⟨rfl, hb⟩
  have HB2 := Lib.hid (HB1.out.trans (hb.mono HB1.out.size))
  have HC2 := Lib.hid (HC1.out.below hb)
  clear hb
  go_wp2_with fail
  refine (checkJournal_ref a n cap l _ HC2.out HN.out).mono ?_
  rintro e w3 ⟨rfl, hb⟩
  have HB3 := Lib.hid (HB2.out.trans (hb.mono HB2.out.size))
  clear hb
  generalize jrE l = er
  go_wp2_with fail
  go_ret
  exact ⟨kret_bool (by simp), HB3.out⟩
end Go.Proofs.Ytjhmnnhmekljgaa
