/-
  The walk of the law HistoryAt: it answers true at every list of rows and all ints.
-/
import Derived.Test.YtpcmdoaaombddaaHBegun
import Derived.Test.YtpcmdoaaombddaaHRef
namespace Go.Proofs.Ytpcmdoaaombddaa
open Go.RowKit

set_option maxRecDepth 100000 in
set_option maxHeartbeats 1000000 in
theorem walk_historyAt (w : World) (a : Option Addr) (n cap : Nat) (l : List Rw) (hc : CameR w a l) (hn : l.length = n) (hm : n ≤ maxLen) (_ : ∀ r ∈ l, RowWf r) (d : Int) (_ : (Lit.int .i64 d).wf = true) (s : Int) (_ : (Lit.int .i64 s).wf = true) :
    Calls Try.prog 4 #[.slice a n cap, .int .i64 d, .int .i64 s] w fun e w' => e = .returned (.bool true) ∧ Below w.heap.size w w' := by
  have HC := Lib.hid hc
  have HN := Lib.hid hn
  have HM := Lib.hid hm
  clear hc hn hm
  go_enter Try.func4, Try.ntmps4
  go_wp2_with fail
  refine (At_any a n cap l d s w HC.out HN.out HM.out).mono ?_
  rintro e w1 ⟨v, b, er, rfl, hA, hb1⟩
  have HB1 := Lib.hid hb1
  have HA := Lib.hid hA
  clear hb1 hA
  go_wp2_with fail
  have HB2 := Lib.hid (HB1.out.alloc HB1.out.size (.cells #[.int .i64 d, .int .i64 s] 3))
  refine (seenAt_any a n cap l w1.heap.size 2 2 [d, s] _ (HC.out.below HB2.out) HN.out HM.out (by simp) (two_cells w1 d s) rfl (by omega)).mono ?_
  rintro e w2 ⟨rfl, hb3⟩
  have HB3 := Lib.hid (HB2.out.trans (hb3.mono HB2.out.size))
  clear hb3
  by_cases hz : dayE l [d, s] = 0
  · obtain ⟨rfl, rfl, rfl⟩ : v = atV (best l d s n) ∧ b = atS (best l d s n) ∧ er = 0 := by
      rcases HA.out with ⟨h, _⟩ | ⟨_, h1, h2, h3⟩
      · exact absurd hz h
      · rw [HN.out] at h1 h2; exact ⟨h1, h2, h3⟩
    have hok := histE_ok (dayE_ok hz).1
    have HR := Lib.hid (fun w hc => at_ref a n cap l d s w hc HN.out (by have := HN.out; omega) hok.2.1)
    clear hok HA
    generalize atV (best l d s n) = v at *
    generalize atS (best l d s n) = b at *
    go_wp2_with fail
    refine (HR.out _ (HC.out.below HB3.out)).mono ?_
    rintro e w3 ⟨rfl, hb4⟩
    have HB4 := Lib.hid (HB3.out.trans (hb4.mono HB3.out.size))
    clear hb4
    go_wp2_with fail
    refine (begun_any _).mono ?_
    rintro e w4 ⟨rfl, hb5⟩
    have HB5 := Lib.hid (HB4.out.trans (hb5.mono HB4.out.size))
    clear hb5
    go_wp2_with fail
    refine (numberIs_same _ 0 _ (fun h => absurd rfl h)).mono ?_
    rintro e w5 ⟨rfl, rfl⟩
    go_wp2_with fail
    go_ret
    exact ⟨cret_bool (by simp), HB5.out⟩
  · obtain ⟨rfl, rfl, rfl⟩ : v = 0 ∧ b = false ∧ er = dayE l [d, s] := by
      rcases HA.out with ⟨_, h1, h2, h3⟩ | ⟨h, _⟩
      · exact ⟨h1, h2, h3⟩
      · exact absurd h hz
    have hzB : decide (dayE l [d, s] = 0) = false := decide_eq_false hz
    clear HA
    go_wp2_with fail
    refine (begun_any _).mono ?_
    rintro e w4 ⟨rfl, hb5⟩
    have HB5 := Lib.hid (HB3.out.trans (hb5.mono HB3.out.size))
    clear hb5
    go_wp2_with fail
    refine (numberIs_same 0 _ _ (fun _ => rfl)).mono ?_
    rintro e w5 ⟨rfl, rfl⟩
    go_wp2_with fail
    go_ret
    exact ⟨cret_bool (by simp), HB5.out⟩
end Go.Proofs.Ytpcmdoaaombddaa
