/-
  The walk of the law HistoryDiffers: it answers true at every list of rows and all ints.
-/
import Derived.Test.YtpcmdoaaombddaaHBegun
import Derived.Test.YtpcmdoaaombddaaHDiffR
namespace Go.Proofs.Ytpcmdoaaombddaa
open Go.RowKit

set_option maxRecDepth 100000 in
set_option maxHeartbeats 1000000 in
theorem walk_historyDiffers (w : World) (a : Option Addr) (n cap : Nat) (l : List Rw) (hc : CameR w a l) (hn : l.length = n) (hm : n ≤ maxLen) (_ : ∀ r ∈ l, RowWf r) (p : Int) (_ : (Lit.int .i64 p).wf = true) (q : Int) (_ : (Lit.int .i64 q).wf = true) :
    Calls Try.prog 5 #[.slice a n cap, .int .i64 p, .int .i64 q] w fun e w' => e = .returned (.bool true) ∧ Below w.heap.size w w' := by
  have HC := Lib.hid hc
  have HN := Lib.hid hn
  have HM := Lib.hid hm
  clear hc hn hm
  go_enter Try.func5, Try.ntmps5
  go_wp2_with fail
  refine (Differs_any a n cap l p q w HC.out HN.out HM.out).mono ?_
  rintro e w1 ⟨v, b, er, rfl, hA, hb1⟩
  have HB1 := Lib.hid hb1
  have HA := Lib.hid hA
  clear hb1 hA
  go_wp2_with fail
  have HB2 := Lib.hid (HB1.out.alloc HB1.out.size (.cells #[.int .i64 p, .int .i64 q] 3))
  refine (seenAt_any a n cap l w1.heap.size 2 2 [p, q] _ (HC.out.below HB2.out) HN.out HM.out (by simp) (two_cells w1 p q) rfl (by omega)).mono ?_
  rintro e w2 ⟨rfl, hb3⟩
  have HB3 := Lib.hid (HB2.out.trans (hb3.mono HB2.out.size))
  clear hb3
  by_cases hz : dayE l [p, q] = 0
  · obtain ⟨hF, rfl⟩ : FDiff l p q v b ∧ er = 0 := by
      rcases HA.out with ⟨h, _⟩ | ⟨_, h1, h2⟩
      · exact absurd hz h
      · exact ⟨h1, h2⟩
    have HF := Lib.hid hF
    have hok := histE_ok (dayE_ok hz).1
    have HR := Lib.hid (fun w hc => differsAt_ref a n cap l p q w hc HN.out (by have := HN.out; omega) hok.2.1)
    clear hok HA hF
    go_wp2_with fail
    refine (HR.out _ (HC.out.below HB3.out)).mono ?_
    rintro e w3 ⟨m, rfl, hmm, hb4⟩
    have HB4 := Lib.hid (HB3.out.trans (hb4.mono HB3.out.size))
    clear hb4
    rcases hmm with ⟨rfl, hF2⟩ | ⟨hm0, hF2⟩
    · obtain ⟨rfl, rfl⟩ := HF.out.unique hF2
      go_wp2_with fail
      refine (begun_any _).mono ?_
      rintro e w4 ⟨rfl, hb5⟩
      have HB5 := Lib.hid (HB4.out.trans (hb5.mono HB4.out.size))
      clear hb5
      go_wp2_with fail
      refine (numberIs_same _ 0 _ (fun h => absurd rfl h)).mono ?_
      rintro e w5 ⟨rfl, rfl⟩
      go_wp2_with fail
      go_ret
      exact ⟨cret_bool (by simp), HB5.out⟩
    · obtain ⟨rfl, rfl⟩ := HF.out.unique hF2
      go_wp2_with fail
      refine (begun_any _).mono ?_
      rintro e w4 ⟨rfl, hb5⟩
      have HB5 := Lib.hid (HB4.out.trans (hb5.mono HB4.out.size))
      clear hb5
      go_wp2_with fail
      refine (numberIs_same _ 0 _ (fun h => absurd rfl h)).mono ?_
      rintro e w5 ⟨rfl, rfl⟩
      go_wp2_with fail
      go_ret
      exact ⟨cret_bool (by simp), HB5.out⟩
  · obtain ⟨rfl, rfl, rfl⟩ : v = 0 ∧ b = false ∧ er = dayE l [p, q] := by
      rcases HA.out with ⟨_, h1, h2, h3⟩ | ⟨h, _⟩
      · exact ⟨h1, h2, h3⟩
      · exact absurd h hz
    have hzB : decide (dayE l [p, q] = 0) = false := decide_eq_false hz
    clear HA
    go_wp2_with fail
    refine (begun_any _).mono ?_
    rintro e w4 ⟨rfl, hb5⟩
    have HB5 := Lib.hid (HB3.out.trans (hb5.mono HB3.out.size))
    clear hb5
    go_wp2_with fail
    refine (numberIs_same 0 _ _ (fun _ => rfl)).mono ?_
    rintro e w5 ⟨rfl, rfl⟩
    go_wp2_with fail
    go_ret
    exact ⟨cret_bool (by simp), HB5.out⟩
end Go.Proofs.Ytpcmdoaaombddaa
