/-
  What is wrong with a table and a number (onTable): its walk.
-/
import Derived.Test.YtmiijmgidbbmhaaKTblR
import Derived.Test.YtmiijmgidbbmhaaKTaxR
import Derived.Test.YtmiijmgidbbmhaaKBegun
namespace Go.Proofs.Ytmiijmgidbbmhaa
open Go.RowKit

def onE (s : ByteArray) (l : List Bk) (base least : Int) : Int := if tblE s l ≠ 0 then tblE s l else if base < least ∨ 1000000000000 < base then 3 else 0
theorem onE_tbl {s : ByteArray} {l : List Bk} {base least : Int} (h : tblE s l ≠ 0) : onE s l base least = tblE s l := by unfold onE; rw [if_pos h]
theorem onE_far {s : ByteArray} {l : List Bk} {base least : Int} (h : tblE s l = 0) (h2 : base < least ∨ 1000000000000 < base) : onE s l base least = 3 := by unfold onE; rw [if_neg (by simpa using h), if_pos h2]
theorem onE_yes {s : ByteArray} {l : List Bk} {base least : Int} (h : tblE s l = 0) (h2 : ¬ (base < least ∨ 1000000000000 < base)) : onE s l base least = 0 := by unfold onE; rw [if_neg (by simpa using h), if_neg h2]
theorem onE_base (s : ByteArray) (l : List Bk) (base : Int) : onE s l base (-1000000000000) = baseE s l base := by
  by_cases h : tblE s l = 0
  · by_cases h2 : base < -1000000000000 ∨ 1000000000000 < base
    · rw [onE_far h h2, baseE_far h (decide_eq_false (by omega))]
    · rw [onE_yes h h2, baseE_yes h (decide_eq_true (by omega))]
  · rw [onE_tbl h, baseE_tbl h]
set_option maxRecDepth 100000 in
set_option maxHeartbeats 1000000 in
theorem onTable_any (s : ByteArray) (a : Option Addr) (n cap : Nat) (l : List Bk) (base least : Int) (w : World) (hs : s.size ≤ 9223372036854775807) (hc : CameB w a l) (hn : l.length = n) (hm : n ≤ maxLen) :
    Calls Try.prog 16 #[.agg #[.string s, .slice a n cap], .int .i64 base, .int .i64 least] w fun e w' => e = .returned (.int .i64 (onE s l base least)) ∧ Below w.heap.size w w' := by
  have HC := Lib.hid hc
  have HM := Lib.hid hm
  clear hm hc
  have HB0 := Lib.hid (kbelow_box w (.cells #[.string s, .slice a n cap] 24))
  go_enter Try.func16, Try.ntmps16
  go_wp2_with fail
  refine (check_ref s a n cap l _ hs (HC.out.below HB0.out) hn HM.out).mono ?_
  rintro e w1 ⟨rfl, hbel⟩
  have HB1 := Lib.hid (HB0.out.trans (hbel.mono HB0.out.size))
  clear hbel
  by_cases h0 : tblE s l = 0
  · by_cases h1 : base < least
    · have HE : Hid (onE s l base least = 3) := onE_far h0 (.inl h1)
      rw [h0]
      go_wp2_with fail
      go_ret
      exact ⟨kret_int (HE.out.symm), HB1.out⟩
    · have h1B : decide (base < least) = false := decide_eq_false h1
      by_cases h2 : 1000000000000 < base
      · have HE : Hid (onE s l base least = 3) := onE_far h0 (.inr h2)
        rw [h0]
        go_wp2_with fail
        go_ret
        exact ⟨kret_int (HE.out.symm), HB1.out⟩
      · have h2B : decide (1000000000000 < base) = false := decide_eq_false h2
        have HE : Hid (onE s l base least = 0) := onE_yes h0 (by omega)
        rw [h0]
        go_wp2_with fail
        go_ret
        exact ⟨kret_int (HE.out.symm), HB1.out⟩
  · have HE : Hid (onE s l base least = tblE s l) := onE_tbl h0
    have h0N : (tblE s l == 0) = false := by simp [h0]
    have h0B : decide (tblE s l = 0) = false := decide_eq_false h0
    go_wp2_with fail
    go_ret
    exact ⟨kret_int (HE.out.symm), HB1.out⟩
end Go.Proofs.Ytmiijmgidbbmhaa
