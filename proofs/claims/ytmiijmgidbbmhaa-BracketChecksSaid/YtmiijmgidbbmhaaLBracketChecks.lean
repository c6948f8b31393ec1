/-
  The walk of the law BracketChecks: it answers true at every table.
-/
import Derived.Test.YtmiijmgidbbmhaaKOn
import Derived.Deep.RegionHeld3
namespace Go.Proofs.Ytmiijmgidbbmhaa
open Go.RowKit Go.Maps

set_option maxRecDepth 100000 in
set_option maxHeartbeats 1000000 in
theorem walk_bracketChecks (s : ByteArray) (hs : s.size ≤ 9223372036854775807) (a : Option Addr) (n cap : Nat) (l : List Bk) {w : World} (hcw : CameB w a l) (hn : l.length = n) (hm : n ≤ maxLen) :
    Calls Try.prog 3 #[.agg #[.string s, .slice a n cap]] w fun e w' => e = .returned (.bool true) ∧ Below w.heap.size w w' := by
  have HM := Lib.hid hm
  have HB0 := Lib.hid (kbelow_box w (.cells #[.string s, .slice a n cap] 24))
  have HC := Lib.hid (hcw.below HB0.out)
  clear hm hcw
  obtain ⟨hg, c0, c1⟩ := TIs.made w s a n cap 24
  go_enter Try.func3, Try.ntmps3
  go_wp2_with fail
  generalize (w.alloc (.cells #[.string s, .slice a n cap] 24)) = W at *
  go_region_held3 (fun w' => w'.cell? ⟨w.heap.size, 0, none⟩ = some (.string s) ∧ w'.cell? ⟨w.heap.size, 1, none⟩ = some (.slice a n cap)) (go_keep)
    (first
      | (go_at_call 12; refine (begun_any _).mono ?_; rintro e w1 ⟨rfl, hb⟩
         have HB1 := Lib.hid (kfrom_drew hb); clear hb
         have a0 : w1.cell? ⟨w.heap.size, 0, none⟩ = some (.string s) := (HB1.out.cell (p := ⟨w.heap.size, 0, none⟩) hg).trans c0
         have a1 : w1.cell? ⟨w.heap.size, 1, none⟩ = some (.slice a n cap) := (HB1.out.cell (p := ⟨w.heap.size, 1, none⟩) hg).trans c1)
      | (go_at_call 13; refine (Check_any s a n cap l _ (HC.out.below HB1.out) hn HM.out).mono ?_; rintro e w2 ⟨rfl, hb⟩
         have HB2 := Lib.hid (HB1.out.trans (hb.mono HB1.out.size)); clear hb
         have a0 : w2.cell? ⟨w.heap.size, 0, none⟩ = some (.string s) := (HB2.out.cell (p := ⟨w.heap.size, 0, none⟩) hg).trans c0
         have a1 : w2.cell? ⟨w.heap.size, 1, none⟩ = some (.slice a n cap) := (HB2.out.cell (p := ⟨w.heap.size, 1, none⟩) hg).trans c1)
      | (go_at_call 14; refine (check_ref s a n cap l _ hs (HC.out.below HB2.out) hn HM.out).mono ?_; rintro e w3 ⟨rfl, hb⟩
         have HB3 := Lib.hid (HB2.out.trans (hb.mono HB2.out.size)); clear hb
         have a0 : w3.cell? ⟨w.heap.size, 0, none⟩ = some (.string s) := (HB3.out.cell (p := ⟨w.heap.size, 0, none⟩) hg).trans c0
         have a1 : w3.cell? ⟨w.heap.size, 1, none⟩ = some (.slice a n cap) := (HB3.out.cell (p := ⟨w.heap.size, 1, none⟩) hg).trans c1))
  all_goals go_wp2_with fail
  all_goals go_ret
  all_goals exact ⟨kret_bool (by simp), HB0.out.trans (HB3.out.mono HB0.out.size)⟩
end Go.Proofs.Ytmiijmgidbbmhaa
