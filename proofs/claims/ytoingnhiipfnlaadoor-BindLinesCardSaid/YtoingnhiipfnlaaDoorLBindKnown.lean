/-
  The walks of the laws BindKnown and BindLines: they answer true at every input.
-/
import Derived.Test.YtoingnhiipfnlaaDoorNBegunW
namespace Go.Proofs.YtoingnhiipfnlaaDoor
open Go.RowKit Go.Sort

set_option maxRecDepth 100000 in
set_option maxHeartbeats 1000000 in
theorem walk_bindKnown (a1 : Option Addr) (n1 c1 : Nat) (a2 : Option Addr) (n2 c2 : Nat) (a3 : Option Addr) (n3 c3 : Nat) (k : Kn) {w : World} (hc : CameK w a1 a2 a3 k) (h1 : k.ins.length = n1) (h2 : k.tbs.length = n2) (h3 : k.yrs.length = n3) (hS : Shp w) :
    Calls Tryd.prog 3 #[.agg #[.slice a1 n1 c1, .slice a2 n2 c2, .slice a3 n3 c3]] w fun e w' => e = .returned (.bool true) ∧ Below w.heap.size w w' := by
  have HB0 := Lib.hid (kbelow_box w (.cells #[.slice a1 n1 c1, .slice a2 n2 c2, .slice a3 n3 c3] 25))
  have HK0 := Lib.hid (KAt.made w (.slice a1 n1 c1) (.slice a2 n2 c2) (.slice a3 n3 c3) 25)
  have HC := Lib.hid (hc.below HB0.out)
  have HS := Lib.hid (hS.below HB0.out)
  have H1 := Lib.hid h1
  have H2 := Lib.hid h2
  have H3 := Lib.hid h3
  clear hc h1 h2 h3 hS
  go_enter Tryd.func3, Tryd.ntmps3
  go_wp2_with fail
  obtain ⟨_, x0, x1, x2⟩ := HK0.out
  generalize (w.alloc (.cells #[.slice a1 n1 c1, .slice a2 n2 c2, .slice a3 n3 c3] 25)) = W at *
  have z0 := cell_regrown x0
  have z1 := cell_regrown x1
  have z2 := cell_regrown x2
  refine wp_region_quiet_below (by kernel_rfl) (by kernel_rfl) ?_
  repeat (quiet_step (first
    | exact Calls.regrown_of (begun_any _ (HS.out.below (below_regrown W _ _)))
    | exact Calls.regrown_of (Known_any a1 a2 a3 n1 n2 n3 c1 c2 c3 k _ (HC.out.below (below_regrown W _ _)) H1.out H2.out H3.out)
    | exact Calls.regrown_of (known_ref a1 a2 a3 n1 n2 n3 c1 c2 c3 k _ (HC.out.below (below_regrown W _ _)) H1.out H2.out H3.out)))
  refine wpQuiet_nil ?_
  intro _ hw'
  obtain ⟨⟨dq, osq⟩, hw''⟩ := hw'
  subst hw''
  go_wp2_with fail
  go_ret
  exact ⟨kret_bool (by simp), HB0.out.trans ((below_regrown W dq osq).mono HB0.out.size)⟩
set_option maxRecDepth 100000 in
set_option maxHeartbeats 1000000 in
theorem walk_bindLines (a : Option Addr) (n cap : Nat) (l : List Ln) (a1 : Option Addr) (n1 c1 : Nat) (a2 : Option Addr) (n2 c2 : Nat) (a3 : Option Addr) (n3 c3 : Nat) (k : Kn) {w : World} (hl : CameL w a l) (hn : l.length = n) (hm : n ≤ maxLen) (hc : CameK w a1 a2 a3 k) (h1 : k.ins.length = n1) (h2 : k.tbs.length = n2) (h3 : k.yrs.length = n3) (hS : Shp w) :
    Calls Tryd.prog 4 #[.slice a n cap, .agg #[.slice a1 n1 c1, .slice a2 n2 c2, .slice a3 n3 c3]] w fun e w' => e = .returned (.bool true) ∧ Below w.heap.size w w' := by
  have HB0 := Lib.hid (kbelow_box w (.cells #[.slice a1 n1 c1, .slice a2 n2 c2, .slice a3 n3 c3] 25))
  have HK0 := Lib.hid (KAt.made w (.slice a1 n1 c1) (.slice a2 n2 c2) (.slice a3 n3 c3) 25)
  have HL := Lib.hid hl
  have HN := Lib.hid hn
  have HM := Lib.hid hm
  have HC := Lib.hid hc
  have HS := Lib.hid hS
  have H1 := Lib.hid h1
  have H2 := Lib.hid h2
  have H3 := Lib.hid h3
  clear hl hn hm hc h1 h2 h3 hS
  go_enter Tryd.func4, Tryd.ntmps4
  go_wp2_with fail
  refine (Lines_any a n cap l a1 a2 a3 n1 n2 n3 c1 c2 c3 k _ (HS.out.below HB0.out) (HL.out.below HB0.out) HN.out HM.out (HC.out.below HB0.out) H1.out H2.out H3.out).mono ?_
  rintro e w1 ⟨i, er, rfl, hbi, hb1⟩
  have HBI := Lib.hid hbi
  have HB1 := Lib.hid (HB0.out.trans (hb1.mono HB0.out.size))
  obtain ⟨_, x0, x1, x2⟩ := KAt.below HK0.out hb1
  clear hbi hb1
  go_wp2_with fail
  refine (lines_ref a n cap l a1 a2 a3 n1 n2 n3 c1 c2 c3 k _ (HL.out.below HB1.out) HN.out HM.out (HC.out.below HB1.out) H1.out H2.out H3.out).mono ?_
  rintro e w2 ⟨i', er', rfl, hbi', hb2⟩
  obtain ⟨rfl, rfl⟩ := HBI.out.unique hbi'
  have HB2 := Lib.hid (HB1.out.trans (hb2.mono HB1.out.size))
  clear hbi' hb2 x0 x1 x2
  go_wp2_with fail
  refine (begun_any _ (HS.out.below HB2.out)).mono ?_
  rintro e w3 ⟨rfl, hb3⟩
  have HB3 := Lib.hid (HB2.out.trans (hb3.mono HB2.out.size))
  clear hb3
  go_wp2_with fail
  go_ret
  exact ⟨kret_bool (by simp), HB3.out⟩
end Go.Proofs.YtoingnhiipfnlaaDoor
