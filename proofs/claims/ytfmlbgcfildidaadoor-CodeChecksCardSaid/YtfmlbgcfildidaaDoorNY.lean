/-
  The walk of the law CodeChecks.
-/
import Derived.Test.YtfmlbgcfildidaaDoorNQ
import Derived.Test.YtfmlbgcfildidaaDoorNK
set_option linter.unusedSimpArgs false
namespace Go.Proofs.YtfmlbgcfildidaaDoor
open Go.RowKit

theorem numberIs_eq (x y : Int) (h : y ≠ 0 → x = 0) (w : World) : Calls Tryd.prog 21 #[.int .i64 x, .int .i64 y, .int .i64 y, .int .i64 x] w fun e w' => e = .returned (.bool true) ∧ w' = w := by
  by_cases hy : y = 0
  · subst hy
    clear h
    go_enter Tryd.func21, Tryd.ntmps21
    go_wp2_with fail
    go_ret
    exact ⟨rfl, rfl⟩
  · obtain rfl := h hy
    have hB : (y == 0) = false := by simpa using hy
    have hN : (y != 0) = true := by simpa using hy
    clear h hy
    go_enter Tryd.func21, Tryd.ntmps21
    go_wp2_with fail
    go_ret
    exact ⟨rfl, rfl⟩
set_option maxRecDepth 100000 in
set_option maxHeartbeats 2000000 in
theorem walk_codeChecks (a : Option Addr) (n cap : Nat) (l : List Bk) (lines : Int) (_ : (Lit.int .i64 lines).wf = true) (a1 : Option Addr) (n1 c1 : Nat) (a2 : Option Addr) (n2 c2 : Nat) (a3 : Option Addr) (n3 c3 : Nat) (k : Kn) {w : World} (hl : CameB w a l) (hz : ∀ j, j < n → I64 (bnth l j).rate) (hn : l.length = n) (hm : n ≤ maxLen) (hc : CameK w a1 a2 a3 k) (h1 : k.ins.length = n1) (h2 : k.tbs.length = n2) (h3 : k.yrs.length = n3) (hE : Eff w) :
    Calls Tryd.prog 6 #[.slice a n cap, .int .i64 lines, .agg #[.slice a1 n1 c1, .slice a2 n2 c2, .slice a3 n3 c3]] w fun e w' => e = .returned (.bool true) ∧ Below w.heap.size w w' := by
  have HB0 := Lib.hid (kbelow_box w (.cells #[.slice a1 n1 c1, .slice a2 n2 c2, .slice a3 n3 c3] 25))
  have HKB := Lib.hid (Cbx.made w [.slice a1 n1 c1, .slice a2 n2 c2, .slice a3 n3 c3] 25)
  have HE := Lib.hid hE
  have HCH := Lib.hid (fun w' (hb : Below w.heap.size w w') => CCheck_any a n cap l lines a1 a2 a3 n1 n2 n3 c1 c2 c3 k w' (hl.below hb) hn hm (hc.below hb) h1 h2 h3 (hE.below hb) hz)
  have HRF := Lib.hid (fun w' (hb : Below w.heap.size w w') => checkProgram_ref a n cap l lines a1 a2 a3 n1 n2 n3 c1 c2 c3 k w' (hl.below hb) hn hm (hc.below hb) h1 h2 h3 hz)
  have HNS : Hid (∀ w', Calls Tryd.prog 21 #[.int .i64 (chkN k l lines), .int .i64 (chkE k l lines), .int .i64 (chkE k l lines), .int .i64 (chkN k l lines)] w' fun e w'' => e = .returned (.bool true) ∧ w'' = w') := fun w' => numberIs_eq _ _ (fun h => by unfold chkN; rw [if_neg h]) w'
  clear hl hz hn hm hc h1 h2 h3 hE
  generalize chkN k l lines = cn at *
  generalize chkE k l lines = ce at *
  have x0 := HKB.out.at 0 rfl
  have x1 := HKB.out.at 1 rfl
  have x2 := HKB.out.at 2 rfl
  go_enter Tryd.func6, Tryd.ntmps6
  go_wp2_with fail
  refine (HCH.out _ HB0.out).mono ?_
  rintro e w1 ⟨rfl, hb1⟩
  have HB1 := Lib.hid (HB0.out.trans (hb1.mono HB0.out.size))
  replace HKB := Lib.hid (HKB.out.below hb1 HKB.out.lt)
  clear hb1 x0 x1 x2 HCH
  have x0 := HKB.out.at 0 rfl
  have x1 := HKB.out.at 1 rfl
  have x2 := HKB.out.at 2 rfl
  go_wp2_with fail
  refine (HRF.out _ HB1.out).mono ?_
  rintro e w2 ⟨rfl, hb2⟩
  have HB2 := Lib.hid (HB1.out.trans (hb2.mono HB1.out.size))
  clear hb2 x0 x1 x2 HRF
  go_wp2_with fail
  refine (codeBegun_any _ (HE.out.below HB2.out)).mono ?_
  rintro e w3 ⟨rfl, hb3⟩
  have HB3 := Lib.hid (HB2.out.trans (hb3.mono HB2.out.size))
  clear hb3
  go_wp2_with fail
  refine (HNS.out _).mono ?_
  rintro e w4 ⟨rfl, h4⟩
  subst w4
  go_wp2_with fail
  go_ret
  exact ⟨rfl, HB3.out⟩
end Go.Proofs.YtfmlbgcfildidaaDoor
