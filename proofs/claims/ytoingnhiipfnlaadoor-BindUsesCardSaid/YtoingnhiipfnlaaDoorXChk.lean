/-
  Promise F2: what is wrong with lines: the walks of tooMany, checkLine and Check.
-/
import Derived.Test.YtoingnhiipfnlaaDoorXErr
namespace Go.Proofs.YtoingnhiipfnlaaDoor
open Go.RowKit

def sumP (l : List Ln) (k : Nat) : Nat := sumN (fun j => (lnth l j).ex.parts) k
def maxD (l : List Ln) (k : Nat) : Nat := maxN (fun j => (lnth l j).ex.depth) k
/-- What is wrong with a line; with lines. -/
def lineE (r : Ln) : Int := if r.kind < 1 ∨ 4 < r.kind then 7 else if NameP r.name then r.ex.err else 1
def linesE (l : List Ln) : Int := if 40 < l.length ∨ ¬ (sumP l l.length ≤ 4000 ∧ maxD l l.length ≤ 20) then 2 else firstE (fun j => lineE (lnth l j)) l.length
theorem lineE_bd (r : Ln) : 0 ≤ lineE r ∧ lineE r ≤ 7 := by
  unfold lineE
  have := err_bd r.ex
  (repeat' split) <;> omega
theorem left20 (x : Ex) (r : Nat) : x.left 20 (r : Int) = if x.depth ≤ 20 ∧ x.parts ≤ r then (r : Int) - x.parts else -1 := left_eq x 20 r
theorem sumP_succ (l : List Ln) (k : Nat) : sumP l (k + 1) = sumP l k + (lnth l k).ex.parts := rfl
theorem maxD_succ (l : List Ln) (k : Nat) : maxD l (k + 1) = max (maxD l k) (lnth l k).ex.depth := rfl
theorem sumP_le {l : List Ln} {j m : Nat} (h : j ≤ m) : sumP l j ≤ sumP l m := sumN_le h
theorem maxD_le {l : List Ln} {j m : Nat} (h : j ≤ m) : maxD l j ≤ maxD l m := maxN_le h
set_option maxRecDepth 100000 in
set_option maxHeartbeats 2000000 in
theorem tooMany_any (a : Option Addr) (n cap : Nat) (l : List Ln) (w : World) (hc : CameL w a l) (hn : l.length = n) (hm : n ≤ maxLen) :
    Calls Tryd.prog 65 #[.slice a n cap] w fun e w' => e = .returned (.bool (decide (40 < n ∨ ¬ (sumP l n ≤ 4000 ∧ maxD l n ≤ 20)))) ∧ Below w.heap.size w w' := by
  have hm' : n ≤ 9223372036854775807 := by unfold maxLen at hm; omega
  have HO := Lib.hid (fun h0 => hc.open hn h0)
  clear hm hc
  by_cases h40 : 40 < n
  · have HR : Hid (decide (40 < n ∨ ¬ (sumP l n ≤ 4000 ∧ maxD l n ≤ 20)) = true) := decide_eq_true (.inl h40)
    have h40' : (40 : Int) < (n : Int) := by omega
    have HB := Lib.hid (Below.refl w.heap.size w)
    go_enter Tryd.func65, Tryd.ntmps65
    go_wp2_with fail
    go_ret
    exact ⟨kret_bool HR.out.symm, HB.out⟩
  · have h40' : decide ((40 : Int) < (n : Int)) = false := decide_eq_false (by omega)
    go_enter Tryd.func65, Tryd.ntmps65
    go_wp2_with fail
    go_loopw [3, 11] (fun lv i wr => ∃ j r : Nat, j ≤ n ∧ i = .int .i64 j ∧ lv = .int .i64 r ∧ r + sumP l j = 4000 ∧ maxD l j ≤ 20 ∧ Below w.heap.size w wr) (fun _ i _ => n - (intOf i).toNat)
    case atStart => exact ⟨0, 4000, Nat.zero_le _, rfl, rfl, rfl, by simp [maxD, maxN], Below.refl _ _⟩
    case round =>
      obtain ⟨j, r, hj, rfl, rfl, hs, hd, hb⟩ := hrel
      have HSD := Lib.hid (And.intro hs hd)
      have hr4 : r ≤ 4000 := by omega
      have HB := Lib.hid hb
      clear hs hd hb
      by_cases hlt : j < n
      · have hlt' : (j : Int) < (n : Int) := by omega
        obtain ⟨b, off, rfl, hcell⟩ := HO.out (by omega)
        obtain ⟨aj, cj, ⟨x0, x1, x2, x3, x4, x5⟩, hns, hkj⟩ := hcell wr HB.out j hlt
        have HKJ := Lib.hid hkj
        have HNS := Lib.hid hns
        clear hcell hkj hns
        have HBJ := Lib.hid (kbelow_box wr (.cells #[.int .i64 (lnth l j).kind, .string (lnth l j).name, .int .i64 (lnth l j).ex.k, .int .i64 (lnth l j).ex.n, .string (lnth l j).ex.s, .slice aj (lnth l j).ex.m cj] 52))
        go_wp2_with fail
        refine (partsLeft_any (lnth l j).ex aj cj 20 r _ (by omega) (by omega) (by omega) (by omega) (HKJ.out.below HBJ.out)).mono ?_
        rintro e w1 ⟨rfl, hb1⟩
        have HB1 := Lib.hid (HB.out.trans ((HBJ.out.trans (hb1.mono HBJ.out.size)).mono HB.out.size))
        clear hb1 x0 x1 x2 x3 x4 x5
        rw [left20]
        by_cases hfit : (lnth l j).ex.depth ≤ 20 ∧ (lnth l j).ex.parts ≤ r
        · rw [if_pos hfit]
          have HN : Hid (r - (lnth l j).ex.parts + sumP l (j + 1) = 4000 ∧ maxD l (j + 1) ≤ 20) := by
            have := HSD.out
            unfold Hid
            rw [sumP_succ, maxD_succ]
            omega
          obtain ⟨u, hu⟩ : ∃ u : Nat, u = r - (lnth l j).ex.parts := ⟨_, rfl⟩
          rw [show (r : Int) - ((lnth l j).ex.parts : Int) = (u : Int) by omega]
          rw [← hu] at HN
          clear hu hfit HSD
          go_wp2_with fail
          go_roundw
          case rel => exact ⟨j + 1, u, by omega, by go_num, rfl, HN.out.1, HN.out.2, HB1.out⟩
          case measure => simp [intOf]; omega
        · rw [if_neg hfit]
          have HR : Hid (decide (40 < n ∨ ¬ (sumP l n ≤ 4000 ∧ maxD l n ≤ 20)) = true) := decide_eq_true (.inr (fun h => hfit (by
            have h1 := HSD.out
            have h2 := sumP_le (l := l) (show j + 1 ≤ n by omega)
            have h3 := maxD_le (l := l) (show j + 1 ≤ n by omega)
            rw [sumP_succ] at h2
            rw [maxD_succ] at h3
            omega)))
          clear hfit
          go_wp2_with fail
          go_ret
          exact ⟨kret_bool HR.out.symm, HB1.out⟩
      · have hjn : j = n := by omega
        subst hjn
        have HR : Hid (decide (40 < j ∨ ¬ (sumP l j ≤ 4000 ∧ maxD l j ≤ 20)) = false) := decide_eq_false (by have := HSD.out; omega)
        go_wp2_with fail
        go_ret
        exact ⟨kret_bool HR.out.symm, HB.out⟩
theorem LBox.made (w : World) (v0 v1 v2 v3 v4 v5 : Value) (T : TypeId) : w.heap.size < (w.alloc (.cells #[v0, v1, v2, v3, v4, v5] T)).heap.size ∧ (w.alloc (.cells #[v0, v1, v2, v3, v4, v5] T)).cell? ⟨w.heap.size, 2, none⟩ = some v2 ∧ (w.alloc (.cells #[v0, v1, v2, v3, v4, v5] T)).cell? ⟨w.heap.size, 3, none⟩ = some v3 ∧ (w.alloc (.cells #[v0, v1, v2, v3, v4, v5] T)).cell? ⟨w.heap.size, 4, none⟩ = some v4 ∧ (w.alloc (.cells #[v0, v1, v2, v3, v4, v5] T)).cell? ⟨w.heap.size, 5, none⟩ = some v5 := by
  refine ⟨?_, ?_, ?_, ?_, ?_⟩ <;> simp
set_option maxRecDepth 100000 in
set_option maxHeartbeats 2000000 in
theorem checkLine_any (r : Ln) (a : Option Addr) (c : Nat) (w : World) (hS : Shp w) (hk : KidsAt w r.ex a) :
    Calls Tryd.prog 66 #[.agg #[.int .i64 r.kind, .string r.name, .int .i64 r.ex.k, .int .i64 r.ex.n, .string r.ex.s, .slice a r.ex.m c]] w fun e w' => e = .returned (.int .i64 (lineE r)) ∧ Below w.heap.size w w' := by
  obtain ⟨k, s, x⟩ := r
  show Calls Tryd.prog 66 #[.agg #[.int .i64 k, .string s, .int .i64 x.k, .int .i64 x.n, .string x.s, .slice a x.m c]] w _
  have HE : Hid (lineE ⟨k, s, x⟩ = if k < 1 ∨ 4 < k then 7 else if NameP s then x.err else 1) := rfl
  have hk' : KidsAt w x a := hk
  have HK := Lib.hid hk'
  have HS := Lib.hid hS
  clear hk hk' hS
  generalize lineE ⟨k, s, x⟩ = z at *
  have HB0 := Lib.hid (kbelow_box w (.cells #[.int .i64 k, .string s, .int .i64 x.k, .int .i64 x.n, .string x.s, .slice a x.m c] 52))
  have HL := Lib.hid (LBox.made w (.int .i64 k) (.string s) (.int .i64 x.k) (.int .i64 x.n) (.string x.s) (.slice a x.m c) 52)
  by_cases h1 : k < 1
  · have HR : Hid (z = 7) := by unfold Hid; rw [HE.out, if_pos (.inl h1)]
    go_enter Tryd.func66, Tryd.ntmps66
    go_wp2_with fail
    go_ret
    exact ⟨kret_int HR.out.symm, HB0.out⟩
  · have h1B : decide (k < 1) = false := decide_eq_false h1
    by_cases h2 : 4 < k
    · have HR : Hid (z = 7) := by unfold Hid; rw [HE.out, if_pos (.inr h2)]
      go_enter Tryd.func66, Tryd.ntmps66
      go_wp2_with fail
      go_ret
      exact ⟨kret_int HR.out.symm, HB0.out⟩
    · have h2B : decide (4 < k) = false := decide_eq_false h2
      have HN : Hid (z = if NameP s then x.err else 1) := by unfold Hid; rw [HE.out, if_neg (by omega)]
      go_enter Tryd.func66, Tryd.ntmps66
      go_wp2_with fail
      refine (IsName_any s _).mono ?_
      rintro e w1 ⟨b, rfl, hb, hbel⟩
      have HB1 := Lib.hid (HB0.out.trans (hbel.mono HB0.out.size))
      obtain ⟨hg, l2, l3, l4, l5⟩ := HL.out
      have y2 := (hbel.cell (p := ⟨w.heap.size, 2, none⟩) hg).trans l2
      have y3 := (hbel.cell (p := ⟨w.heap.size, 3, none⟩) hg).trans l3
      have y4 := (hbel.cell (p := ⟨w.heap.size, 4, none⟩) hg).trans l4
      have y5 := (hbel.cell (p := ⟨w.heap.size, 5, none⟩) hg).trans l5
      clear hbel l2 l3 l4 l5 HL HB0
      cases b
      · have HR : Hid (z = 1) := by unfold Hid; rw [HN.out, if_neg (fun h => by have := hb.2 h; cases this)]
        clear hb
        go_wp2_with fail
        go_ret
        exact ⟨kret_int HR.out.symm, HB1.out⟩
      · have HR : Hid (z = x.err) := by unfold Hid; rw [HN.out, if_pos (hb.1 rfl)]
        clear hb HN
        go_wp2_with fail
        refine (checkExpr_any x a c _ (HS.out.below HB1.out) (HK.out.below HB1.out)).mono ?_
        rintro e w2 ⟨rfl, hb2⟩
        have HB2 := Lib.hid (HB1.out.trans (hb2.mono HB1.out.size))
        clear hb2
        go_wp2_with fail
        go_ret
        exact ⟨kret_int HR.out.symm, HB2.out⟩
set_option maxRecDepth 100000 in
set_option maxHeartbeats 2000000 in
theorem check_lines (a : Option Addr) (n cap : Nat) (l : List Ln) (w : World) (hS : Shp w) (hc : CameL w a l) (hn : l.length = n) (hm : n ≤ maxLen) :
    Calls Tryd.prog 30 #[.slice a n cap] w fun e w' => e = .returned (.int .i64 (linesE l)) ∧ Below w.heap.size w w' := by
  have hm' : n ≤ 9223372036854775807 := by unfold maxLen at hm; omega
  have HM := Lib.hid hm
  have HN := Lib.hid hn
  have HS := Lib.hid hS
  have HC := Lib.hid hc
  have HE : Hid (linesE l = if 40 < n ∨ ¬ (sumP l n ≤ 4000 ∧ maxD l n ≤ 20) then 2 else firstE (fun j => lineE (lnth l j)) n) := by unfold Hid linesE; rw [hn]
  clear hm hc hS hn
  go_enter Tryd.func30, Tryd.ntmps30
  go_wp2_with fail
  refine (tooMany_any a n cap l _ HC.out HN.out HM.out).mono ?_
  rintro e w1 ⟨rfl, hb1⟩
  have HB1 := Lib.hid hb1
  clear hb1
  by_cases hmany : 40 < n ∨ ¬ (sumP l n ≤ 4000 ∧ maxD l n ≤ 20)
  · rw [decide_eq_true hmany]
    have HR : Hid (linesE l = 2) := by unfold Hid; rw [HE.out, if_pos hmany]
    clear hmany
    go_wp2_with fail
    go_ret
    exact ⟨kret_int HR.out.symm, HB1.out⟩
  · rw [decide_eq_false hmany]
    have HF0 : Hid (linesE l = firstE (fun j => lineE (lnth l j)) n) := by unfold Hid; rw [HE.out, if_neg hmany]
    clear hmany HE
    have HO := Lib.hid (fun h0 => HC.out.open HN.out h0)
    go_wp2_with fail
    go_loopw [10] (fun i wr => ∃ j : Nat, j ≤ n ∧ i = .int .i64 j ∧ firstE (fun j => lineE (lnth l j)) j = 0 ∧ Below w.heap.size w wr) (fun i _ => n - (intOf i).toNat)
    case atStart => exact ⟨0, Nat.zero_le _, rfl, rfl, HB1.out⟩
    case round =>
      obtain ⟨j, hj, rfl, hf, hb⟩ := hrel
      have HF := Lib.hid hf
      have HB := Lib.hid hb
      clear hf hb
      by_cases hlt : j < n
      · have hlt' : (j : Int) < (n : Int) := by omega
        obtain ⟨b, off, rfl, hcell⟩ := HO.out (by omega)
        obtain ⟨aj, cj, ⟨x0, x1, x2, x3, x4, x5⟩, hns, hkj⟩ := hcell wr HB.out j hlt
        have HKJ := Lib.hid hkj
        have HNS := Lib.hid hns
        clear hcell hkj hns
        have HBJ := Lib.hid (kbelow_box wr (.cells #[.int .i64 (lnth l j).kind, .string (lnth l j).name, .int .i64 (lnth l j).ex.k, .int .i64 (lnth l j).ex.n, .string (lnth l j).ex.s, .slice aj (lnth l j).ex.m cj] 52))
        go_wp2_with fail
        refine (checkLine_any (lnth l j) aj cj _ ((HS.out.below HB.out).below HBJ.out) (HKJ.out.below HBJ.out)).mono ?_
        rintro e w2 ⟨rfl, hb2⟩
        have HB2 := Lib.hid (HB.out.trans ((HBJ.out.trans (hb2.mono HBJ.out.size)).mono HB.out.size))
        clear hb2 x0 x1 x2 x3 x4 x5
        by_cases hz : lineE (lnth l j) = 0
        · have HF1 : Hid (firstE (fun j => lineE (lnth l j)) (j + 1) = 0) := by unfold Hid; rw [firstE_ok HF.out]; exact hz
          rw [hz]
          go_wp2_with fail
          go_roundw
          case rel => exact ⟨j + 1, by omega, by go_num, HF1.out, HB2.out⟩
          case measure => simp [intOf]; omega
        · have hzB : decide (lineE (lnth l j) = 0) = false := decide_eq_false hz
          have hzN : (lineE (lnth l j) != 0) = true := by simpa using hz
          have HR : Hid (linesE l = lineE (lnth l j)) := by unfold Hid; rw [HF0.out, firstE_err (f := fun j => lineE (lnth l j)) hlt HF.out hz]
          generalize lineE (lnth l j) = y at *
          go_wp2_with fail
          go_ret
          exact ⟨kret_int HR.out.symm, HB2.out⟩
      · have hjn : j = n := by omega
        subst hjn
        have HR : Hid (linesE l = 0) := by unfold Hid; rw [HF0.out, HF.out]
        go_wp2_with fail
        go_ret
        exact ⟨kret_int HR.out.symm, HB.out⟩
end Go.Proofs.YtoingnhiipfnlaaDoor
