/-
  Promise F2: the walk of the reference's CheckLines.
-/
import Derived.Test.YtoingnhiipfnlaaDoorXChk
import Derived.Test.YtoingnhiipfnlaaDoorXErrR
namespace Go.Proofs.YtoingnhiipfnlaaDoor
open Go.RowKit

set_option maxRecDepth 100000 in
set_option maxHeartbeats 4000000 in
theorem checkLines_ref (a : Option Addr) (n cap : Nat) (l : List Ln) (w : World) (hc : CameL w a l) (hn : l.length = n) (hm : n ≤ maxLen) :
    Calls Tryd.prog 15 #[.slice a n cap] w fun e w' => e = .returned (.int .i64 (linesE l)) ∧ Below w.heap.size w w' := by
  have hm' : n ≤ 9223372036854775807 := by unfold maxLen at hm; omega
  have HE : Hid (linesE l = if 40 < n ∨ ¬ (sumP l n ≤ 4000 ∧ maxD l n ≤ 20) then 2 else firstE (fun j => lineE (lnth l j)) n) := by unfold Hid linesE; rw [hn]
  have HO := Lib.hid (fun h0 => hc.open hn h0)
  clear hm hc hn
  by_cases h40 : 40 < n
  · have HR : Hid (linesE l = 2) := by unfold Hid; rw [HE.out, if_pos (.inl h40)]
    have h40' : (40 : Int) < (n : Int) := by omega
    have HB := Lib.hid (Below.refl w.heap.size w)
    go_enter Tryd.func15, Tryd.ntmps15
    go_wp2_with fail
    go_ret
    exact ⟨kret_int HR.out.symm, HB.out⟩
  · have h40' : decide ((40 : Int) < (n : Int)) = false := decide_eq_false (by omega)
    go_enter Tryd.func15, Tryd.ntmps15
    go_wp2_with fail
    go_loopw [3, 4] (fun nv i wr => ∃ j r : Nat, j ≤ n ∧ i = .int .i64 j ∧ nv = .int .i64 r ∧ r = sumP l j ∧ r ≤ 4000 ∧ maxD l j ≤ 20 ∧ Below w.heap.size w wr) (fun _ i _ => n - (intOf i).toNat)
    case atStart => exact ⟨0, 0, Nat.zero_le _, rfl, rfl, rfl, by omega, by simp [maxD, maxN], Below.refl _ _⟩
    case round =>
      obtain ⟨j, r, hj, rfl, rfl, hs, hr4, hd, hb⟩ := hrel
      have HSD := Lib.hid (And.intro hs hd)
      have HB := Lib.hid hb
      clear hs hd hb
      by_cases hlt : j < n
      · have hlt' : (j : Int) < (n : Int) := by omega
        obtain ⟨b, off, rfl, hcell⟩ := HO.out (by omega)
        obtain ⟨aj, cj, ⟨x0, x1, x2, x3, x4, x5⟩, hns, hkj⟩ := hcell wr HB.out j hlt
        have HKJ := Lib.hid hkj
        have HNS := Lib.hid hns
        have HCL := Lib.hid hcell
        clear hcell hkj hns
        go_wp2_with fail
        refine (parts_ref (lnth l j).ex aj cj 4000 _ (by omega) HKJ.out).mono ?_
        rintro e w1 ⟨rfl, hb1⟩
        have HB1 := Lib.hid (HB.out.trans (hb1.mono HB.out.size))
        clear x0 x1 x2 x3 x4 x5
        obtain ⟨aj', cj', ⟨x0, x1, x2, x3, x4, x5⟩, _, hkj⟩ := HCL.out w1 HB1.out j hlt
        have HKJ1 := Lib.hid hkj
        clear hb1 hkj
        have hcut : cutN (lnth l j).ex.parts 4000 ≤ 4001 := by unfold cutN; omega
        have HCUT : Hid (cutN (lnth l j).ex.parts 4000 = min (lnth l j).ex.parts 4001) := rfl
        generalize cutN (lnth l j).ex.parts 4000 = u at *
        by_cases hbig : 4000 < r + u
        · have hbig' : (4000 : Int) < (r : Int) + (u : Int) := by omega
          have HR : Hid (linesE l = 2) := by
            unfold Hid
            rw [HE.out, if_pos (.inr (fun h => by
              have h1 := HSD.out
              have h2 := sumP_le (l := l) (show j + 1 ≤ n by omega)
              have h3 := HCUT.out
              rw [sumP_succ] at h2
              omega))]
          go_wp2_with fail
          go_ret
          exact ⟨kret_int HR.out.symm, HB1.out⟩
        · have hbigB : decide ((4000 : Int) < (r : Int) + (u : Int)) = false := decide_eq_false (by omega)
          go_wp2_with fail
          refine (depth_ref (lnth l j).ex aj' cj' 20 _ (by omega) HKJ1.out).mono ?_
          rintro e w2 ⟨rfl, hb2⟩
          have HB2 := Lib.hid (HB1.out.trans (hb2.mono HB1.out.size))
          have HCD : Hid (cutN (lnth l j).ex.depth 20 = min (lnth l j).ex.depth 21) := rfl
          have hcd : cutN (lnth l j).ex.depth 20 ≤ 21 := by unfold cutN; omega
          clear hb2 x0 x1 x2 x3 x4 x5
          generalize cutN (lnth l j).ex.depth 20 = d at *
          by_cases hdeep : 20 < d
          · have hdeep' : (20 : Int) < (d : Int) := by omega
            have HR : Hid (linesE l = 2) := by
              unfold Hid
              rw [HE.out, if_pos (.inr (fun h => by
                have h1 := HSD.out
                have h2 := maxD_le (l := l) (show j + 1 ≤ n by omega)
                have h3 := HCD.out
                rw [maxD_succ] at h2
                omega))]
            go_wp2_with fail
            go_ret
            exact ⟨kret_int HR.out.symm, HB2.out⟩
          · have hdeepB : decide ((20 : Int) < (d : Int)) = false := decide_eq_false (by omega)
            have HN : Hid (r + u = sumP l (j + 1) ∧ maxD l (j + 1) ≤ 20) := by
              have h1 := HSD.out
              have h2 := HCUT.out
              have h3 := HCD.out
              unfold Hid
              rw [sumP_succ, maxD_succ]
              omega
            go_wp2_with fail
            go_roundw
            case rel => exact ⟨j + 1, r + u, by omega, by go_num, by go_num, HN.out.1, by omega, HN.out.2, HB2.out⟩
            case measure => simp [intOf]; omega
      · have hltB : decide ((j : Int) < (n : Int)) = false := decide_eq_false (by omega)
        have HF0 : Hid (linesE l = firstE (fun j => lineE (lnth l j)) n) := by
          have h1 := HSD.out
          have hjn : j = n := by omega
          subst hjn
          unfold Hid
          rw [HE.out, if_neg (by omega)]
        clear HSD HE
        have HB0 := HB
        clear HB
        go_wp2_with fail
        go_loopw [5] (fun i wq => ∃ q : Nat, q ≤ n ∧ i = .int .i64 q ∧ firstE (fun j => lineE (lnth l j)) q = 0 ∧ Below w.heap.size w wq) (fun i _ => n - (intOf i).toNat)
        case atStart => exact ⟨0, Nat.zero_le _, rfl, rfl, HB0.out⟩
        case round =>
          clear HB0
          generalize wr = wr0 at *
          obtain ⟨q, hq, rfl, hf, hb⟩ := hrel
          have HF := Lib.hid hf
          have HB := Lib.hid hb
          clear hf hb
          by_cases hlt : q < n
          · have hlt' : (q : Int) < (n : Int) := by omega
            obtain ⟨b, off, rfl, hcell⟩ := HO.out (by omega)
            obtain ⟨aj, cj, ⟨x0, x1, x2, x3, x4, x5⟩, hns, hkj⟩ := hcell _ HB.out q hlt
            have HKJ := Lib.hid hkj
            have HNS := Lib.hid hns
            have HCL := Lib.hid hcell
            clear hcell hkj hns
            have HLE : Hid (lineE (lnth l q) = if (lnth l q).kind < 1 ∨ 4 < (lnth l q).kind then 7 else if NameP (lnth l q).name then (lnth l q).ex.err else 1) := rfl
            have HER : Hid (lineE (lnth l q) ≠ 0 → linesE l = lineE (lnth l q)) := fun hz => by rw [HF0.out, firstE_err (f := fun j => lineE (lnth l j)) hlt HF.out hz]
            by_cases k1 : (lnth l q).kind < 1
            · have HR : Hid (linesE l = 7) := by unfold Hid; have h := HLE.out; rw [if_pos (.inl k1)] at h; rw [HER.out (by omega), h]
              go_wp2_with fail
              go_ret
              exact ⟨kret_int HR.out.symm, HB.out⟩
            · have k1B : decide ((lnth l q).kind < 1) = false := decide_eq_false k1
              by_cases k2 : 4 < (lnth l q).kind
              · have HR : Hid (linesE l = 7) := by unfold Hid; have h := HLE.out; rw [if_pos (.inr k2)] at h; rw [HER.out (by omega), h]
                go_wp2_with fail
                go_ret
                exact ⟨kret_int HR.out.symm, HB.out⟩
              · have k2B : decide (4 < (lnth l q).kind) = false := decide_eq_false k2
                have HL2 : Hid (lineE (lnth l q) = if NameP (lnth l q).name then (lnth l q).ex.err else 1) := by unfold Hid; rw [HLE.out, if_neg (by omega)]
                clear HLE
                go_wp2_with fail
                refine (isName_ref _ _ (by have := HNS.out; unfold maxLen at this; omega)).mono ?_
                rintro e w3 ⟨bb, rfl, hbn, hbel⟩
                have HB3 := Lib.hid (HB.out.trans (hbel.mono HB.out.size))
                clear x0 x1 x2 x3 x4 x5
                obtain ⟨aj', cj', ⟨x0, x1, x2, x3, x4, x5⟩, _, hkj⟩ := HCL.out w3 HB3.out q hlt
                have HKJ1 := Lib.hid hkj
                clear hbel hkj
                cases bb
                · have HR : Hid (linesE l = 1) := by
                    unfold Hid
                    have h := HL2.out
                    rw [if_neg (fun h => by have := hbn.2 h; cases this)] at h
                    rw [HER.out (by omega), h]
                  clear hbn
                  go_wp2_with fail
                  go_ret
                  exact ⟨kret_int HR.out.symm, HB3.out⟩
                · have HL3 : Hid (lineE (lnth l q) = (lnth l q).ex.err) := by unfold Hid; rw [HL2.out, if_pos (hbn.1 rfl)]
                  clear hbn HL2
                  go_wp2_with fail
                  refine (wrongExpr_ref (lnth l q).ex aj' cj' _ HKJ1.out).mono ?_
                  rintro e w4 ⟨rfl, hb4⟩
                  have HB4 := Lib.hid (HB3.out.trans (hb4.mono HB3.out.size))
                  clear hb4 x0 x1 x2 x3 x4 x5
                  by_cases hz : (lnth l q).ex.err = 0
                  · have HF1 : Hid (firstE (fun j => lineE (lnth l j)) (q + 1) = 0) := by unfold Hid; rw [firstE_ok HF.out, HL3.out]; exact hz
                    rw [hz]
                    go_wp2_with fail
                    go_roundw
                    case rel => exact ⟨q + 1, by omega, by go_num, HF1.out, HB4.out⟩
                    case measure => simp [intOf]; omega
                  · have hzB : decide ((lnth l q).ex.err = 0) = false := decide_eq_false hz
                    have hzN : ((lnth l q).ex.err != 0) = true := by simpa using hz
                    have HR : Hid (linesE l = (lnth l q).ex.err) := by unfold Hid; rw [HER.out (by rw [HL3.out]; exact hz), HL3.out]
                    generalize (lnth l q).ex.err = y at *
                    go_wp2_with fail
                    go_ret
                    exact ⟨kret_int HR.out.symm, HB4.out⟩
          · have hltB2 : decide ((q : Int) < (n : Int)) = false := decide_eq_false (by omega)
            have HR : Hid (linesE l = 0) := by
              have hqn : q = n := by omega
              subst hqn
              unfold Hid
              rw [HF0.out, HF.out]
            go_wp2_with fail
            go_ret
            exact ⟨kret_int HR.out.symm, HB.out⟩
end Go.Proofs.YtoingnhiipfnlaaDoor
