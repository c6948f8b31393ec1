/-
  Promise H1: the walk of the reference's checkAmounts.
-/
import Derived.Test.YtoingnhiipfnlaaDoorNAmE
namespace Go.Proofs.YtoingnhiipfnlaaDoor
open Go.RowKit Go.Sort

set_option maxRecDepth 100000 in
set_option maxHeartbeats 4000000 in
theorem checkAmounts_ref (a : Option Addr) (n cap : Nat) (l : List Am) (w : World) (hc : CameA w a l) (hfit : NamesFit l) (hn : l.length = n) (hm : n ≤ maxLen) :
    Calls Tryd.prog 28 #[.slice a n cap] w fun e w' => e = .returned (.int .i64 (amsE l)) ∧ Below w.heap.size w w' := by
  have hm' : n ≤ 9223372036854775807 := by unfold maxLen at hm; omega
  have HFIT := Lib.hid hfit
  have HN := Lib.hid hn
  have HC := Lib.hid (fun h0 => hc.open hn h0)
  have HE : Hid (amsE l = if ansB l = false then 1 else if amsB l = false then 3 else if upN (fun j => (anth l j).name) n = false then 6 else 0) := by unfold Hid amsE; rw [hn]
  clear hm hc hfit hn
  go_enter Tryd.func28, Tryd.ntmps28
  go_wp2_with fail
  go_loopw [3, 4, 5] (fun fv tv i wr => ∃ (k : Nat) (f t : Bool), k ≤ n ∧ fv = .bool f ∧ tv = .bool t ∧ i = .int .i64 k ∧ farK l k = f ∧ twiceK (fun j => (anth l j).name) k = t ∧ (∀ j, j < k → anB (anth l j) = true) ∧ Below w.heap.size w wr) (fun _ _ i _ => n - (intOf i).toNat)
  case atStart => exact ⟨0, false, false, Nat.zero_le _, rfl, rfl, rfl, rfl, rfl, fun j hj => by omega, Below.refl _ _⟩
  case round =>
    obtain ⟨k, f, t, hk, rfl, rfl, rfl, hf, ht, hall, hb⟩ := hrel
    have HF := Lib.hid hf
    have HT := Lib.hid ht
    have HA := Lib.hid hall
    have HB := Lib.hid hb
    clear hf ht hall hb
    by_cases hlt : k < n
    · have hlt' : (k : Int) < (n : Int) := by omega
      obtain ⟨b, off, rfl, hcell⟩ := HC.out (by omega)
      have HO := Lib.hid hcell
      clear hcell
      obtain ⟨x0, x1⟩ := HO.out wr HB.out k hlt
      go_wp2_with fail
      refine (isName_ref _ _ (by have := HFIT.out k (by have := HN.out; omega); unfold maxLen at this; omega)).mono ?_
      rintro e w1 ⟨bn, rfl, hbn, hbel⟩
      have HB2 := Lib.hid (HB.out.trans (hbel.mono HB.out.size))
      clear hbel x0 x1
      obtain ⟨x0, x1⟩ := HO.out w1 HB2.out k hlt
      cases bn
      · have HR : Hid (amsE l = 1) := by
          unfold Hid
          rw [HE.out]
          exact if_pos (all_not (P := anB) (l := l) (j := k) (by have := HN.out; omega) (decide_eq_false (fun h => by have := hbn.2 h; cases this)))
        clear hbn
        go_wp2_with fail
        go_ret
        exact ⟨kret_int HR.out.symm, HB2.out⟩
      · have HY : Hid (∀ j, j < k + 1 → anB (anth l j) = true) := fun j hj => by
          by_cases e : j = k
          · subst e; exact decide_eq_true (hbn.1 rfl)
          · exact HA.out j (by omega)
        clear hbn
        cases f
        · go_wp2_with fail
          refine (isMoney_ref _ _).mono ?_
          rintro e w2 ⟨rfl, h'⟩
          subst w2
          have HFM : Hid (farK l (k + 1) = !monB (anth l k).mon) := by unfold Hid; rw [farK_succ, HF.out]; rfl
          cases hmb : monB (anth l k).mon
          · have HFN : Hid (farK l (k + 1) = true) := by unfold Hid; rw [HFM.out, hmb]; rfl
            cases t
            · by_cases hk0 : k = 0
              · subst hk0
                have HTN : Hid (twiceK (fun j => (anth l j).name) (0 + 1) = false) := by unfold Hid; rw [twiceK_succ, HT.out]; simp
                go_wp2_with fail
                go_quiet (fail)
                go_wp2_with fail
                go_roundw
                case rel => exact ⟨0 + 1, true, false, by omega, rfl, rfl, by go_num, HFN.out, HTN.out, HY.out, kbelow_dN HB2.out _⟩
                case measure => simp [intOf]; omega
              · obtain ⟨q, rfl⟩ : ∃ q, k = q + 1 := ⟨k - 1, by omega⟩
                obtain ⟨z0, _⟩ := HO.out _ HB2.out q (by omega)
                rw [show ((q + 1 : Nat) : Int) = (q : Int) + 1 by omega]
                rw [show ((q + 1 : Nat) : Int) = (q : Int) + 1 by omega] at hlt'
                have hsub : (q : Int) + 1 - 1 = (q : Int) := by omega
                have htn : ((q : Int) + 1).toNat = q + 1 := by omega
                have hlq : (q : Int) < (n : Int) := by omega
                have hpB : decide ((0 : Int) < (q : Int) + 1) = true := decide_eq_true (by omega)
                have hp' : (0 : Int) < (q : Int) + 1 := by omega
                cases hle : leS (anth l (q + 1)).name (anth l q).name
                · have HTN : Hid (twiceK (fun j => (anth l j).name) (q + 1 + 1) = false) := by unfold Hid; rw [twiceK_succ, HT.out]; simp [hle]
                  unfold leS at hle
                  go_wp2_with fail
                  go_quiet (fail)
                  go_wp2_with fail
                  go_roundw
                  case rel => exact ⟨q + 1 + 1, true, false, by omega, rfl, rfl, by go_num, HFN.out, HTN.out, HY.out, kbelow_dN HB2.out _⟩
                  case measure => simp [intOf]; omega
                · have HTN : Hid (twiceK (fun j => (anth l j).name) (q + 1 + 1) = true) := by unfold Hid; rw [twiceK_succ, HT.out]; simp [hle]
                  unfold leS at hle
                  go_wp2_with fail
                  go_quiet (fail)
                  go_wp2_with fail
                  go_roundw
                  case rel => exact ⟨q + 1 + 1, true, true, by omega, rfl, rfl, by go_num, HFN.out, HTN.out, HY.out, kbelow_dN HB2.out _⟩
                  case measure => simp [intOf]; omega
            · have HTN : Hid (twiceK (fun j => (anth l j).name) (k + 1) = true) := by unfold Hid; rw [twiceK_succ, HT.out]; simp
              go_wp2_with fail
              go_quiet (fail)
              go_wp2_with fail
              go_roundw
              case rel => exact ⟨k + 1, true, true, by omega, rfl, rfl, by go_num, HFN.out, HTN.out, HY.out, kbelow_dN HB2.out _⟩
              case measure => simp [intOf]; omega
          · have HFN : Hid (farK l (k + 1) = false) := by unfold Hid; rw [HFM.out, hmb]; rfl
            cases t
            · by_cases hk0 : k = 0
              · subst hk0
                have HTN : Hid (twiceK (fun j => (anth l j).name) (0 + 1) = false) := by unfold Hid; rw [twiceK_succ, HT.out]; simp
                go_wp2_with fail
                go_quiet (fail)
                go_wp2_with fail
                go_roundw
                case rel => exact ⟨0 + 1, false, false, by omega, rfl, rfl, by go_num, HFN.out, HTN.out, HY.out, kbelow_dN HB2.out _⟩
                case measure => simp [intOf]; omega
              · obtain ⟨q, rfl⟩ : ∃ q, k = q + 1 := ⟨k - 1, by omega⟩
                obtain ⟨z0, _⟩ := HO.out _ HB2.out q (by omega)
                rw [show ((q + 1 : Nat) : Int) = (q : Int) + 1 by omega]
                rw [show ((q + 1 : Nat) : Int) = (q : Int) + 1 by omega] at hlt'
                have hsub : (q : Int) + 1 - 1 = (q : Int) := by omega
                have htn : ((q : Int) + 1).toNat = q + 1 := by omega
                have hlq : (q : Int) < (n : Int) := by omega
                have hpB : decide ((0 : Int) < (q : Int) + 1) = true := decide_eq_true (by omega)
                have hp' : (0 : Int) < (q : Int) + 1 := by omega
                cases hle : leS (anth l (q + 1)).name (anth l q).name
                · have HTN : Hid (twiceK (fun j => (anth l j).name) (q + 1 + 1) = false) := by unfold Hid; rw [twiceK_succ, HT.out]; simp [hle]
                  unfold leS at hle
                  go_wp2_with fail
                  go_quiet (fail)
                  go_wp2_with fail
                  go_roundw
                  case rel => exact ⟨q + 1 + 1, false, false, by omega, rfl, rfl, by go_num, HFN.out, HTN.out, HY.out, kbelow_dN HB2.out _⟩
                  case measure => simp [intOf]; omega
                · have HTN : Hid (twiceK (fun j => (anth l j).name) (q + 1 + 1) = true) := by unfold Hid; rw [twiceK_succ, HT.out]; simp [hle]
                  unfold leS at hle
                  go_wp2_with fail
                  go_quiet (fail)
                  go_wp2_with fail
                  go_roundw
                  case rel => exact ⟨q + 1 + 1, false, true, by omega, rfl, rfl, by go_num, HFN.out, HTN.out, HY.out, kbelow_dN HB2.out _⟩
                  case measure => simp [intOf]; omega
            · have HTN : Hid (twiceK (fun j => (anth l j).name) (k + 1) = true) := by unfold Hid; rw [twiceK_succ, HT.out]; simp
              go_wp2_with fail
              go_quiet (fail)
              go_wp2_with fail
              go_roundw
              case rel => exact ⟨k + 1, false, true, by omega, rfl, rfl, by go_num, HFN.out, HTN.out, HY.out, kbelow_dN HB2.out _⟩
              case measure => simp [intOf]; omega
        · have HFN : Hid (farK l (k + 1) = true) := by unfold Hid; rw [farK_succ, HF.out]; rfl
          cases t
          · by_cases hk0 : k = 0
            · subst hk0
              have HTN : Hid (twiceK (fun j => (anth l j).name) (0 + 1) = false) := by unfold Hid; rw [twiceK_succ, HT.out]; simp
              go_wp2_with fail
              go_quiet (fail)
              go_wp2_with fail
              go_roundw
              case rel => exact ⟨0 + 1, true, false, by omega, rfl, rfl, by go_num, HFN.out, HTN.out, HY.out, kbelow_dN HB2.out _⟩
              case measure => simp [intOf]; omega
            · obtain ⟨q, rfl⟩ : ∃ q, k = q + 1 := ⟨k - 1, by omega⟩
              obtain ⟨z0, _⟩ := HO.out _ HB2.out q (by omega)
              rw [show ((q + 1 : Nat) : Int) = (q : Int) + 1 by omega]
              rw [show ((q + 1 : Nat) : Int) = (q : Int) + 1 by omega] at hlt'
              have hsub : (q : Int) + 1 - 1 = (q : Int) := by omega
              have htn : ((q : Int) + 1).toNat = q + 1 := by omega
              have hlq : (q : Int) < (n : Int) := by omega
              have hpB : decide ((0 : Int) < (q : Int) + 1) = true := decide_eq_true (by omega)
              have hp' : (0 : Int) < (q : Int) + 1 := by omega
              cases hle : leS (anth l (q + 1)).name (anth l q).name
              · have HTN : Hid (twiceK (fun j => (anth l j).name) (q + 1 + 1) = false) := by unfold Hid; rw [twiceK_succ, HT.out]; simp [hle]
                unfold leS at hle
                go_wp2_with fail
                go_quiet (fail)
                go_wp2_with fail
                go_roundw
                case rel => exact ⟨q + 1 + 1, true, false, by omega, rfl, rfl, by go_num, HFN.out, HTN.out, HY.out, kbelow_dN HB2.out _⟩
                case measure => simp [intOf]; omega
              · have HTN : Hid (twiceK (fun j => (anth l j).name) (q + 1 + 1) = true) := by unfold Hid; rw [twiceK_succ, HT.out]; simp [hle]
                unfold leS at hle
                go_wp2_with fail
                go_quiet (fail)
                go_wp2_with fail
                go_roundw
                case rel => exact ⟨q + 1 + 1, true, true, by omega, rfl, rfl, by go_num, HFN.out, HTN.out, HY.out, kbelow_dN HB2.out _⟩
                case measure => simp [intOf]; omega
          · have HTN : Hid (twiceK (fun j => (anth l j).name) (k + 1) = true) := by unfold Hid; rw [twiceK_succ, HT.out]; simp
            go_wp2_with fail
            go_quiet (fail)
            go_wp2_with fail
            go_roundw
            case rel => exact ⟨k + 1, true, true, by omega, rfl, rfl, by go_num, HFN.out, HTN.out, HY.out, kbelow_dN HB2.out _⟩
            case measure => simp [intOf]; omega
    · have hkn : k = n := by omega
      subst hkn
      have HL : Hid (ansB l = true) := all_of (P := anB) (l := l) (fun j hj => HA.out j (by have := HN.out; omega))
      have H1 := farK_all HN.out
      have H2 := twiceK_all (fun j => (anth l j).name) k
      rw [HF.out] at H1
      rw [HT.out] at H2
      have HR : Hid (amsE l = if f = true then 3 else if t = true then 6 else 0) := by
        unfold Hid
        rw [HE.out, HL.out, H1, H2]
        cases amsB l <;> cases upN (fun j => (anth l j).name) k <;> rfl
      clear H1 H2 HE
      cases f
      · cases t
        · go_wp2_with fail
          go_ret
          exact ⟨kret_int HR.out.symm, HB.out⟩
        · go_wp2_with fail
          go_ret
          exact ⟨kret_int HR.out.symm, HB.out⟩
      · go_wp2_with fail
        go_ret
        exact ⟨kret_int HR.out.symm, HB.out⟩
end Go.Proofs.YtoingnhiipfnlaaDoor
