/-
  Promise Q1: the walks of the reference's WrongEntry and CheckJournal.
-/
import Derived.Test.YtdgcfakbmhchdaaQBal
namespace Go.Proofs.Ytdgcfakbmhchdaa
open Go.RowKit

/-- Is one of the first k amounts no money, or 0? -/
def farK (l : List Am) (k : Nat) : Bool := (List.range k).any fun j => !asB (anth l j)
theorem farK_succ (l : List Am) (k : Nat) : farK l (k + 1) = (farK l k || !asB (anth l k)) := by simp [farK, List.range_succ]
theorem farK_all {l : List Am} {n : Nat} (hn : l.length = n) : farK l n = !assB l := by
  subst hn
  cases h : assB l
  · cases e : farK l l.length
    · exfalso
      have : assB l = true := all_of (P := asB) (l := l) (fun j hj => by
        unfold farK at e
        rw [List.any_eq_false] at e
        have := e j (List.mem_range.2 hj)
        simpa using this)
      rw [h] at this; cases this
    · rfl
  · show farK l l.length = false
    unfold farK
    rw [List.any_eq_false]
    intro j hj
    have := all_nth (P := asB) (l := l) h (List.mem_range.1 hj)
    simp [this]
theorem farK_pre {l : List Am} {k : Nat} (hk : k ≤ l.length) (h : farK l k = false) : ∀ r ∈ l.take k, asB r = true := by
  intro r hr
  obtain ⟨j, hj, rfl⟩ := List.mem_iff_getElem.1 hr
  rw [List.length_take] at hj
  unfold farK at h
  rw [List.any_eq_false] at h
  have := h j (List.mem_range.2 (by omega))
  have hj2 : j < l.length := by omega
  simpa [anth, List.getD_eq_getElem?_getD, hj2] using this
set_option maxRecDepth 100000 in
set_option maxHeartbeats 4000000 in
theorem wrongEntry_ref (d : Int) (a : Option Addr) (n cap : Nat) (l : List Am) (w : World) (hp : PsAt w a l) (hn : l.length = n) :
    Calls Try.prog 17 #[.agg #[.int .i64 d, .slice a n cap]] w fun e w' => e = .returned (.int .i64 (enE ⟨d, l⟩)) ∧ Below w.heap.size w w' := by
  have HFIT := Lib.hid hp.2.1
  have HM : Hid (n ≤ maxLen) := Lib.hid (by rw [← hn]; exact hp.2.2)
  have HN := Lib.hid hn
  have HC := Lib.hid (fun h0 => hp.1.open hn h0)
  have hm' : n ≤ 9223372036854775807 := by have := HM.out; unfold maxLen at this; omega
  have HE : Hid (enE ⟨d, l⟩ = if dayB d = false then 3 else if n < 2 ∨ 20 < n then 2 else if ansB l = false then 1 else if assB l = false then 3 else if sumA l = 0 then 0 else 4) := by unfold Hid enE; rw [hn]
  have HB0 := Lib.hid (kbelow_box w (.cells #[.int .i64 d, .slice a n cap] 29))
  clear hp hn
  cases hd : dayB d
  · rw [hd, if_pos rfl] at HE
    go_enter Try.func17, Try.ntmps17
    go_wp2_with (first | (go_at_call 30; refine (isDay_ref _ _).mono ?_; rintro e w' ⟨rfl, h'⟩; subst w'; rw [hd]))
    go_ret
    exact ⟨kret_int HE.out.symm, HB0.out⟩
  · rw [hd, if_neg (by decide)] at HE
    by_cases h2 : n < 2
    · have h2' : (n : Int) < 2 := by omega
      rw [if_pos (.inl h2)] at HE
      go_enter Try.func17, Try.ntmps17
      go_wp2_with (first | (go_at_call 30; refine (isDay_ref _ _).mono ?_; rintro e w' ⟨rfl, h'⟩; subst w'; rw [hd]))
      go_ret
      exact ⟨kret_int HE.out.symm, HB0.out⟩
    · have h2' : decide ((n : Int) < 2) = false := decide_eq_false (by omega)
      by_cases h20 : 20 < n
      · have h20' : (20 : Int) < (n : Int) := by omega
        rw [if_pos (.inr h20)] at HE
        go_enter Try.func17, Try.ntmps17
        go_wp2_with (first | (go_at_call 30; refine (isDay_ref _ _).mono ?_; rintro e w' ⟨rfl, h'⟩; subst w'; rw [hd]))
        go_ret
        exact ⟨kret_int HE.out.symm, HB0.out⟩
      · have h20' : decide ((20 : Int) < (n : Int)) = false := decide_eq_false (by omega)
        rw [if_neg (by omega)] at HE
        have HSZ : Hid (n ≤ 20) := Lib.hid (by omega)
        clear h20 h2
        go_enter Try.func17, Try.ntmps17
        go_wp2_with (first | (go_at_call 30; refine (isDay_ref _ _).mono ?_; rintro e w' ⟨rfl, h'⟩; subst w'; rw [hd]))
        go_loopw [3, 4, 5] (fun fv sv i wr => ∃ (k : Nat) (f : Bool) (s : Int), k ≤ n ∧ fv = .bool f ∧ sv = .int .i64 s ∧ i = .int .i64 k ∧ farK l k = f ∧ (f = false → s = sumA (l.take k)) ∧ (∀ j, j < k → anB (anth l j) = true) ∧ Below w.heap.size w wr ∧ wr.cell? ⟨w.heap.size, 1, none⟩ = some (.slice a n cap)) (fun _ _ i _ => n - (intOf i).toNat)
        case atStart => exact ⟨0, false, 0, Nat.zero_le _, rfl, rfl, rfl, rfl, fun _ => rfl, fun j hj => by omega, HB0.out, by simp⟩
        case round =>
          obtain ⟨k, f, s, hk, rfl, rfl, rfl, hf, hs, hall, hb, k4⟩ := hrel
          have HF := Lib.hid hf
          have HS := Lib.hid hs
          have HA := Lib.hid hall
          have HB := Lib.hid hb
          clear hf hs hall hb
          by_cases hlt : k < n
          · have hlt' : (k : Int) < (n : Int) := by omega
            obtain ⟨b, off, rfl, hcell⟩ := HC.out (by omega)
            have HO := Lib.hid hcell
            clear hcell
            obtain ⟨x0, x1⟩ := HO.out wr HB.out k hlt
            have HKL : Hid (k < l.length) := Lib.hid (by rw [HN.out]; exact hlt)
            go_wp2_with fail
            refine (isName_ref _ _ (by have := HFIT.out k HKL.out; unfold maxLen at this; omega)).mono ?_
            rintro e w1 ⟨bn, rfl, hbn, hbel⟩
            have HB2 := Lib.hid (HB.out.trans (hbel.mono HB.out.size))
            have k5 : w1.cell? ⟨w.heap.size, 1, none⟩ = some (.slice (some ⟨b, off, none⟩) n cap) := (hbel.cell (p := ⟨w.heap.size, 1, none⟩) (oblt_of_cell k4)).trans k4
            have K4 := Lib.hid k5
            clear hbel x0 x1 k4
            obtain ⟨x0, x1⟩ := HO.out w1 HB2.out k hlt
            cases bn
            · have HR : Hid (enE ⟨d, l⟩ = 1) := by
                unfold Hid
                rw [HE.out]
                exact if_pos (all_not (P := anB) (l := l) (j := k) HKL.out (decide_eq_false (fun h => by have := hbn.2 h; cases this)))
              clear hbn
              go_wp2_with fail
              go_ret
              exact ⟨kret_int HR.out.symm, HB2.out⟩
            · have HY : Hid (∀ j, j < k + 1 → anB (anth l j) = true) := fun j hj => by
                by_cases e : j = k
                · subst e; exact decide_eq_true (hbn.1 rfl)
                · exact HA.out j (by omega)
              clear hbn
              cases f
              · have HFM : Hid (farK l (k + 1) = !(!((anth l k).mon == 0) && monB (anth l k).mon)) := by unfold Hid; rw [farK_succ, HF.out]; rfl
                have HSE := Lib.hid (HS.out rfl)
                have HBD := Lib.hid (sumA_bd (l := l.take k) (farK_pre (by have := HKL.out; omega) HF.out))
                have HST := Lib.hid (sumA_step (l := l) HKL.out)
                have HLK : Hid ((l.take k).length ≤ 20) := Lib.hid (by rw [List.length_take]; have := HSZ.out; have := HN.out; omega)
                rw [← HSE.out] at HBD HST
                by_cases hm0 : (anth l k).mon = 0
                · have HFN : Hid (farK l (k + 1) = true) := by unfold Hid; rw [HFM.out, hm0]; rfl
                  rw [hm0] at x1
                  clear hm0
                  go_wp2_with fail
                  go_roundw
                  case rel => exact ⟨k + 1, true, s, by omega, rfl, rfl, by go_num, HFN.out, fun h => by (first | cases h | (exfalso; simp at h)), HY.out, HB2.out, K4.out⟩
                  case measure => simp [intOf]; omega
                · have hm1 : ((anth l k).mon == 0) = false := by simp [hm0]
                  rw [hm1] at HFM
                  clear hm0
                  go_wp2_with fail
                  refine (isMoney_ref _ _).mono ?_
                  rintro e w2 ⟨rfl, h'⟩
                  subst w2
                  cases hmb : monB (anth l k).mon
                  · have HFN : Hid (farK l (k + 1) = true) := by unfold Hid; rw [HFM.out, hmb]; rfl
                    go_wp2_with fail
                    go_roundw
                    case rel => exact ⟨k + 1, true, s, by omega, rfl, rfl, by go_num, HFN.out, fun h => by (first | cases h | (exfalso; simp at h)), HY.out, HB2.out, K4.out⟩
                    case measure => simp [intOf]; omega
                  · have HFN : Hid (farK l (k + 1) = false) := by unfold Hid; rw [HFM.out, hmb]; rfl
                    have hmo := of_decide_eq_true hmb
                    have hwrap : IntKind.i64.wrap (s + (anth l k).mon) = s + (anth l k).mon := IntWalk.i64_in _ (by
                      have h1 := HBD.out
                      have h2 := HLK.out
                      omega)
                    obtain ⟨mo, hmoe⟩ : ∃ mo, (anth l k).mon = mo := ⟨_, rfl⟩
                    rw [hmoe] at x1 HST hwrap
                    clear hmo hmoe hmb hm1 HFM
                    go_wp2_with fail
                    go_roundw
                    case rel => exact ⟨k + 1, false, s + mo, by omega, rfl, rfl, by go_num, HFN.out, fun _ => HST.out.symm, HY.out, HB2.out, K4.out⟩
                    case measure => simp [intOf]; omega
              · have HFN : Hid (farK l (k + 1) = true) := by unfold Hid; rw [farK_succ, HF.out]; rfl
                go_wp2_with fail
                go_roundw
                case rel => exact ⟨k + 1, true, s, by omega, rfl, rfl, by go_num, HFN.out, fun h => by (first | cases h | (exfalso; simp at h)), HY.out, HB2.out, K4.out⟩
                case measure => simp [intOf]; omega
          · have hkn : k = n := by omega
            subst hkn
            have HL : Hid (ansB l = true) := all_of (P := anB) (l := l) (fun j hj => HA.out j (by have := HN.out; omega))
            have H1 := farK_all HN.out
            rw [HF.out] at H1
            have HR : Hid (enE ⟨d, l⟩ = if f = true then 3 else if s = 0 then 0 else 4) := by
              unfold Hid
              rw [HE.out, HL.out, if_neg (by decide)]
              cases f
              · have e := HS.out rfl
                rw [← HN.out, List.take_length] at e
                cases hq : assB l
                · rw [hq] at H1; cases H1
                · rw [e]; rfl
              · cases hq : assB l
                · rfl
                · rw [hq] at H1; cases H1
            clear H1 HE HS
            cases f
            · by_cases hs0 : s = 0
              · rw [if_neg (by decide), if_pos hs0] at HR
                subst hs0
                go_wp2_with fail
                go_ret
                exact ⟨kret_int HR.out.symm, HB.out⟩
              · rw [if_neg (by decide), if_neg hs0] at HR
                have hs1 : (s != 0) = true := by simp [hs0]
                clear hs0
                go_wp2_with fail
                go_ret
                exact ⟨kret_int HR.out.symm, HB.out⟩
            · go_wp2_with fail
              go_ret
              exact ⟨kret_int HR.out.symm, HB.out⟩
set_option maxRecDepth 100000 in
set_option maxHeartbeats 2000000 in
theorem checkJournal_ref (a : Option Addr) (n cap : Nat) (l : List En) (w : World) (hc : CameE w a l) (hn : l.length = n) :
    Calls Try.prog 13 #[.slice a n cap] w fun e w' => e = .returned (.int .i64 (jrE l)) ∧ Below w.heap.size w w' := by
  have HO := Lib.hid (fun h0 => hc.open hn h0)
  have HN := Lib.hid hn
  have HE : Hid (jrE l = if 100 < l.length then 2 else if ensE l = 0 then (if upD l = true then 0 else 4) else ensE l) := rfl
  clear hc hn
  by_cases h400 : 100 < n
  · have h4 : (100 : Int) < (n : Int) := by omega
    have HR : Hid (jrE l = 2) := Lib.hid (by rw [HE.out, HN.out, if_pos h400])
    go_enter Try.func13, Try.ntmps13
    go_wp2_with fail
    go_ret
    exact ⟨kret_int HR.out.symm, Below.refl _ _⟩
  · have h4 : ¬ ((100 : Int) < (n : Int)) := by omega
    rw [HN.out, if_neg h400] at HE
    go_enter Try.func13, Try.ntmps13
    go_wp2_with fail
    go_loopw [3] (fun i wr => ∃ k : Nat, k ≤ n ∧ i = .int .i64 k ∧ (∀ j, j < k → enE (enth l j) = 0) ∧ Below w.heap.size w wr) (fun i _ => n - (intOf i).toNat)
    case atStart => exact ⟨0, Nat.zero_le _, rfl, fun j hj => by omega, Below.refl _ _⟩
    case round =>
      obtain ⟨k, hk, rfl, hall, hb⟩ := hrel
      have HA := Lib.hid hall
      have HB := Lib.hid hb
      clear hall hb
      by_cases hlt : k < n
      · have hlt' : (k : Int) < (n : Int) := by omega
        obtain ⟨b, off, rfl, hcell⟩ := HO.out (by omega)
        obtain ⟨ax, cx, x0, x1, hp⟩ := hcell wr HB.out k hlt
        clear hcell
        have HP := Lib.hid hp
        have HBX := Lib.hid (HB.out.trans (Below.mono (B := wr.heap.size) (Below.refl wr.heap.size wr) HB.out.size))
        have HK := Lib.hid (fun w (hp : PsAt w ax _) => wrongEntry_ref (enth l k).day ax (enth l k).ps.length cx (enth l k).ps w hp rfl)
        clear hp
        by_cases hz : enE (enth l k) = 0
        · have HZ := Lib.hid hz
          have hz' : enE ⟨(enth l k).day, (enth l k).ps⟩ = 0 := hz
          rw [hz'] at HK
          clear hz hz'
          go_wp2_with fail
          refine (HK.out _ (HP.out.below (Below.refl wr.heap.size wr))).mono ?_
          rintro e w1 ⟨rfl, hb1⟩
          have HB1 := Lib.hid (HBX.out.trans (hb1.mono HBX.out.size))
          clear hb1
          go_wp2_with fail
          go_roundw
          case rel =>
            refine ⟨k + 1, by omega, by go_num, ?_, HB1.out⟩
            intro j hj
            by_cases e : j = k
            · subst e; exact HZ.out
            · exact HA.out j (by omega)
          case measure => simp [intOf]; omega
        · have HR : Hid (jrE l = enE (enth l k)) := Lib.hid (by
            have e : ensE l = enE (enth l k) := ensE_at HA.out (by rw [HN.out]; exact hlt) hz
            rw [HE.out, e, if_neg hz])
          obtain ⟨c, hcc⟩ : ∃ c, enE (enth l k) = c := ⟨_, rfl⟩
          have hcc' : enE ⟨(enth l k).day, (enth l k).ps⟩ = c := hcc
          rw [hcc'] at HK
          rw [hcc] at HR hz
          have hz' : (c != 0) = true := by simp [hz]
          clear hcc hcc' hz
          go_wp2_with fail
          refine (HK.out _ (HP.out.below (Below.refl wr.heap.size wr))).mono ?_
          rintro e w1 ⟨rfl, hb1⟩
          have HB1 := Lib.hid (HBX.out.trans (hb1.mono HBX.out.size))
          clear hb1
          go_wp2_with fail
          go_ret
          exact ⟨kret_int HR.out.symm, HB1.out⟩
      · have hkn : k = n := by omega
        subst hkn
        have HZ : Hid (ensE l = 0) := Lib.hid (ensE_ok (fun j hj => HA.out j (by rw [HN.out] at hj; exact hj)))
        rw [HZ.out, if_pos rfl] at HE
        clear HZ HA
        go_wp2_with fail
        generalize wr = wu at *
        go_loopw [5] (fun i wq => ∃ r : Nat, (r + 1 ≤ k ∨ r = 0) ∧ i = .int .i64 ((r : Int) + 1) ∧ Below w.heap.size w wq ∧ ∀ j, j < r → (enth l j).day ≤ (enth l (j + 1)).day) (fun i _ => k - (intOf i).toNat)
        case atStart => exact ⟨0, .inr rfl, rfl, HB.out, fun j hj => by omega⟩
        case round =>
          clear HB
          obtain ⟨r, hrk, rfl, hb, hall⟩ := hrel
          have HA := Lib.hid hall
          have HB := Lib.hid hb
          clear hall hb
          by_cases hlt : r + 1 < k
          · have hlt' : (r : Int) + 1 < (k : Int) := by omega
            have hlt0 : (r : Int) < (k : Int) := by omega
            obtain ⟨b, off, rfl, hcell⟩ := HO.out (by omega)
            have hx := hcell _ HB.out r (by omega)
            have hy := hcell _ HB.out (r + 1) (by omega)
            clear hcell
            obtain ⟨_, _, x0, _⟩ := hx; obtain ⟨_, _, y0, _⟩ := hy
            have hsub : (r : Int) + 1 - 1 = (r : Int) := by omega
            have htn : ((r : Int) + 1).toNat = r + 1 := by omega
            have HUN := Lib.hid (fun h => upD_not (l := l) (j := r) (by rw [HN.out]; exact hlt) h)
            obtain ⟨u, hu⟩ : ∃ u, (enth l r).day = u := ⟨_, rfl⟩
            obtain ⟨v, hv⟩ : ∃ v, (enth l (r + 1)).day = v := ⟨_, rfl⟩
            rw [hu] at x0 HUN
            rw [hv] at y0 HUN
            have HU := Lib.hid hu
            have HV := Lib.hid hv
            clear hu hv
            by_cases hd : u ≤ v
            · have hd1 : decide (v < u) = false := decide_eq_false (by omega)
              have HD := Lib.hid hd
              go_wp2_with fail
              go_quiet (fail)
              go_wp2_with fail
              go_roundw
              case rel =>
                refine ⟨r + 1, .inl (by omega), by go_num, kbelow_dN HB.out _, ?_⟩
                intro j hj
                by_cases e : j = r
                · subst e; rw [HU.out, HV.out]; exact HD.out
                · exact HA.out j (by omega)
              case measure => simp [intOf]; omega
            · have hd1 : v < u := by omega
              have HT := Lib.hid (HUN.out hd1)
              rw [HT.out] at HE
              go_wp2_with fail
              go_quiet (fail)
              go_wp2_with fail
              go_ret
              exact ⟨kret_int HE.out.symm, kbelow_dN HB.out _⟩
          · have hnl : ¬ ((r : Int) + 1 < (k : Int)) := by omega
            have HT : Hid (upD l = true) := upD_iff.2 (fun j hj => HA.out j (by rw [HN.out] at hj; omega))
            rw [HT.out] at HE
            go_wp2_with fail
            go_ret
            exact ⟨kret_int HE.out.symm, HB.out⟩
end Go.Proofs.Ytdgcfakbmhchdaa
