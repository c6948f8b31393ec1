/-
  Promise R1: the walks of the reference's wrongSlip and CheckSlips.
-/
import Derived.Test.YtiedlmhahdnhaaaSCheck
namespace Go.Proofs.Ytiedlmhahdnhaaa
open Go.RowKit Go.Sort

/-- Is one of the first k amounts no money, or 0? Does one of the first k names not rise? -/
def farK (l : List Am) (k : Nat) : Bool := (List.range k).any fun j => !asB (anth l j)
def twiceK (f : Nat → ByteArray) (k : Nat) : Bool := (List.range k).any fun j => decide (0 < j) && leS (f j) (f (j - 1))
theorem farK_succ (l : List Am) (k : Nat) : farK l (k + 1) = (farK l k || !asB (anth l k)) := by simp [farK, List.range_succ]
theorem twiceK_succ (f : Nat → ByteArray) (k : Nat) : twiceK f (k + 1) = (twiceK f k || (decide (0 < k) && leS (f k) (f (k - 1)))) := by simp [twiceK, List.range_succ]
theorem farK_all {l : List Am} {n : Nat} (hn : l.length = n) : farK l n = !assB l := by
  subst hn
  cases h : assB l
  · cases e : farK l l.length
    · exfalso
      have : assB l = true := all_of (P := asB) (l := l) (fun j hj => by
        unfold farK at e
        rw [List.any_eq_false] at e
        have := e j (List.mem_range.2 hj)
        simpa using this)
      rw [h] at this; cases this
    · rfl
  · show farK l l.length = false
    unfold farK
    rw [List.any_eq_false]
    intro j hj
    have := all_nth (P := asB) (l := l) h (List.mem_range.1 hj)
    simp [this]
theorem twiceK_all (f : Nat → ByteArray) (n : Nat) : twiceK f n = !upN f n := by
  cases h : upN f n
  · cases e : twiceK f n
    · exfalso
      have : upN f n = true := upN_iff.2 (fun j hj => by
        unfold twiceK at e
        rw [List.any_eq_false] at e
        have := e (j + 1) (List.mem_range.2 hj)
        simpa using this)
      rw [h] at this; cases this
    · rfl
  · show twiceK f n = false
    unfold twiceK
    rw [List.any_eq_false]
    intro j hj
    have hj' := List.mem_range.1 hj
    by_cases h0 : j = 0
    · simp [h0]
    · have := upN_iff.1 h (j - 1) (by omega)
      rw [show j - 1 + 1 = j by omega] at this
      simp [this]
set_option maxRecDepth 100000 in
set_option maxHeartbeats 4000000 in
theorem wrongSlip_ref (nu pe ru : Int) (g : Bool) (a : Option Addr) (n cap : Nat) (l : List Am) (w : World) (hp : PsAt w a l) (hn : l.length = n) :
    Calls Try.prog 28 #[.agg #[.int .i64 nu, .int .i64 pe, .int .i64 ru, .bool g, .slice a n cap]] w fun e w' => e = .returned (.int .i64 (slW ⟨nu, pe, ru, g, l⟩)) ∧ Below w.heap.size w w' := by
  have HFIT := Lib.hid hp.2.1
  have HM : Hid (n ≤ maxLen) := Lib.hid (by rw [← hn]; exact hp.2.2)
  have HN := Lib.hid hn
  have HC := Lib.hid (fun h0 => hp.1.open hn h0)
  have hm' : n ≤ 9223372036854775807 := by have := HM.out; unfold maxLen at this; omega
  have HE : Hid (slW ⟨nu, pe, ru, g, l⟩ = if perB nu = false ∨ perB pe = false ∨ perB ru = false then 3 else if 30 < n then 2 else if ansB l = false then 1 else if assB l = false then 3 else if upN (fun j => (anth l j).name) n = false then 6 else 0) := by unfold Hid slW; rw [hn]
  have HB0 := Lib.hid (kbelow_box w (.cells #[.int .i64 nu, .int .i64 pe, .int .i64 ru, .bool g, .slice a n cap] 44))
  clear hp hn
  cases hd1 : perB nu
  · rw [hd1, if_pos (.inl rfl)] at HE
    have hd2 := hd1
    have hd3 := hd1
    go_enter Try.func28, Try.ntmps28
    go_wp2_with (first | (go_at_call 14; refine (isPerson_ref _ _).mono ?_; rintro e w' ⟨rfl, h'⟩; subst w'; first | rw [hd1] | rw [hd2] | rw [hd3]))
    go_ret
    exact ⟨kret_int HE.out.symm, HB0.out⟩
  · cases hd2 : perB pe
    · rw [hd2, if_pos (.inr (.inl rfl))] at HE
      have hd3 := hd1
      go_enter Try.func28, Try.ntmps28
      go_wp2_with (first | (go_at_call 14; refine (isPerson_ref _ _).mono ?_; rintro e w' ⟨rfl, h'⟩; subst w'; first | rw [hd1] | rw [hd2] | rw [hd3]))
      go_ret
      exact ⟨kret_int HE.out.symm, HB0.out⟩
    · cases hd3 : perB ru
      · rw [hd3, if_pos (.inr (.inr rfl))] at HE
        go_enter Try.func28, Try.ntmps28
        go_wp2_with (first | (go_at_call 14; refine (isPerson_ref _ _).mono ?_; rintro e w' ⟨rfl, h'⟩; subst w'; first | rw [hd1] | rw [hd2] | rw [hd3]))
        go_ret
        exact ⟨kret_int HE.out.symm, HB0.out⟩
      · rw [hd1, hd2, hd3, if_neg (by decide)] at HE
        by_cases h20 : 30 < n
        · have h20' : (30 : Int) < (n : Int) := by omega
          rw [if_pos h20] at HE
          go_enter Try.func28, Try.ntmps28
          go_wp2_with (first | (go_at_call 14; refine (isPerson_ref _ _).mono ?_; rintro e w' ⟨rfl, h'⟩; subst w'; first | rw [hd1] | rw [hd2] | rw [hd3]))
          go_ret
          exact ⟨kret_int HE.out.symm, HB0.out⟩
        · have h20' : decide ((30 : Int) < (n : Int)) = false := decide_eq_false (by omega)
          rw [if_neg h20] at HE
          clear h20
          go_enter Try.func28, Try.ntmps28
          go_wp2_with (first | (go_at_call 14; refine (isPerson_ref _ _).mono ?_; rintro e w' ⟨rfl, h'⟩; subst w'; first | rw [hd1] | rw [hd2] | rw [hd3]))
          go_loopw [3, 4, 5] (fun fv tv i wr => ∃ (k : Nat) (f t : Bool), k ≤ n ∧ fv = .bool f ∧ tv = .bool t ∧ i = .int .i64 k ∧ farK l k = f ∧ twiceK (fun j => (anth l j).name) k = t ∧ (∀ j, j < k → anB (anth l j) = true) ∧ Below w.heap.size w wr ∧ wr.cell? ⟨w.heap.size, 4, none⟩ = some (.slice a n cap)) (fun _ _ i _ => n - (intOf i).toNat)
          case atStart => exact ⟨0, false, false, Nat.zero_le _, rfl, rfl, rfl, rfl, rfl, fun j hj => by omega, HB0.out, by simp⟩
          case round =>
            obtain ⟨k, f, t, hk, rfl, rfl, rfl, hf, ht, hall, hb, k4⟩ := hrel
            have HF := Lib.hid hf
            have HT := Lib.hid ht
            have HA := Lib.hid hall
            have HB := Lib.hid hb
            clear hf ht hall hb
            by_cases hlt : k < n
            · have hlt' : (k : Int) < (n : Int) := by omega
              obtain ⟨b, off, rfl, hcell⟩ := HC.out (by omega)
              have HO := Lib.hid hcell
              clear hcell
              obtain ⟨x0, x1⟩ := HO.out wr HB.out k hlt
              go_wp2_with fail
              refine (isName_ref _ _ (by have := HFIT.out k (by have := HN.out; omega); unfold maxLen at this; omega)).mono ?_
              rintro e w1 ⟨bn, rfl, hbn, hbel⟩
              have HB2 := Lib.hid (HB.out.trans (hbel.mono HB.out.size))
              have k5 : w1.cell? ⟨w.heap.size, 4, none⟩ = some (.slice (some ⟨b, off, none⟩) n cap) := (hbel.cell (p := ⟨w.heap.size, 4, none⟩) (oblt_of_cell k4)).trans k4
              have K4 := Lib.hid k5
              clear hbel x0 x1 k4
              obtain ⟨x0, x1⟩ := HO.out w1 HB2.out k hlt
              cases bn
              · have HR : Hid (slW ⟨nu, pe, ru, g, l⟩ = 1) := by
                  unfold Hid
                  rw [HE.out]
                  exact if_pos (all_not (P := anB) (l := l) (j := k) (by have := HN.out; omega) (decide_eq_false (fun h => by have := hbn.2 h; cases this)))
                clear hbn
                go_wp2_with fail
                go_ret
                exact ⟨kret_int HR.out.symm, HB2.out⟩
              · have HY : Hid (∀ j, j < k + 1 → anB (anth l j) = true) := fun j hj => by
                  by_cases e : j = k
                  · subst e; exact decide_eq_true (hbn.1 rfl)
                  · exact HA.out j (by omega)
                clear hbn
                cases f
                · have HFM : Hid (farK l (k + 1) = !(!((anth l k).mon == 0) && monB (anth l k).mon)) := by unfold Hid; rw [farK_succ, HF.out]; rfl
                  by_cases hm0 : (anth l k).mon = 0
                  · have HFN : Hid (farK l (k + 1) = true) := by unfold Hid; rw [HFM.out, hm0]; rfl
                    rw [hm0] at x1
                    clear hm0
                    cases t
                    · by_cases hk0 : k = 0
                      · subst hk0
                        have HTN : Hid (twiceK (fun j => (anth l j).name) (0 + 1) = false) := by unfold Hid; rw [twiceK_succ, HT.out]; simp
                        go_wp2_with fail
                        go_quiet (fail)
                        go_wp2_with fail
                        go_roundw
                        case rel => exact ⟨0 + 1, true, false, by omega, rfl, rfl, by go_num, HFN.out, HTN.out, HY.out, kbelow_dN HB2.out _, K4.out⟩
                        case measure => simp [intOf]; omega
                      · obtain ⟨q, rfl⟩ : ∃ q, k = q + 1 := ⟨k - 1, by omega⟩
                        obtain ⟨z0, _⟩ := HO.out _ HB2.out q (by omega)
                        rw [show ((q + 1 : Nat) : Int) = (q : Int) + 1 by omega]
                        rw [show ((q + 1 : Nat) : Int) = (q : Int) + 1 by omega] at hlt'
                        have hsub : (q : Int) + 1 - 1 = (q : Int) := by omega
                        have htn : ((q : Int) + 1).toNat = q + 1 := by omega
                        have hlq : (q : Int) < (n : Int) := by omega
                        have hpB : decide ((0 : Int) < (q : Int) + 1) = true := decide_eq_true (by omega)
                        have hp' : (0 : Int) < (q : Int) + 1 := by omega
                        cases hle : leS (anth l (q + 1)).name (anth l q).name
                        · have HTN : Hid (twiceK (fun j => (anth l j).name) (q + 1 + 1) = false) := by unfold Hid; rw [twiceK_succ, HT.out]; simp [hle]
                          unfold leS at hle
                          go_wp2_with fail
                          go_quiet (fail)
                          go_wp2_with fail
                          go_roundw
                          case rel => exact ⟨q + 1 + 1, true, false, by omega, rfl, rfl, by go_num, HFN.out, HTN.out, HY.out, kbelow_dN HB2.out _, K4.out⟩
                          case measure => simp [intOf]; omega
                        · have HTN : Hid (twiceK (fun j => (anth l j).name) (q + 1 + 1) = true) := by unfold Hid; rw [twiceK_succ, HT.out]; simp [hle]
                          unfold leS at hle
                          go_wp2_with fail
                          go_quiet (fail)
                          go_wp2_with fail
                          go_roundw
                          case rel => exact ⟨q + 1 + 1, true, true, by omega, rfl, rfl, by go_num, HFN.out, HTN.out, HY.out, kbelow_dN HB2.out _, K4.out⟩
                          case measure => simp [intOf]; omega
                    · have HTN : Hid (twiceK (fun j => (anth l j).name) (k + 1) = true) := by unfold Hid; rw [twiceK_succ, HT.out]; simp
                      go_wp2_with fail
                      go_quiet (fail)
                      go_wp2_with fail
                      go_roundw
                      case rel => exact ⟨k + 1, true, true, by omega, rfl, rfl, by go_num, HFN.out, HTN.out, HY.out, kbelow_dN HB2.out _, K4.out⟩
                      case measure => simp [intOf]; omega
                  · have hm1 : ((anth l k).mon == 0) = false := by simp [hm0]
                    rw [hm1] at HFM
                    clear hm0
                    go_wp2_with fail
                    refine (isMoney_ref _ _).mono ?_
                    rintro e w2 ⟨rfl, h'⟩
                    subst w2
                    cases hmb : monB (anth l k).mon
                    · have HFN : Hid (farK l (k + 1) = true) := by unfold Hid; rw [HFM.out, hmb]; rfl
                      cases t
                      · by_cases hk0 : k = 0
                        · subst hk0
                          have HTN : Hid (twiceK (fun j => (anth l j).name) (0 + 1) = false) := by unfold Hid; rw [twiceK_succ, HT.out]; simp
                          go_wp2_with fail
                          go_quiet (fail)
                          go_wp2_with fail
                          go_roundw
                          case rel => exact ⟨0 + 1, true, false, by omega, rfl, rfl, by go_num, HFN.out, HTN.out, HY.out, kbelow_dN HB2.out _, K4.out⟩
                          case measure => simp [intOf]; omega
                        · obtain ⟨q, rfl⟩ : ∃ q, k = q + 1 := ⟨k - 1, by omega⟩
                          obtain ⟨z0, _⟩ := HO.out _ HB2.out q (by omega)
                          rw [show ((q + 1 : Nat) : Int) = (q : Int) + 1 by omega]
                          rw [show ((q + 1 : Nat) : Int) = (q : Int) + 1 by omega] at hlt'
                          have hsub : (q : Int) + 1 - 1 = (q : Int) := by omega
                          have htn : ((q : Int) + 1).toNat = q + 1 := by omega
                          have hlq : (q : Int) < (n : Int) := by omega
                          have hpB : decide ((0 : Int) < (q : Int) + 1) = true := decide_eq_true (by omega)
                          have hp' : (0 : Int) < (q : Int) + 1 := by omega
                          cases hle : leS (anth l (q + 1)).name (anth l q).name
                          · have HTN : Hid (twiceK (fun j => (anth l j).name) (q + 1 + 1) = false) := by unfold Hid; rw [twiceK_succ, HT.out]; simp [hle]
                            unfold leS at hle
                            go_wp2_with fail
                            go_quiet (fail)
                            go_wp2_with fail
                            go_roundw
                            case rel => exact ⟨q + 1 + 1, true, false, by omega, rfl, rfl, by go_num, HFN.out, HTN.out, HY.out, kbelow_dN HB2.out _, K4.out⟩
                            case measure => simp [intOf]; omega
                          · have HTN : Hid (twiceK (fun j => (anth l j).name) (q + 1 + 1) = true) := by unfold Hid; rw [twiceK_succ, HT.out]; simp [hle]
                            unfold leS at hle
                            go_wp2_with fail
                            go_quiet (fail)
                            go_wp2_with fail
                            go_roundw
                            case rel => exact ⟨q + 1 + 1, true, true, by omega, rfl, rfl, by go_num, HFN.out, HTN.out, HY.out, kbelow_dN HB2.out _, K4.out⟩
                            case measure => simp [intOf]; omega
                      · have HTN : Hid (twiceK (fun j => (anth l j).name) (k + 1) = true) := by unfold Hid; rw [twiceK_succ, HT.out]; simp
                        go_wp2_with fail
                        go_quiet (fail)
                        go_wp2_with fail
                        go_roundw
                        case rel => exact ⟨k + 1, true, true, by omega, rfl, rfl, by go_num, HFN.out, HTN.out, HY.out, kbelow_dN HB2.out _, K4.out⟩
                        case measure => simp [intOf]; omega
                    · have HFN : Hid (farK l (k + 1) = false) := by unfold Hid; rw [HFM.out, hmb]; rfl
                      cases t
                      · by_cases hk0 : k = 0
                        · subst hk0
                          have HTN : Hid (twiceK (fun j => (anth l j).name) (0 + 1) = false) := by unfold Hid; rw [twiceK_succ, HT.out]; simp
                          go_wp2_with fail
                          go_quiet (fail)
                          go_wp2_with fail
                          go_roundw
                          case rel => exact ⟨0 + 1, false, false, by omega, rfl, rfl, by go_num, HFN.out, HTN.out, HY.out, kbelow_dN HB2.out _, K4.out⟩
                          case measure => simp [intOf]; omega
                        · obtain ⟨q, rfl⟩ : ∃ q, k = q + 1 := ⟨k - 1, by omega⟩
                          obtain ⟨z0, _⟩ := HO.out _ HB2.out q (by omega)
                          rw [show ((q + 1 : Nat) : Int) = (q : Int) + 1 by omega]
                          rw [show ((q + 1 : Nat) : Int) = (q : Int) + 1 by omega] at hlt'
                          have hsub : (q : Int) + 1 - 1 = (q : Int) := by omega
                          have htn : ((q : Int) + 1).toNat = q + 1 := by omega
                          have hlq : (q : Int) < (n : Int) := by omega
                          have hpB : decide ((0 : Int) < (q : Int) + 1) = true := decide_eq_true (by omega)
                          have hp' : (0 : Int) < (q : Int) + 1 := by omega
                          cases hle : leS (anth l (q + 1)).name (anth l q).name
                          · have HTN : Hid (twiceK (fun j => (anth l j).name) (q + 1 + 1) = false) := by unfold Hid; rw [twiceK_succ, HT.out]; simp [hle]
                            unfold leS at hle
                            go_wp2_with fail
                            go_quiet (fail)
                            go_wp2_with fail
                            go_roundw
                            case rel => exact ⟨q + 1 + 1, false, false, by omega, rfl, rfl, by go_num, HFN.out, HTN.out, HY.out, kbelow_dN HB2.out _, K4.out⟩
                            case measure => simp [intOf]; omega
                          · have HTN : Hid (twiceK (fun j => (anth l j).name) (q + 1 + 1) = true) := by unfold Hid; rw [twiceK_succ, HT.out]; simp [hle]
                            unfold leS at hle
                            go_wp2_with fail
                            go_quiet (fail)
                            go_wp2_with fail
                            go_roundw
                            case rel => exact ⟨q + 1 + 1, false, true, by omega, rfl, rfl, by go_num, HFN.out, HTN.out, HY.out, kbelow_dN HB2.out _, K4.out⟩
                            case measure => simp [intOf]; omega
                      · have HTN : Hid (twiceK (fun j => (anth l j).name) (k + 1) = true) := by unfold Hid; rw [twiceK_succ, HT.out]; simp
                        go_wp2_with fail
                        go_quiet (fail)
                        go_wp2_with fail
                        go_roundw
                        case rel => exact ⟨k + 1, false, true, by omega, rfl, rfl, by go_num, HFN.out, HTN.out, HY.out, kbelow_dN HB2.out _, K4.out⟩
                        case measure => simp [intOf]; omega
                · have HFN : Hid (farK l (k + 1) = true) := by unfold Hid; rw [farK_succ, HF.out]; rfl
                  cases t
                  · by_cases hk0 : k = 0
                    · subst hk0
                      have HTN : Hid (twiceK (fun j => (anth l j).name) (0 + 1) = false) := by unfold Hid; rw [twiceK_succ, HT.out]; simp
                      go_wp2_with fail
                      go_quiet (fail)
                      go_wp2_with fail
                      go_roundw
                      case rel => exact ⟨0 + 1, true, false, by omega, rfl, rfl, by go_num, HFN.out, HTN.out, HY.out, kbelow_dN HB2.out _, K4.out⟩
                      case measure => simp [intOf]; omega
                    · obtain ⟨q, rfl⟩ : ∃ q, k = q + 1 := ⟨k - 1, by omega⟩
                      obtain ⟨z0, _⟩ := HO.out _ HB2.out q (by omega)
                      rw [show ((q + 1 : Nat) : Int) = (q : Int) + 1 by omega]
                      rw [show ((q + 1 : Nat) : Int) = (q : Int) + 1 by omega] at hlt'
                      have hsub : (q : Int) + 1 - 1 = (q : Int) := by omega
                      have htn : ((q : Int) + 1).toNat = q + 1 := by omega
                      have hlq : (q : Int) < (n : Int) := by omega
                      have hpB : decide ((0 : Int) < (q : Int) + 1) = true := decide_eq_true (by omega)
                      have hp' : (0 : Int) < (q : Int) + 1 := by omega
                      cases hle : leS (anth l (q + 1)).name (anth l q).name
                      · have HTN : Hid (twiceK (fun j => (anth l j).name) (q + 1 + 1) = false) := by unfold Hid; rw [twiceK_succ, HT.out]; simp [hle]
                        unfold leS at hle
                        go_wp2_with fail
                        go_quiet (fail)
                        go_wp2_with fail
                        go_roundw
                        case rel => exact ⟨q + 1 + 1, true, false, by omega, rfl, rfl, by go_num, HFN.out, HTN.out, HY.out, kbelow_dN HB2.out _, K4.out⟩
                        case measure => simp [intOf]; omega
                      · have HTN : Hid (twiceK (fun j => (anth l j).name) (q + 1 + 1) = true) := by unfold Hid; rw [twiceK_succ, HT.out]; simp [hle]
                        unfold leS at hle
                        go_wp2_with fail
                        go_quiet (fail)
                        go_wp2_with fail
                        go_roundw
                        case rel => exact ⟨q + 1 + 1, true, true, by omega, rfl, rfl, by go_num, HFN.out, HTN.out, HY.out, kbelow_dN HB2.out _, K4.out⟩
                        case measure => simp [intOf]; omega
                  · have HTN : Hid (twiceK (fun j => (anth l j).name) (k + 1) = true) := by unfold Hid; rw [twiceK_succ, HT.out]; simp
                    go_wp2_with fail
                    go_quiet (fail)
                    go_wp2_with fail
                    go_roundw
                    case rel => exact ⟨k + 1, true, true, by omega, rfl, rfl, by go_num, HFN.out, HTN.out, HY.out, kbelow_dN HB2.out _, K4.out⟩
                    case measure => simp [intOf]; omega
            · have hkn : k = n := by omega
              subst hkn
              have HL : Hid (ansB l = true) := all_of (P := anB) (l := l) (fun j hj => HA.out j (by have := HN.out; omega))
              have H1 := farK_all HN.out
              have H2 := twiceK_all (fun j => (anth l j).name) k
              rw [HF.out] at H1
              rw [HT.out] at H2
              have HR : Hid (slW ⟨nu, pe, ru, g, l⟩ = if f = true then 3 else if t = true then 6 else 0) := by
                unfold Hid
                rw [HE.out, HL.out, H1, H2]
                cases assB l <;> cases upN (fun j => (anth l j).name) k <;> rfl
              clear H1 H2 HE
              cases f
              · cases t
                · go_wp2_with fail
                  go_ret
                  exact ⟨kret_int HR.out.symm, HB.out⟩
                · go_wp2_with fail
                  go_ret
                  exact ⟨kret_int HR.out.symm, HB.out⟩
              · go_wp2_with fail
                go_ret
                exact ⟨kret_int HR.out.symm, HB.out⟩
set_option maxRecDepth 100000 in
set_option maxHeartbeats 2000000 in
theorem checkSlips_ref (a : Option Addr) (n cap : Nat) (l : List Sl) (w : World) (hc : CameS w a l) (hn : l.length = n) :
    Calls Try.prog 12 #[.slice a n cap] w fun e w' => e = .returned (.int .i64 (slE l)) ∧ Below w.heap.size w w' := by
  have HO := Lib.hid (fun h0 => hc.open hn h0)
  have HN := Lib.hid hn
  have HE : Hid (slE l = if 200 < l.length then 2 else if slsW l = 0 then (if upS l = true then 0 else 4) else slsW l) := rfl
  clear hc hn
  by_cases h400 : 200 < n
  · have h4 : (200 : Int) < (n : Int) := by omega
    have HR : Hid (slE l = 2) := Lib.hid (by rw [HE.out, HN.out, if_pos h400])
    go_enter Try.func12, Try.ntmps12
    go_wp2_with fail
    go_ret
    exact ⟨kret_int HR.out.symm, Below.refl _ _⟩
  · have h4 : ¬ ((200 : Int) < (n : Int)) := by omega
    rw [HN.out, if_neg h400] at HE
    go_enter Try.func12, Try.ntmps12
    go_wp2_with fail
    go_loopw [3] (fun i wr => ∃ k : Nat, k ≤ n ∧ i = .int .i64 k ∧ (∀ j, j < k → slW (snth l j) = 0) ∧ Below w.heap.size w wr) (fun i _ => n - (intOf i).toNat)
    case atStart => exact ⟨0, Nat.zero_le _, rfl, fun j hj => by omega, Below.refl _ _⟩
    case round =>
      obtain ⟨k, hk, rfl, hall, hb⟩ := hrel
      have HA := Lib.hid hall
      have HB := Lib.hid hb
      clear hall hb
      by_cases hlt : k < n
      · have hlt' : (k : Int) < (n : Int) := by omega
        obtain ⟨b, off, rfl, hcell⟩ := HO.out (by omega)
        obtain ⟨⟨x0, x1, x2, x3⟩, ax, cx, x4, hp⟩ := hcell wr HB.out k hlt
        clear hcell
        have HP := Lib.hid hp
        have HBX := Lib.hid (HB.out.trans (Below.mono (B := wr.heap.size) (Below.refl wr.heap.size wr) HB.out.size))
        have HK := Lib.hid (fun w (hp : PsAt w ax _) => wrongSlip_ref (snth l k).num (snth l k).per (snth l k).run (snth l k).gone ax (snth l k).tot.length cx (snth l k).tot w hp rfl)
        clear hp
        by_cases hz : slW (snth l k) = 0
        · have HZ := Lib.hid hz
          have hz' : slW ⟨(snth l k).num, (snth l k).per, (snth l k).run, (snth l k).gone, (snth l k).tot⟩ = 0 := hz
          rw [hz'] at HK
          clear hz hz'
          go_wp2_with fail
          refine (HK.out _ (HP.out.below (Below.refl wr.heap.size wr))).mono ?_
          rintro e w1 ⟨rfl, hb1⟩
          have HB1 := Lib.hid (HBX.out.trans (hb1.mono HBX.out.size))
          clear hb1
          go_wp2_with fail
          go_roundw
          case rel =>
            refine ⟨k + 1, by omega, by go_num, ?_, HB1.out⟩
            intro j hj
            by_cases e : j = k
            · subst e; exact HZ.out
            · exact HA.out j (by omega)
          case measure => simp [intOf]; omega
        · have HR : Hid (slE l = slW (snth l k)) := Lib.hid (by
            have e : slsW l = slW (snth l k) := slsW_at HA.out (by rw [HN.out]; exact hlt) hz
            rw [HE.out, e, if_neg hz])
          obtain ⟨c, hcc⟩ : ∃ c, slW (snth l k) = c := ⟨_, rfl⟩
          have hcc' : slW ⟨(snth l k).num, (snth l k).per, (snth l k).run, (snth l k).gone, (snth l k).tot⟩ = c := hcc
          rw [hcc'] at HK
          rw [hcc] at HR hz
          have hz' : (c != 0) = true := by simp [hz]
          clear hcc hcc' hz
          go_wp2_with fail
          refine (HK.out _ (HP.out.below (Below.refl wr.heap.size wr))).mono ?_
          rintro e w1 ⟨rfl, hb1⟩
          have HB1 := Lib.hid (HBX.out.trans (hb1.mono HBX.out.size))
          clear hb1
          go_wp2_with fail
          go_ret
          exact ⟨kret_int HR.out.symm, HB1.out⟩
      · have hkn : k = n := by omega
        subst hkn
        have HZ : Hid (slsW l = 0) := Lib.hid (slsW_ok (fun j hj => HA.out j (by rw [HN.out] at hj; exact hj)))
        rw [HZ.out, if_pos rfl] at HE
        clear HZ HA
        go_wp2_with fail
        generalize wr = wu at *
        go_loopw [5] (fun i wq => ∃ r : Nat, (r + 1 ≤ k ∨ r = 0) ∧ i = .int .i64 ((r : Int) + 1) ∧ Below w.heap.size w wq ∧ ∀ j, j < r → (snth l j).num < (snth l (j + 1)).num) (fun i _ => k - (intOf i).toNat)
        case atStart => exact ⟨0, .inr rfl, rfl, HB.out, fun j hj => by omega⟩
        case round =>
          clear HB
          obtain ⟨r, hrk, rfl, hb, hall⟩ := hrel
          have HA := Lib.hid hall
          have HB := Lib.hid hb
          clear hall hb
          by_cases hlt : r + 1 < k
          · have hlt' : (r : Int) + 1 < (k : Int) := by omega
            have hlt0 : (r : Int) < (k : Int) := by omega
            obtain ⟨b, off, rfl, hcell⟩ := HO.out (by omega)
            have hx := hcell _ HB.out r (by omega)
            have hy := hcell _ HB.out (r + 1) (by omega)
            clear hcell
            obtain ⟨⟨x0, _⟩, _⟩ := hx; obtain ⟨⟨y0, _⟩, _⟩ := hy
            have hsub : (r : Int) + 1 - 1 = (r : Int) := by omega
            have htn : ((r : Int) + 1).toNat = r + 1 := by omega
            have HUN := Lib.hid (fun h => upS_not (l := l) (j := r) (by rw [HN.out]; exact hlt) h)
            obtain ⟨u, hu⟩ : ∃ u, (snth l r).num = u := ⟨_, rfl⟩
            obtain ⟨v, hv⟩ : ∃ v, (snth l (r + 1)).num = v := ⟨_, rfl⟩
            rw [hu] at x0 HUN
            rw [hv] at y0 HUN
            have HU := Lib.hid hu
            have HV := Lib.hid hv
            clear hu hv
            by_cases hd : u < v
            · have hd1 : decide (v ≤ u) = false := decide_eq_false (by omega)
              have HD := Lib.hid hd
              go_wp2_with fail
              go_quiet (fail)
              go_wp2_with fail
              go_roundw
              case rel =>
                refine ⟨r + 1, .inl (by omega), by go_num, kbelow_dN HB.out _, ?_⟩
                intro j hj
                by_cases e : j = r
                · subst e; rw [HU.out, HV.out]; exact HD.out
                · exact HA.out j (by omega)
              case measure => simp [intOf]; omega
            · have hd1 : v ≤ u := by omega
              have HT := Lib.hid (HUN.out hd1)
              rw [HT.out] at HE
              go_wp2_with fail
              go_quiet (fail)
              go_wp2_with fail
              go_ret
              exact ⟨kret_int HE.out.symm, kbelow_dN HB.out _⟩
          · have hnl : ¬ ((r : Int) + 1 < (k : Int)) := by omega
            have HT : Hid (upS l = true) := upS_iff.2 (fun j hj => HA.out j (by rw [HN.out] at hj; omega))
            rw [HT.out] at HE
            go_wp2_with fail
            go_ret
            exact ⟨kret_int HE.out.symm, HB.out⟩
end Go.Proofs.Ytiedlmhahdnhaaa
