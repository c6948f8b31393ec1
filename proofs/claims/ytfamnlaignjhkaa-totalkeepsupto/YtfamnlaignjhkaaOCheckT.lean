/-
  Promises M1, M4: the walk of the reference's CheckTotals.
-/
import Derived.Test.YtfamnlaignjhkaaOCheckR
namespace Go.Proofs.Ytfamnlaignjhkaa
open Go.RowKit Go.Sort

/-- What CheckTotals tells. -/
def refE (loose : Bool) (l : List Tt) : Int := if loose then checkE true l else totE l
set_option maxRecDepth 100000 in
set_option maxHeartbeats 2000000 in
theorem checkTotals_ref (a : Option Addr) (n cap : Nat) (l : List Tt) (loose : Bool) (w : World) (hc : CameO w a l) (hf : NFit l) (hn : l.length = n) (hm : n ≤ maxLen) :
    Calls Try.prog 12 #[.slice a n cap, .bool loose] w fun e w' => e = .returned (.int .i64 (refE loose l)) ∧ Below w.heap.size w w' := by
  have hm' : n ≤ 9223372036854775807 := by unfold maxLen at hm; omega
  have HO := Lib.hid (fun h0 => hc.open hn h0)
  have HF := Lib.hid hf
  have HN := Lib.hid hn
  have HE : Hid (refE loose l = if checkE loose l = 0 then (if loose = true then 0 else if upT l = true then 0 else 4) else checkE loose l) := by
    unfold Hid refE
    cases loose
    · rfl
    · simp
  clear hm hc hn hf
  by_cases h400 : 400 < n
  · have h4 : (400 : Int) < (n : Int) := by omega
    have HR : Hid (refE loose l = 2) := Lib.hid (by
      have e : checkE loose l = 2 := by unfold checkE; rw [HN.out, if_pos h400]
      rw [HE.out, e, if_neg (by decide)])
    go_enter Try.func12, Try.ntmps12
    go_wp2_with fail
    go_ret
    exact ⟨oret_int HR.out.symm, Below.refl _ _⟩
  · have h4 : ¬ ((400 : Int) < (n : Int)) := by omega
    have HCE : Hid (checkE loose l = firstW loose l) := Lib.hid (by unfold checkE; rw [HN.out, if_neg h400])
    go_enter Try.func12, Try.ntmps12
    go_wp2_with fail
    go_loopw [5] (fun i wr => ∃ k : Nat, k ≤ n ∧ i = .int .i64 k ∧ (∀ j, j < k → wrongT loose (onth l j) = 0) ∧ Below w.heap.size w wr) (fun i _ => n - (intOf i).toNat)
    case atStart => exact ⟨0, Nat.zero_le _, rfl, fun j hj => by omega, Below.refl _ _⟩
    case round =>
      obtain ⟨k, hk, rfl, hall, hb⟩ := hrel
      have HA := Lib.hid hall
      have HB := Lib.hid hb
      clear hall hb
      by_cases hlt : k < n
      · have hlt' : (k : Int) < (n : Int) := by omega
        obtain ⟨b, off, rfl, hcell⟩ := HO.out (by omega)
        obtain ⟨x0, x1, x2, x3⟩ := hcell wr HB.out k hlt
        clear hcell
        have hsz : (onth l k).nam.size ≤ 9223372036854775807 := by have := HF.out k (by rw [HN.out]; exact hlt); unfold maxLen at this; omega
        have HK := Lib.hid (fun w => wrong_ref (onth l k).per (onth l k).yr (onth l k).mon (onth l k).nam loose w hsz)
        clear hsz
        by_cases hz : wrongT loose (onth l k) = 0
        · have HZ := Lib.hid hz
          have hz' : wrongT loose ⟨(onth l k).per, (onth l k).nam, (onth l k).yr, (onth l k).mon⟩ = 0 := hz
          rw [hz'] at HK
          clear hz hz'
          go_wp2_with fail
          refine (HK.out _).mono ?_
          rintro e w1 ⟨rfl, hb1⟩
          have HB1 := Lib.hid (HB.out.trans (hb1.mono HB.out.size))
          clear hb1
          go_wp2_with fail
          go_roundw
          case rel =>
            refine ⟨k + 1, by omega, by go_num, ?_, HB1.out⟩
            intro j hj
            by_cases e : j = k
            · subst e; exact HZ.out
            · exact HA.out j (by omega)
          case measure => simp [intOf]; omega
        · have HR : Hid (refE loose l = wrongT loose (onth l k)) := Lib.hid (by
            have e : checkE loose l = wrongT loose (onth l k) := by rw [HCE.out]; exact firstW_at HA.out (by rw [HN.out]; exact hlt) hz
            rw [HE.out, e, if_neg hz])
          obtain ⟨c, hcc⟩ : ∃ c, wrongT loose (onth l k) = c := ⟨_, rfl⟩
          have hcc' : wrongT loose ⟨(onth l k).per, (onth l k).nam, (onth l k).yr, (onth l k).mon⟩ = c := hcc
          rw [hcc'] at HK
          rw [hcc] at HR hz
          have hz' : (c != 0) = true := by simp [hz]
          clear hcc hcc' hz
          go_wp2_with fail
          refine (HK.out _).mono ?_
          rintro e w1 ⟨rfl, hb1⟩
          have HB1 := Lib.hid (HB.out.trans (hb1.mono HB.out.size))
          clear hb1
          go_wp2_with fail
          go_ret
          exact ⟨oret_int HR.out.symm, HB1.out⟩
      · have hkn : k = n := by omega
        subst hkn
        have HZ : Hid (checkE loose l = 0) := Lib.hid (by rw [HCE.out]; exact firstW_ok (fun j hj => HA.out j (by rw [HN.out] at hj; exact hj)))
        rw [HZ.out, if_pos rfl] at HE
        clear HZ HCE HA
        cases loose
        · go_wp2_with fail
          go_loopw [7] (fun i wq => ∃ r : Nat, (r + 1 ≤ k ∨ r = 0) ∧ i = .int .i64 ((r : Int) + 1) ∧ Below w.heap.size w wq ∧ ∀ j, j < r → aheadT (onth l j) (onth l (j + 1)) = true) (fun i _ => k - (intOf i).toNat)
          case atStart => exact ⟨0, .inr rfl, rfl, HB.out, fun j hj => by omega⟩
          case round =>
            clear HB
            obtain ⟨r, hrk, rfl, hb, hall⟩ := hrel
            have HA := Lib.hid hall
            have HB := Lib.hid hb
            clear hall hb
            by_cases hlt : r + 1 < k
            · have hlt' : (r : Int) + 1 < (k : Int) := by omega
              have hlt0 : (r : Int) < (k : Int) := by omega
              obtain ⟨b, off, rfl, hcell⟩ := HO.out (by omega)
              obtain ⟨x0, x1, x2, x3⟩ := hcell _ HB.out r (by omega)
              obtain ⟨y0, y1, y2, y3⟩ := hcell _ HB.out (r + 1) (by omega)
              clear hcell
              have htn : ((r : Int) + 1).toNat = r + 1 := by omega
              have hi0 : (0 : Int) ≤ (r : Int) + 1 := by omega
              have hr0 : (0 : Int) ≤ (r : Int) := by omega
              have hwr : IntKind.i64.wrap (r : Int) = (r : Int) := IntWalk.i64_in _ (by omega)
              have hwd : IntKind.i64.wrap ((r : Int) + 1 - 1) = (r : Int) := by rw [show (r : Int) + 1 - 1 = r by omega]; exact hwr
              have hd0 : (0 : Int) ≤ (r : Int) + 1 - 1 := by omega
              have hdn : (r : Int) + 1 - 1 < (k : Int) := by omega
              have hdt : ((r : Int) + 1 - 1).toNat = r := by omega
              have k0 := cell_regrown x0
              have k1 := cell_regrown x1
              have k2 := cell_regrown x2
              have k3 := cell_regrown x3
              have k4 := cell_regrown y0
              have k5 := cell_regrown y1
              have k6 := cell_regrown y2
              have k7 := cell_regrown y3
              have HK := Lib.hid (fun w => ahead_ref (onth l r).per (onth l r).yr (onth l r).mon (onth l (r + 1)).per (onth l (r + 1)).yr (onth l (r + 1)).mon (onth l r).nam (onth l (r + 1)).nam w)
              cases hah : aheadT (onth l r) (onth l (r + 1))
              · have hah' : aheadT ⟨(onth l r).per, (onth l r).nam, (onth l r).yr, (onth l r).mon⟩ ⟨(onth l (r + 1)).per, (onth l (r + 1)).nam, (onth l (r + 1)).yr, (onth l (r + 1)).mon⟩ = false := hah
                rw [hah'] at HK
                have HT : Hid (upT l = false) := upT_not (by rw [HN.out]; exact hlt) hah
                rw [HT.out] at HE
                clear hah hah'
                go_wp2_with fail
                refine wp_region_quiet_below (by kernel_rfl) (by kernel_rfl) ?_
                repeat (quiet_step (exact Calls.regrown_of (HK.out _)))
                refine wpQuiet_nil ?_
                intro _ hw'
                obtain ⟨⟨dq, osq⟩, hw''⟩ := hw'
                subst hw''
                go_wp2_with fail
                go_ret
                exact ⟨oret_int HE.out.symm, HB.out.trans ((below_regrown _ dq osq).mono HB.out.size)⟩
              · have hah' : aheadT ⟨(onth l r).per, (onth l r).nam, (onth l r).yr, (onth l r).mon⟩ ⟨(onth l (r + 1)).per, (onth l (r + 1)).nam, (onth l (r + 1)).yr, (onth l (r + 1)).mon⟩ = true := hah
                rw [hah'] at HK
                have HT := Lib.hid hah
                clear hah hah'
                go_wp2_with fail
                refine wp_region_quiet_below (by kernel_rfl) (by kernel_rfl) ?_
                repeat (quiet_step (exact Calls.regrown_of (HK.out _)))
                refine wpQuiet_nil ?_
                intro _ hw'
                obtain ⟨⟨dq, osq⟩, hw''⟩ := hw'
                subst hw''
                go_wp2_with fail
                go_roundw
                case rel =>
                  refine ⟨r + 1, .inl (by omega), by go_num, HB.out.trans ((below_regrown _ dq osq).mono HB.out.size), ?_⟩
                  intro j hj
                  by_cases e : j = r
                  · subst e; exact HT.out
                  · exact HA.out j (by omega)
                case measure => simp [intOf]; omega
            · have hnl : ¬ ((r : Int) + 1 < (k : Int)) := by omega
              have HT : Hid (upT l = true) := upT_iff.2 (fun j hj => HA.out j (by rw [HN.out] at hj; omega))
              rw [HT.out] at HE
              go_wp2_with fail
              go_ret
              exact ⟨oret_int HE.out.symm, HB.out⟩
        · go_wp2_with fail
          refine wp_loop_rounds 1 ?_
          rw [rounds_succ]
          by_cases hk1 : 1 < k
          · have hk1' : (1 : Int) < (k : Int) := by omega
            go_wp2_with fail
            go_ret
            exact ⟨oret_int HE.out.symm, HB.out⟩
          · have hk1' : ¬ ((1 : Int) < (k : Int)) := by omega
            go_wp2_with fail
            go_ret
            exact ⟨oret_int HE.out.symm, HB.out⟩
end Go.Proofs.Ytfamnlaignjhkaa
