/-
  Promise O1: the walks of the reference's Barred and CheckRun.
-/
import Derived.Test.YtfdhjdbefikjmaaGCheck
namespace Go.Proofs.Ytfdhjdbefikjmaa
open Go.RowKit

theorem BarW.made (w : World) (R : Nat → Int) (t : TypeId) : (w.alloc (.cells #[.int .i64 (R 1), .int .i64 (R 2), .int .i64 (R 3), .int .i64 (R 4), .int .i64 (R 5), .int .i64 (R 6), .int .i64 (R 7)] t)).cell? ⟨w.heap.size, 1, none⟩ = some (.int .i64 (R 2)) ∧ (w.alloc (.cells #[.int .i64 (R 1), .int .i64 (R 2), .int .i64 (R 3), .int .i64 (R 4), .int .i64 (R 5), .int .i64 (R 6), .int .i64 (R 7)] t)).cell? ⟨w.heap.size, 2, none⟩ = some (.int .i64 (R 3)) ∧ (w.alloc (.cells #[.int .i64 (R 1), .int .i64 (R 2), .int .i64 (R 3), .int .i64 (R 4), .int .i64 (R 5), .int .i64 (R 6), .int .i64 (R 7)] t)).cell? ⟨w.heap.size, 3, none⟩ = some (.int .i64 (R 4)) ∧ (w.alloc (.cells #[.int .i64 (R 1), .int .i64 (R 2), .int .i64 (R 3), .int .i64 (R 4), .int .i64 (R 5), .int .i64 (R 6), .int .i64 (R 7)] t)).cell? ⟨w.heap.size, 4, none⟩ = some (.int .i64 (R 5)) := by
  refine ⟨?_, ?_, ?_, ?_⟩ <;> rw [World.cell?_alloc_at (w := w) _ _ _ _ rfl] <;> rfl
set_option maxRecDepth 100000 in
set_option maxHeartbeats 1000000 in
theorem barred_ref (R : Nat → Int) (st who : Int) (w : World) :
    Calls Try.prog 22 #[.agg #[.int .i64 (R 1), .int .i64 (R 2), .int .i64 (R 3), .int .i64 (R 4), .int .i64 (R 5), .int .i64 (R 6), .int .i64 (R 7)], .int .i64 st, .int .i64 who] w fun e w' => e = .returned (.bool (barB R st who)) ∧ Below w.heap.size w w' := by
  by_cases h : st = 2
  · subst h
    have HF : Hid (barB R 2 who = (who == R 2)) := by
      unfold Hid; rw [barB_2, Bool.eq_iff_iff]; simp; exact ⟨fun e => e.symm, fun e => e.symm⟩
    go_enter Try.func22, Try.ntmps22
    go_wp2_with fail
    go_ret
    exact ⟨gret_bool (by rw [HF.out]), gbelow_box _ _⟩
  · have h2B : decide (st = 2) = false := decide_eq_false h
    have h2E : (st == 2) = false := by simpa using h
    have H2 := Lib.hid h
    clear h
    by_cases h : st = 3
    · subst h
      by_cases h1 : R 2 = who
      · have h1B : (who == R 2) = true := by simp [h1]
        have h1D : decide (who = R 2) = true := decide_eq_true h1.symm
        have HF : Hid (barB R 3 who = true) := by unfold Hid; rw [barB_3]; simp [h1]
        go_enter Try.func22, Try.ntmps22
        go_wp2_with fail
        go_ret
        exact ⟨gret_bool (by rw [HF.out]; try simp [h1]), gbelow_box _ _⟩
      · have h1B : (who == R 2) = false := by simp; exact fun e => h1 e.symm
        have h1D : decide (who = R 2) = false := decide_eq_false (fun e => h1 e.symm)
        have HF : Hid (barB R 3 who = (who == R 3)) := by
          unfold Hid; rw [barB_3, Bool.eq_iff_iff]; simp [h1]; exact ⟨fun e => e.symm, fun e => e.symm⟩
        go_enter Try.func22, Try.ntmps22
        go_wp2_with fail
        go_ret
        exact ⟨gret_bool (by rw [HF.out]), gbelow_box _ _⟩
    · have h3B : decide (st = 3) = false := decide_eq_false h
      have h3E : (st == 3) = false := by simpa using h
      have H3 := Lib.hid h
      clear h
      by_cases h : st = 5
      · subst h
        by_cases h1 : R 4 = who
        · have h1B : (who == R 4) = true := by simp [h1]
          have h1D : decide (who = R 4) = true := decide_eq_true h1.symm
          have HF : Hid (barB R 5 who = true) := by unfold Hid; rw [barB_5]; simp [h1]
          go_enter Try.func22, Try.ntmps22
          go_wp2_with fail
          go_ret
          exact ⟨gret_bool (by rw [HF.out]; try simp [h1]), gbelow_box _ _⟩
        · have h1B : (who == R 4) = false := by simp; exact fun e => h1 e.symm
          have h1D : decide (who = R 4) = false := decide_eq_false (fun e => h1 e.symm)
          have HF : Hid (barB R 5 who = (who == R 5)) := by
            unfold Hid; rw [barB_5, Bool.eq_iff_iff]; simp [h1]; exact ⟨fun e => e.symm, fun e => e.symm⟩
          go_enter Try.func22, Try.ntmps22
          go_wp2_with fail
          go_ret
          exact ⟨gret_bool (by rw [HF.out]), gbelow_box _ _⟩
      · have h5B : decide (st = 5) = false := decide_eq_false h
        have h5E : (st == 5) = false := by simpa using h
        have HF := Lib.hid (barB_other (R := R) (who := who) H2.out H3.out h)
        clear h
        go_enter Try.func22, Try.ntmps22
        go_wp2_with fail
        go_ret
        exact ⟨gret_bool HF.out.symm, gbelow_box _ _⟩
set_option maxRecDepth 100000 in
set_option maxHeartbeats 2000000 in
theorem checkRun_ref (R : Nat → Int) (w : World) :
    Calls Try.prog 11 #[.agg #[.int .i64 (R 0), .int .i64 (R 1), .int .i64 (R 2), .int .i64 (R 3), .int .i64 (R 4), .int .i64 (R 5), .int .i64 (R 6), .int .i64 (R 7)]] w fun e w' => e = .returned (.int .i64 (runE R)) ∧ Below w.heap.size w w' := by
  have HB := Lib.hid (gbelow_box w (.cells #[.int .i64 (R 0), .int .i64 (R 1), .int .i64 (R 2), .int .i64 (R 3), .int .i64 (R 4), .int .i64 (R 5), .int .i64 (R 6), .int .i64 (R 7)] 24))
  have HX := Lib.hid (RBox.made w R 24)
  by_cases h0 : R 0 < 0
  · have HE := Lib.hid (runE_kind (R := R) (.inl h0))
    go_enter Try.func11, Try.ntmps11
    go_wp2_with fail
    go_ret
    exact ⟨gret_int HE.out.symm, HB.out⟩
  · have h0B : decide (R 0 < 0) = false := decide_eq_false h0
    by_cases h6 : 6 < R 0
    · have HE := Lib.hid (runE_kind (R := R) (.inr h6))
      go_enter Try.func11, Try.ntmps11
      go_wp2_with fail
      go_ret
      exact ⟨gret_int HE.out.symm, HB.out⟩
    · obtain ⟨s, hs⟩ : ∃ s : Nat, R 0 = (s : Int) := ⟨(R 0).toNat, by omega⟩
      have hs6 : s ≤ 6 := by omega
      have HE := Lib.hid (runE_in hs hs6)
      have HS := Lib.hid hs
      clear h0 h6 h0B
      have h6B : decide (6 < (s : Int)) = false := decide_eq_false (by omega)
      have h6' : ¬ (6 < (s : Int)) := by omega
      go_enter Try.func11, Try.ntmps11
      rw [hs]
      clear hs
      have HB := HB
      have HX := HX
      rw [HS.out] at HB HX
      go_wp2_with fail
      generalize (w.alloc (.cells #[.int .i64 (s : Int), .int .i64 (R 1), .int .i64 (R 2), .int .i64 (R 3), .int .i64 (R 4), .int .i64 (R 5), .int .i64 (R 6), .int .i64 (R 7)] 24)) = w0 at *
      go_loopw [3, 4, 5] (fun sv rv i wr => ∃ k : Nat, k ≤ 7 ∧ i = .int .i64 k ∧ sv = .bool (!allN (zB R s) k) ∧ rv = .bool (!allN (rB R s) k) ∧ allN (pB R s) k = true ∧ Below w0.heap.size w0 wr) (fun _ _ i _ => 7 - (intOf i).toNat)
      case atStart => exact ⟨0, by omega, rfl, rfl, rfl, rfl, Below.refl _ _⟩
      case round =>
        obtain ⟨k, hk, rfl, rfl, rfl, hall, hb⟩ := hrel
        have HA := Lib.hid hall
        have HBr := Lib.hid hb
        have HXr := Lib.hid (HX.out.below hb)
        clear hall hb
        by_cases hlt : k < 7
        · have hlt' : (k : Int) < 7 := by omega
          have hge' : (0 : Int) ≤ (k : Int) := by omega
          obtain ⟨c0, c1, c2, c3, c4, c5, c6, c7⟩ := HXr.out.cells
          rw [HS.out] at c0
          have cx := HXr.out.2 (1 + k) (by omega)
          by_cases hin : 0 < k ∧ k ≤ s
          · obtain ⟨hk0, hks⟩ := hin
            have hk0' : (0 : Int) < (k : Int) := by omega
            have hks' : (k : Int) ≤ (s : Int) := by omega
            have HZ1 : Hid (allN (zB R s) (k + 1) = allN (zB R s) k) := by unfold Hid; rw [allN, zB_in hk0 hks, Bool.and_true]
            have HR1 : Hid (allN (rB R s) (k + 1) = (allN (rB R s) k && !barB R k (R (1 + k)))) := by unfold Hid; rw [allN, rB_in hk0 hks]
            cases hp : perB (R (1 + k))
            · have HF : Hid (runS R s = 3) := runS_range (allN_no (j := k) (by omega) (by rw [pB_in hk0 hks]; exact hp))
              rw [HF.out] at HE
              go_wp2_with (go_at_call 15; refine (isPerson_ref _ _).mono ?_; rintro e w' ⟨rfl, h'⟩; subst w'; rw [hp])
              go_ret
              exact ⟨gret_int HE.out.symm, HB.out.trans (HBr.out.mono HB.out.size)⟩
            · have HF : Hid (allN (pB R s) (k + 1) = true) := by unfold Hid; rw [allN_yes HA.out, pB_in hk0 hks]; exact hp
              generalize allN (zB R s) k = zv at *
              cases hr : allN (rB R s) k
              · rw [hr] at HR1
                go_wp2_with (go_at_call 15; refine (isPerson_ref _ _).mono ?_; rintro e w' ⟨rfl, h'⟩; subst w'; rw [hp])
                go_quiet (fail)
                go_wp2_with fail
                go_roundw
                case rel => exact ⟨k + 1, by omega, by go_num, by rw [HZ1.out], by rw [HR1.out]; rfl, HF.out, gbelow_dN HBr.out _⟩
                case measure => simp [intOf]; omega
              · rw [hr] at HR1
                have HK := Lib.hid (fun w => barred_ref R (k : Int) (R (1 + k)) w)
                generalize barB R (k : Int) (R (1 + k)) = bv at *
                have k0 := cell_regrown c0
                have k1 := cell_regrown c1
                have k2 := cell_regrown c2
                have k3 := cell_regrown c3
                have k4 := cell_regrown c4
                have k5 := cell_regrown c5
                have k6 := cell_regrown c6
                have k7 := cell_regrown c7
                have kx := cell_regrown cx
                go_wp2_with (go_at_call 15; refine (isPerson_ref _ _).mono ?_; rintro e w' ⟨rfl, h'⟩; subst w'; rw [hp])
                refine wp_region_quiet_below (by kernel_rfl) (by kernel_rfl) ?_
                repeat (go_big_quiet_step (exact Calls.regrown_of (HK.out _)))
                refine wpQuiet_nil ?_
                intro _ hw'
                obtain ⟨⟨dq, osq⟩, hw''⟩ := hw'
                subst hw''
                go_wp2_with fail
                go_roundw
                case rel => exact ⟨k + 1, by omega, by go_num, by rw [HZ1.out], by rw [HR1.out]; simp, HF.out, HBr.out.trans ((below_regrown wr dq osq).mono HBr.out.size)⟩
                case measure => simp [intOf]; omega
          · have HF : Hid (allN (pB R s) (k + 1) = true) := by unfold Hid; rw [allN_yes HA.out, pB_out hin]
            have HR1 : Hid (allN (rB R s) (k + 1) = allN (rB R s) k) := by unfold Hid; rw [allN, rB_out hin, Bool.and_true]
            have HZ1 : Hid (allN (zB R s) (k + 1) = (allN (zB R s) k && R (1 + k) == 0)) := by unfold Hid; rw [allN, zB_out hin]
            generalize allN (rB R s) k = rv at *
            generalize allN (zB R s) k = zv at *
            generalize R (1 + k) = z at *
            clear c1 c2 c3 c4 c5 c6 c7
            by_cases hz : z = 0
            · subst hz
              by_cases hk0 : 0 < k
              · have hks : s < k := by omega
                have hk0' : (0 : Int) < (k : Int) := by omega
                have hksB : decide ((k : Int) ≤ (s : Int)) = false := decide_eq_false (by omega)
                have hksN : decide (k ≤ s) = false := decide_eq_false (by omega)
                go_wp2_with fail
                go_roundw
                case rel => exact ⟨k + 1, by omega, by go_num, by rw [HZ1.out]; simp, by rw [HR1.out], HF.out, HBr.out⟩
                case measure => simp [intOf]; omega
              · have hk0B : decide ((0 : Int) < (k : Int)) = false := decide_eq_false (by omega)
                have hk0N : decide (0 < k) = false := decide_eq_false (by omega)
                go_wp2_with fail
                go_roundw
                case rel => exact ⟨k + 1, by omega, by go_num, by rw [HZ1.out]; simp, by rw [HR1.out], HF.out, HBr.out⟩
                case measure => simp [intOf]; omega
            · have hzB : (z != 0) = true := by simpa using hz
              have hzE : (z == 0) = false := by simpa using hz
              have hzD : decide (z = 0) = false := decide_eq_false hz
              by_cases hk0 : 0 < k
              · have hks : s < k := by omega
                have hk0' : (0 : Int) < (k : Int) := by omega
                have hksB : decide ((k : Int) ≤ (s : Int)) = false := decide_eq_false (by omega)
                have hksN : decide (k ≤ s) = false := decide_eq_false (by omega)
                go_wp2_with fail
                go_roundw
                case rel => exact ⟨k + 1, by omega, by go_num, by rw [HZ1.out]; simp [hzE], by rw [HR1.out], HF.out, HBr.out⟩
                case measure => simp [intOf]; omega
              · have hk0B : decide ((0 : Int) < (k : Int)) = false := decide_eq_false (by omega)
                have hk0N : decide (0 < k) = false := decide_eq_false (by omega)
                go_wp2_with fail
                go_roundw
                case rel => exact ⟨k + 1, by omega, by go_num, by rw [HZ1.out]; simp [hzE], by rw [HR1.out], HF.out, HBr.out⟩
                case measure => simp [intOf]; omega
        · obtain rfl : k = 7 := by omega
          have HBE := Lib.hid (HB.out.trans (HBr.out.mono HB.out.size))
          cases hz : allN (zB R s) 7
          · have HF := Lib.hid (runS_state HA.out hz)
            rw [HF.out] at HE
            go_wp2_with fail
            go_ret
            exact ⟨gret_int HE.out.symm, HBE.out⟩
          · cases hr : allN (rB R s) 7
            · have HF := Lib.hid (runS_right HA.out hz hr)
              rw [HF.out] at HE
              go_wp2_with fail
              go_ret
              exact ⟨gret_int HE.out.symm, HBE.out⟩
            · have HF := Lib.hid (runS_ok HA.out hz hr)
              rw [HF.out] at HE
              go_wp2_with fail
              go_ret
              exact ⟨gret_int HE.out.symm, HBE.out⟩
end Go.Proofs.Ytfdhjdbefikjmaa
