/-
  Promise O1: the walks of Check, and of the reference's Barred and CheckRun: each answers runE.
-/
import Derived.Test.YtfdhjdbefikjmaaGBase
import Derived.Lib.QuietBelow
import Derived.Laws.Rows
namespace Go.Proofs.Ytfdhjdbefikjmaa
open Go.RowKit

def allN (f : Nat → Bool) : Nat → Bool
  | 0 => true
  | j + 1 => allN f j && f j
theorem allN_yes {f : Nat → Bool} {j : Nat} (h : allN f j = true) : allN f (j + 1) = f j := by simp [allN, h]
theorem allN_no {f : Nat → Bool} {m j : Nat} (hj : j < m) (he : f j = false) : allN f m = false := by
  induction m with
  | zero => omega
  | succ q ih =>
    by_cases e : j = q
    · subst e; simp [allN, he]
    · simp [allN, ih (by omega)]
theorem allN_at {f : Nat → Bool} {m j : Nat} (h : allN f m = true) (hj : j < m) : f j = true := by
  cases e : f j
  · rw [allN_no hj e] at h; cases h
  · rfl
theorem allN_more {f : Nat → Bool} {m k : Nat} (hm : m ≤ k) (h : ∀ j, m ≤ j → j < k → f j = true) : allN f k = allN f m := by
  induction k with
  | zero => obtain rfl : m = 0 := by omega
            rfl
  | succ q ih =>
    by_cases e : m = q + 1
    · subst e; rfl
    · rw [allN, ih (by omega) (fun j h1 h2 => h j h1 (by omega)), h q (by omega) (by omega), Bool.and_true]
/-- Of the state i (of a run in the state s): is who brought it there a person; is nobody told where nobody may be; may that one have brought it there? -/
def pB (R : Nat → Int) (s i : Nat) : Bool := if 0 < i ∧ i ≤ s then perB (R (1 + i)) else true
def zB (R : Nat → Int) (s i : Nat) : Bool := if 0 < i ∧ i ≤ s then true else R (1 + i) == 0
def rB (R : Nat → Int) (s i : Nat) : Bool := if 0 < i ∧ i ≤ s then !barB R i (R (1 + i)) else true
theorem pB_in {R : Nat → Int} {s i : Nat} (h0 : 0 < i) (h : i ≤ s) : pB R s i = perB (R (1 + i)) := if_pos ⟨h0, h⟩
theorem zB_in {R : Nat → Int} {s i : Nat} (h0 : 0 < i) (h : i ≤ s) : zB R s i = true := if_pos ⟨h0, h⟩
theorem rB_in {R : Nat → Int} {s i : Nat} (h0 : 0 < i) (h : i ≤ s) : rB R s i = !barB R i (R (1 + i)) := if_pos ⟨h0, h⟩
theorem pB_out {R : Nat → Int} {s i : Nat} (h : ¬ (0 < i ∧ i ≤ s)) : pB R s i = true := if_neg h
theorem zB_out {R : Nat → Int} {s i : Nat} (h : ¬ (0 < i ∧ i ≤ s)) : zB R s i = (R (1 + i) == 0) := if_neg h
theorem rB_out {R : Nat → Int} {s i : Nat} (h : ¬ (0 < i ∧ i ≤ s)) : rB R s i = true := if_neg h
/-- What is wrong with a run in the state s. -/
def runS (R : Nat → Int) (s : Nat) : Int := if allN (pB R s) 7 = false then 3 else if allN (zB R s) 7 = false then 4 else if allN (rB R s) 7 = false then 9 else 0
def runE (R : Nat → Int) : Int := if R 0 < 0 ∨ 6 < R 0 then 7 else runS R (R 0).toNat
theorem runE_kind {R : Nat → Int} (h : R 0 < 0 ∨ 6 < R 0) : runE R = 7 := if_pos h
theorem runE_in {R : Nat → Int} {s : Nat} (h : R 0 = s) (hs : s ≤ 6) : runE R = runS R s := by unfold runE; rw [if_neg (by omega), h]; rfl
theorem runS_range {R : Nat → Int} {s : Nat} (h : allN (pB R s) 7 = false) : runS R s = 3 := if_pos h
theorem runS_state {R : Nat → Int} {s : Nat} (h : allN (pB R s) 7 = true) (h2 : allN (zB R s) 7 = false) : runS R s = 4 := by unfold runS; rw [h, h2]; rfl
theorem runS_right {R : Nat → Int} {s : Nat} (h : allN (pB R s) 7 = true) (h2 : allN (zB R s) 7 = true) (h3 : allN (rB R s) 7 = false) : runS R s = 9 := by unfold runS; rw [h, h2, h3]; rfl
theorem runS_ok {R : Nat → Int} {s : Nat} (h : allN (pB R s) 7 = true) (h2 : allN (zB R s) 7 = true) (h3 : allN (rB R s) 7 = true) : runS R s = 0 := by unfold runS; rw [h, h2, h3]; rfl
theorem runS_zero {R : Nat → Int} {s : Nat} (h : runS R s = 0) : allN (pB R s) 7 = true ∧ allN (zB R s) 7 = true ∧ allN (rB R s) 7 = true := by
  cases h1 : allN (pB R s) 7
  · rw [runS_range h1] at h; omega
  · cases h2 : allN (zB R s) 7
    · rw [runS_state h1 h2] at h; omega
    · cases h3 : allN (rB R s) 7
      · rw [runS_right h1 h2 h3] at h; omega
      · exact ⟨rfl, rfl, rfl⟩
theorem slice_who (w : World) (b s : Nat) (h : s ≤ 6) : (Instr.sliceAt 22 (.pointer (some ⟨b, 1, none⟩)) (some (.int .i64 1)) (some (.int .i64 ((s : Int) + 1))) none).run Try.prog w = .ok (.slice (some ⟨b, 2, none⟩) s 6) w := by
  have hl : Try.prog.arrayLen 22 = 7 := by kernel_rfl
  have ht : Try.prog.underlying 22 = some (.array (Try.prog.arrayLen 22) (Try.prog.elem 22)) := by kernel_rfl
  have hr := run_sliceAt_array_lh (P := Try.prog) w 22 ⟨b, 1, none⟩ ht .i64 .i64 1 ((s : Int) + 1) (by omega) (by omega) (by rw [hl]; omega)
  have hz : (sizeOf (Try.prog.elem 22)).run Try.prog w = .ok 1 w := by kernel_rfl
  rw [hr, hz, Result.andThen_ok, hl]
  have e1 : ((s : Int) + 1).toNat = s + 1 := by omega
  rw [e1]
  simp [slicedAt, Addr.add]
theorem index_who0 (w : World) (R : Nat → Int) : (Instr.index 22 (.agg #[.int .i64 (R 1), .int .i64 (R 2), .int .i64 (R 3), .int .i64 (R 4), .int .i64 (R 5), .int .i64 (R 6), .int .i64 (R 7)]) (.int .i64 ((0 : Nat) : Int))).run Try.prog w = .ok (.int .i64 (R (1 + 0))) w := by kernel_rfl
theorem index_who1 (w : World) (R : Nat → Int) : (Instr.index 22 (.agg #[.int .i64 (R 1), .int .i64 (R 2), .int .i64 (R 3), .int .i64 (R 4), .int .i64 (R 5), .int .i64 (R 6), .int .i64 (R 7)]) (.int .i64 ((1 : Nat) : Int))).run Try.prog w = .ok (.int .i64 (R (1 + 1))) w := by kernel_rfl
theorem index_who2 (w : World) (R : Nat → Int) : (Instr.index 22 (.agg #[.int .i64 (R 1), .int .i64 (R 2), .int .i64 (R 3), .int .i64 (R 4), .int .i64 (R 5), .int .i64 (R 6), .int .i64 (R 7)]) (.int .i64 ((2 : Nat) : Int))).run Try.prog w = .ok (.int .i64 (R (1 + 2))) w := by kernel_rfl
theorem index_who3 (w : World) (R : Nat → Int) : (Instr.index 22 (.agg #[.int .i64 (R 1), .int .i64 (R 2), .int .i64 (R 3), .int .i64 (R 4), .int .i64 (R 5), .int .i64 (R 6), .int .i64 (R 7)]) (.int .i64 ((3 : Nat) : Int))).run Try.prog w = .ok (.int .i64 (R (1 + 3))) w := by kernel_rfl
theorem index_who4 (w : World) (R : Nat → Int) : (Instr.index 22 (.agg #[.int .i64 (R 1), .int .i64 (R 2), .int .i64 (R 3), .int .i64 (R 4), .int .i64 (R 5), .int .i64 (R 6), .int .i64 (R 7)]) (.int .i64 ((4 : Nat) : Int))).run Try.prog w = .ok (.int .i64 (R (1 + 4))) w := by kernel_rfl
theorem index_who5 (w : World) (R : Nat → Int) : (Instr.index 22 (.agg #[.int .i64 (R 1), .int .i64 (R 2), .int .i64 (R 3), .int .i64 (R 4), .int .i64 (R 5), .int .i64 (R 6), .int .i64 (R 7)]) (.int .i64 ((5 : Nat) : Int))).run Try.prog w = .ok (.int .i64 (R (1 + 5))) w := by kernel_rfl
theorem index_who6 (w : World) (R : Nat → Int) : (Instr.index 22 (.agg #[.int .i64 (R 1), .int .i64 (R 2), .int .i64 (R 3), .int .i64 (R 4), .int .i64 (R 5), .int .i64 (R 6), .int .i64 (R 7)]) (.int .i64 ((6 : Nat) : Int))).run Try.prog w = .ok (.int .i64 (R (1 + 6))) w := by kernel_rfl
theorem index_who (w : World) (R : Nat → Int) {k : Nat} (h : k < 7) : (Instr.index 22 (.agg #[.int .i64 (R 1), .int .i64 (R 2), .int .i64 (R 3), .int .i64 (R 4), .int .i64 (R 5), .int .i64 (R 6), .int .i64 (R 7)]) (.int .i64 (k : Int))).run Try.prog w = .ok (.int .i64 (R (1 + k))) w := by
  match k, h with
  | 0, _ => exact index_who0 w R
  | 1, _ => exact index_who1 w R
  | 2, _ => exact index_who2 w R
  | 3, _ => exact index_who3 w R
  | 4, _ => exact index_who4 w R
  | 5, _ => exact index_who5 w R
  | 6, _ => exact index_who6 w R
set_option maxRecDepth 100000 in
set_option maxHeartbeats 2000000 in
theorem Check_any (R : Nat → Int) (w : World) (hwf : WfR R) :
    Calls Try.prog 10 #[.agg #[.int .i64 (R 0), .int .i64 (R 1), .int .i64 (R 2), .int .i64 (R 3), .int .i64 (R 4), .int .i64 (R 5), .int .i64 (R 6), .int .i64 (R 7)]] w fun e w' => e = .returned (.int .i64 (runE R)) ∧ Below w.heap.size w w' := by
  have HWF := Lib.hid hwf
  have HB := Lib.hid (gbelow_box w (.cells #[.int .i64 (R 0), .int .i64 (R 1), .int .i64 (R 2), .int .i64 (R 3), .int .i64 (R 4), .int .i64 (R 5), .int .i64 (R 6), .int .i64 (R 7)] 24))
  have HX := Lib.hid (RBox.made w R 24)
  clear hwf
  by_cases h0 : R 0 < 0
  · have HE := Lib.hid (runE_kind (R := R) (.inl h0))
    go_enter Try.func10, Try.ntmps10
    go_wp2_with fail
    go_ret
    exact ⟨gret_int HE.out.symm, HB.out⟩
  · have h0B : decide (R 0 < 0) = false := decide_eq_false h0
    by_cases h6 : 6 < R 0
    · have HE := Lib.hid (runE_kind (R := R) (.inr h6))
      go_enter Try.func10, Try.ntmps10
      go_wp2_with fail
      go_ret
      exact ⟨gret_int HE.out.symm, HB.out⟩
    · obtain ⟨s, hs⟩ : ∃ s : Nat, R 0 = (s : Int) := ⟨(R 0).toNat, by omega⟩
      have hs6 : s ≤ 6 := by omega
      have HE := Lib.hid (runE_in hs hs6)
      have HS := Lib.hid hs
      clear h0 h6 h0B
      have h6B : decide (6 < (s : Int)) = false := decide_eq_false (by omega)
      have h6' : ¬ (6 < (s : Int)) := by omega
      go_enter Try.func10, Try.ntmps10
      rw [hs]
      clear hs
      have hsl := slice_who (w.alloc (.cells #[.int .i64 (s : Int), .int .i64 (R 1), .int .i64 (R 2), .int .i64 (R 3), .int .i64 (R 4), .int .i64 (R 5), .int .i64 (R 6), .int .i64 (R 7)] 24)) w.heap.size s hs6
      have HB := HB
      have HX := HX
      rw [HS.out] at HB HX
      go_wp2_with fail
      clear hsl
      generalize (w.alloc (.cells #[.int .i64 (s : Int), .int .i64 (R 1), .int .i64 (R 2), .int .i64 (R 3), .int .i64 (R 4), .int .i64 (R 5), .int .i64 (R 6), .int .i64 (R 7)] 24)) = w0 at *
      go_loop [22] (fun i => ∃ k : Nat, k ≤ s ∧ i = .int .i64 k ∧ allN (pB R s) (k + 1) = true) (fun i => s - (intOf i).toNat)
      case atStart => exact ⟨0, Nat.zero_le _, rfl, by simp [allN, pB]⟩
      case round =>
        obtain ⟨k, hk, rfl, hall⟩ := hrel
        have HA := Lib.hid hall
        clear hall
        by_cases hlt : k < s
        · have hlt' : (k : Int) < (s : Int) := by omega
          have x1 := HX.out.2 (2 + k) (by omega)
          have e1 : 1 + (k + 1) = 2 + k := by omega
          cases hp : perB (R (2 + k))
          · have HF : Hid (runS R s = 3) := runS_range (allN_no (j := k + 1) (by omega) (by rw [pB_in (by omega) (by omega), e1]; exact hp))
            rw [HF.out] at HE
            clear e1
            go_wp2_with (go_at_call 20; refine (isPerson_any _ _).mono ?_; rintro e w' ⟨rfl, h'⟩; subst w'; rw [hp])
            go_ret
            exact ⟨gret_int HE.out.symm, HB.out⟩
          · have HF : Hid (allN (pB R s) (k + 1 + 1) = true) := by unfold Hid; rw [allN_yes HA.out, pB_in (by omega) (by omega), e1]; exact hp
            clear e1
            go_wp2_with (go_at_call 20; refine (isPerson_any _ _).mono ?_; rintro e w' ⟨rfl, h'⟩; subst w'; rw [hp])
            go_round
            case rel => exact ⟨k + 1, by omega, by go_num, HF.out⟩
            case measure => simp [intOf]; omega
        · obtain rfl : s = k := by omega
          have HP : Hid (allN (pB R s) 7 = true) := by
            unfold Hid
            rw [allN_more (m := s + 1) (by omega) (fun j h1 h2 => pB_out (by omega))]
            exact HA.out
          clear HA hk hlt
          obtain ⟨c0, c1, c2, c3, c4, c5, c6, c7⟩ := HX.out.cells
          go_wp2_with fail
          clear c1 c2 c3 c4 c5 c6 c7
          rw [HS.out] at c0
          go_loop [32] (fun i => ∃ k : Nat, k ≤ 7 ∧ i = .int .i64 k ∧ allN (zB R s) k = true) (fun i => 7 - (intOf i).toNat)
          case atStart => exact ⟨0, by omega, rfl, rfl⟩
          case round =>
            obtain ⟨k, hk, rfl, hall⟩ := hrel
            have HA := Lib.hid hall
            clear hall
            by_cases hlt : k < 7
            · have hlt' : (k : Int) < 7 := by omega
              have hge' : (0 : Int) ≤ (k : Int) := by omega
              have hix := index_who w0 R hlt
              generalize hz : R (1 + k) = z at *
              by_cases h0 : z = 0
              · have HZ : Hid (allN (zB R s) (k + 1) = true) := by
                  unfold Hid
                  rw [allN_yes HA.out]
                  unfold zB
                  split
                  · rfl
                  · rw [hz, h0]; rfl
                subst h0
                clear hz
                go_wp2_with fail
                go_round
                case rel => exact ⟨k + 1, by omega, by go_num, HZ.out⟩
                case measure => simp [intOf]; omega
              · have h0B : (z != 0) = true := by simpa using h0
                have h0D : decide (z = 0) = false := decide_eq_false h0
                by_cases hk0 : k = 0
                · have hkB : ((k : Int) == 0) = true := by simp; omega
                  have hkD : decide ((k : Int) = 0) = true := decide_eq_true (by omega)
                  have hkN : decide (k = 0) = true := decide_eq_true hk0
                  have HF : Hid (runS R s = 4) := runS_state HP.out (allN_no (j := k) (by omega) (by rw [zB_out (by omega), hz]; simpa using h0))
                  rw [HF.out] at HE
                  clear hz hk0
                  go_wp2_with fail
                  go_ret
                  exact ⟨gret_int HE.out.symm, HB.out⟩
                · have hkB : ((k : Int) == 0) = false := by simp; omega
                  have hkD : decide ((k : Int) = 0) = false := decide_eq_false (by omega)
                  have hkN : decide (k = 0) = false := decide_eq_false hk0
                  by_cases hks : s < k
                  · have hks' : (s : Int) < (k : Int) := by omega
                    have HF : Hid (runS R s = 4) := runS_state HP.out (allN_no (j := k) (by omega) (by rw [zB_out (by omega), hz]; simpa using h0))
                    rw [HF.out] at HE
                    clear hz
                    go_wp2_with fail
                    go_ret
                    exact ⟨gret_int HE.out.symm, HB.out⟩
                  · have hksB : decide (s < k) = false := decide_eq_false hks
                    have hksD : decide ((s : Int) < (k : Int)) = false := decide_eq_false (by omega)
                    have HZ : Hid (allN (zB R s) (k + 1) = true) := by
                      unfold Hid
                      rw [allN_yes HA.out, zB_in (by omega) (by omega)]
                    clear hz
                    go_wp2_with fail
                    go_round
                    case rel => exact ⟨k + 1, by omega, by go_num, HZ.out⟩
                    case measure => simp [intOf]; omega
            · obtain rfl : k = 7 := by omega
              have HZ := HA
              clear HA hlt hk
              go_wp2_with fail
              go_loopw [7] (fun i wr => ∃ k : Nat, k ≤ s ∧ i = .int .i64 ((k : Int) + 1) ∧ allN (rB R s) (k + 1) = true ∧ Below w0.heap.size w0 wr) (fun i _ => s + 2 - (intOf i).toNat)
              case atStart => exact ⟨0, by omega, rfl, by simp [allN, rB], Below.refl _ _⟩
              case round =>
                obtain ⟨k, hk, rfl, hall, hb⟩ := hrel
                have HA := Lib.hid hall
                have HBr := Lib.hid hb
                have HXr := Lib.hid (HX.out.below hb)
                clear hall hb
                by_cases hlt : k < s
                · have hlt' : (k : Int) + 1 ≤ (s : Int) := by omega
                  obtain ⟨c0, c1, c2, c3, c4, c5, c6, c7⟩ := HXr.out.cells
                  have cx := HXr.out.2 (1 + (k + 1)) (by omega)
                  have k0 := cell_regrown c0
                  have k1 := cell_regrown c1
                  have k2 := cell_regrown c2
                  have k3 := cell_regrown c3
                  have k4 := cell_regrown c4
                  have k5 := cell_regrown c5
                  have k6 := cell_regrown c6
                  have k7 := cell_regrown c7
                  have kx := cell_regrown cx
                  have hge : (0 : Int) ≤ (k : Int) + 1 := by omega
                  have hl7 : (k : Int) + 1 < 7 := by omega
                  have htn : ((k : Int) + 1).toNat = k + 1 := by omega
                  have HPK : Hid (perB (R (1 + (k + 1))) = true) := by
                    have := allN_at HP.out (j := k + 1) (by omega)
                    rw [pB_in (by omega) (by omega)] at this
                    exact this
                  have HWK : Hid ((Lit.int .i64 (R (1 + (k + 1)))).wf = true) := HWF.out _ (by omega)
                  have HK := Lib.hid (fun w => isBarred_any R ((k : Int) + 1) (R (1 + (k + 1))) w HWF.out HWK.out)
                  rw [HS.out] at k0 c0
                  rw [HS.out] at HK
                  cases hbar : barB R ((k : Int) + 1) (R (1 + (k + 1)))
                  · rw [hbar] at HK
                    have HF : Hid (allN (rB R s) (k + 1 + 1) = true) := by
                      unfold Hid
                      rw [allN_yes HA.out, rB_in (by omega) (by omega)]
                      show (!barB R (((k + 1 : Nat)) : Int) (R (1 + (k + 1)))) = true
                      rw [show (((k + 1 : Nat)) : Int) = (k : Int) + 1 by omega, hbar]
                      rfl
                    clear hbar HPK HWK
                    go_wp2_with fail
                    refine wp_region_quiet_below (by kernel_rfl) (by kernel_rfl) ?_
                    repeat (quiet_step (exact Calls.regrown_of (HK.out _)))
                    refine wpQuiet_nil ?_
                    intro _ hw'
                    obtain ⟨⟨dq, osq⟩, hw''⟩ := hw'
                    subst hw''
                    go_wp2_with fail
                    go_roundw
                    case rel => exact ⟨k + 1, by omega, by go_num, HF.out, HBr.out.trans ((below_regrown wr dq osq).mono HBr.out.size)⟩
                    case measure => simp [intOf]; omega
                  · rw [hbar] at HK
                    have HF : Hid (runS R s = 9) := runS_right HP.out HZ.out (allN_no (j := k + 1) (by omega) (by
                      rw [rB_in (by omega) (by omega)]
                      show (!barB R (((k + 1 : Nat)) : Int) (R (1 + (k + 1)))) = false
                      rw [show (((k + 1 : Nat)) : Int) = (k : Int) + 1 by omega, hbar]
                      rfl))
                    rw [HF.out] at HE
                    clear hbar HPK HWK
                    go_wp2_with fail
                    refine wp_region_quiet_below (by kernel_rfl) (by kernel_rfl) ?_
                    repeat (quiet_step (exact Calls.regrown_of (HK.out _)))
                    refine wpQuiet_nil ?_
                    intro _ hw'
                    obtain ⟨⟨dq, osq⟩, hw''⟩ := hw'
                    subst hw''
                    go_wp2_with fail
                    go_ret
                    exact ⟨gret_int HE.out.symm, HB.out.trans ((HBr.out.trans ((below_regrown wr dq osq).mono HBr.out.size)).mono HB.out.size)⟩
                · obtain rfl : s = k := by omega
                  have hnl : ¬ ((s : Int) + 1 ≤ (s : Int)) := by omega
                  have c0 := HXr.out.2 0 (by omega)
                  rw [HS.out] at c0
                  have HF : Hid (runS R s = 0) := runS_ok HP.out HZ.out (by rw [allN_more (m := s + 1) (by omega) (fun j h1 h2 => rB_out (by omega))]; exact HA.out)
                  rw [HF.out] at HE
                  go_wp2_with fail
                  go_ret
                  exact ⟨gret_int HE.out.symm, HB.out.trans (HBr.out.mono HB.out.size)⟩
end Go.Proofs.Ytfdhjdbefikjmaa
