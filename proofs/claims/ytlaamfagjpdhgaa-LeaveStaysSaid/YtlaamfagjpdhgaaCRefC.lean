/-
  Promise B1: walks of the reference's Civil and DayOf.
-/
import Derived.Test.YtlaamfagjpdhgaaCRef
namespace Go.Proofs.Ytlaamfagjpdhgaa
open Go.RowKit Go.Maps

set_option maxRecDepth 100000 in
set_option maxHeartbeats 4000000 in
theorem civil_ref (n : Int) (w : World) (h : dayB n = true) : Calls Try.prog 35 #[.int .i64 n] w fun e w' => ∃ (k m : Nat) (d : Int), e = .returned (.agg #[.int .i64 (2000 + k), .int .i64 m, .int .i64 d]) ∧ IsCivil n k m d ∧ Below w.heap.size w w' := by
  obtain ⟨h0, h1⟩ : 0 ≤ n ∧ n ≤ 73048 := of_decide_eq_true h
  clear h
  go_enter Try.func35, Try.ntmps35
  go_wp2_with fail
  go_loop [0, 3] (fun dv yv => ∃ k : Nat, k < 200 ∧ yv = .int .i64 (2000 + k) ∧ dv = .int .i64 (n - ys k) ∧ 0 ≤ n - ys k) (fun _ yv => 2200 - (intOf yv).toNat)
  case atStart => exact ⟨0, by omega, rfl, by simp [ys], by simp [ys]; omega⟩
  case round =>
    obtain ⟨k, hk, rfl, rfl, hr⟩ := hrel
    have b1 := ys_bd (k := k) (by omega)
    obtain ⟨b10, b11⟩ := b1
    rcases yd_cases (2000 + (k : Int)) with ⟨hl, hyd⟩ | ⟨hl, hyd⟩
    · have HY0 : Hid (yd (2000 + (k : Int)) = 366) := hyd
      by_cases hlt : n - ys k < 366
      · have HY : Hid (n - ys k < yd (2000 + (k : Int))) := by unfold Hid; rw [hyd]; exact hlt
        clear hyd
        go_wp2_with (go_at_call 67; refine (leap_ref _ _ (by omega)).mono ?_; rintro e w' ⟨rfl, rfl⟩)
        have HE : Hid (n - ys k < cumN (2000 + k) 12) := by
          unfold Hid; rw [cumN_12]; have := HY.out; omega
        go_loopw [0, 5] (fun re mo wr => ∃ m : Nat, m < 12 ∧ mo = .int .i64 ((m : Int) + 1) ∧ re = .int .i64 (n - ys k - cumN (2000 + k) m) ∧ 0 ≤ n - ys k - cumN (2000 + k) m ∧ Below (w.heap.size + 1) (w.alloc (.cells #[.int .i64 0, .int .i64 0, .int .i64 0] 59)) wr) (fun _ mo _ => 13 - (intOf mo).toNat)
        case atStart => exact ⟨0, by omega, rfl, by simp [cumN], by simp [cumN]; omega, Below.refl _ _⟩
        case round =>
          obtain ⟨m, hm, rfl, rfl, hr0, hb⟩ := hrel
          have HB := Lib.hid hb
          clear hb
          have cb := cumN_bd (2000 + (k : Int)) m
          have mb := md_bd (2000 + (k : Int)) ((m : Int) + 1)
          have ES : Hid (cumN (2000 + (k : Int)) (m + 1) = cumN (2000 + (k : Int)) m + md (2000 + (k : Int)) ((m : Int) + 1)) := rfl
          by_cases hge : md (2000 + (k : Int)) ((m : Int) + 1) ≤ n - ys k - cumN (2000 + (k : Int)) m
          · have hm2 : m + 1 < 12 := by
              by_cases e : m + 1 < 12
              · exact e
              · have : m = 11 := by omega
                subst this
                have h1 := HE.out
                have h2 := ES.out
                rw [h2] at h1
                omega
            go_wp2_with fail
            refine (monthDays_ref _ _ _ (by omega) (by omega) (by omega)).mono ?_
            rintro e w2 ⟨rfl, hbm⟩
            have HB2 := Lib.hid (HB.out.trans (hbm.mono (by simpa using HB.out.size)))
            clear hbm
            go_wp2_with fail
            refine (monthDays_ref _ _ _ (by omega) (by omega) (by omega)).mono ?_
            rintro e w3 ⟨rfl, hbm⟩
            have HB3 := Lib.hid (HB2.out.trans (hbm.mono (by simpa using HB2.out.size)))
            clear hbm
            go_wp2_with fail
            go_roundw
            case rel => exact ⟨m + 1, hm2, by go_num, by rw [ES.out]; go_num, by rw [ES.out]; omega, HB3.out⟩
            case measure => simp [intOf]; omega
          · have hgeB : decide (md (2000 + (k : Int)) ((m : Int) + 1) ≤ n - ys k - cumN (2000 + (k : Int)) m) = false := decide_eq_false hge
            have HC : Hid (IsCivil n k (m + 1) (n - ys k - cumN (2000 + (k : Int)) m + 1)) := ⟨hk, by omega, by omega, by omega, by rw [show ((m + 1 : Nat) : Int) = (m : Int) + 1 from by omega]; omega, by rw [Nat.add_sub_cancel]; omega⟩
            go_wp2_with fail
            refine (monthDays_ref _ _ _ (by omega) (by omega) (by omega)).mono ?_
            rintro e w2 ⟨rfl, hbm⟩
            have HB2 := Lib.hid (HB.out.trans (hbm.mono (by simpa using HB.out.size)))
            clear hbm
            have HR : Hid (∀ j, j < 3 → (w2.cell? ⟨w.heap.size, j, none⟩ = some (.int .i64 0) ∧ w2.frozen? ⟨w.heap.size, j, none⟩ = false)) := fun j hj => by
              have hB := HB2.out
              rw [hB.cell (p := ⟨w.heap.size, j, none⟩) (by simp), hB.frozen (p := ⟨w.heap.size, j, none⟩) (by simp)]
              match j, hj with
              | 0, _ => simp
              | 1, _ => simp
              | 2, _ => simp
            obtain ⟨r00, r01⟩ := HR.out 0 (by omega)
            obtain ⟨r10, r11⟩ := HR.out 1 (by omega)
            obtain ⟨r20, r21⟩ := HR.out 2 (by omega)
            go_wp2_with fail
            refine bodyPost_ret (v := .agg #[.int .i64 (2000 + k), .int .i64 ((m : Int) + 1), .int .i64 (n - ys k - cumN (2000 + (k : Int)) m + 1)]) (by simp [results, Try.results35, go_sem, r00, r10, r20] <;> rfl) rfl ⟨k, m + 1, _, rfl, HC.out, ?_⟩
            exact (((((Below.refl w.heap.size w).alloc (Nat.le_refl _) _).trans (HB2.out.mono (Nat.le_succ _))).setCell (p := ⟨w.heap.size, 0, none⟩) (Nat.le_refl _) _).setCell (p := ⟨w.heap.size, 1, none⟩) (Nat.le_refl _) _).setCell (p := ⟨w.heap.size, 2, none⟩) (Nat.le_refl _) _
      · have hltB : decide (n - ys k < 366) = false := decide_eq_false hlt
        have ES : Hid (ys (k + 1) = ys k + 366) := by unfold Hid; rw [ys, hyd]
        have hk2 : k + 1 < 200 := by
          by_cases e : k + 1 < 200
          · exact e
          · have e2 : k + 1 = 200 := by omega
            have := ES.out
            rw [e2, ys_200] at this
            omega
        clear hyd
        go_wp2_with (go_at_call 67; refine (leap_ref _ _ (by omega)).mono ?_; rintro e w' ⟨rfl, rfl⟩)
        go_round
        case rel => exact ⟨k + 1, hk2, by go_num, by rw [ES.out]; go_num, by rw [ES.out]; omega⟩
        case measure => simp [intOf]; omega
    · have HY0 : Hid (yd (2000 + (k : Int)) = 365) := hyd
      by_cases hlt : n - ys k < 365
      · have HY : Hid (n - ys k < yd (2000 + (k : Int))) := by unfold Hid; rw [hyd]; exact hlt
        clear hyd
        go_wp2_with (go_at_call 67; refine (leap_ref _ _ (by omega)).mono ?_; rintro e w' ⟨rfl, rfl⟩)
        have HE : Hid (n - ys k < cumN (2000 + k) 12) := by
          unfold Hid; rw [cumN_12]; have := HY.out; omega
        go_loopw [0, 5] (fun re mo wr => ∃ m : Nat, m < 12 ∧ mo = .int .i64 ((m : Int) + 1) ∧ re = .int .i64 (n - ys k - cumN (2000 + k) m) ∧ 0 ≤ n - ys k - cumN (2000 + k) m ∧ Below (w.heap.size + 1) (w.alloc (.cells #[.int .i64 0, .int .i64 0, .int .i64 0] 59)) wr) (fun _ mo _ => 13 - (intOf mo).toNat)
        case atStart => exact ⟨0, by omega, rfl, by simp [cumN], by simp [cumN]; omega, Below.refl _ _⟩
        case round =>
          obtain ⟨m, hm, rfl, rfl, hr0, hb⟩ := hrel
          have HB := Lib.hid hb
          clear hb
          have cb := cumN_bd (2000 + (k : Int)) m
          have mb := md_bd (2000 + (k : Int)) ((m : Int) + 1)
          have ES : Hid (cumN (2000 + (k : Int)) (m + 1) = cumN (2000 + (k : Int)) m + md (2000 + (k : Int)) ((m : Int) + 1)) := rfl
          by_cases hge : md (2000 + (k : Int)) ((m : Int) + 1) ≤ n - ys k - cumN (2000 + (k : Int)) m
          · have hm2 : m + 1 < 12 := by
              by_cases e : m + 1 < 12
              · exact e
              · have : m = 11 := by omega
                subst this
                have h1 := HE.out
                have h2 := ES.out
                rw [h2] at h1
                omega
            go_wp2_with fail
            refine (monthDays_ref _ _ _ (by omega) (by omega) (by omega)).mono ?_
            rintro e w2 ⟨rfl, hbm⟩
            have HB2 := Lib.hid (HB.out.trans (hbm.mono (by simpa using HB.out.size)))
            clear hbm
            go_wp2_with fail
            refine (monthDays_ref _ _ _ (by omega) (by omega) (by omega)).mono ?_
            rintro e w3 ⟨rfl, hbm⟩
            have HB3 := Lib.hid (HB2.out.trans (hbm.mono (by simpa using HB2.out.size)))
            clear hbm
            go_wp2_with fail
            go_roundw
            case rel => exact ⟨m + 1, hm2, by go_num, by rw [ES.out]; go_num, by rw [ES.out]; omega, HB3.out⟩
            case measure => simp [intOf]; omega
          · have hgeB : decide (md (2000 + (k : Int)) ((m : Int) + 1) ≤ n - ys k - cumN (2000 + (k : Int)) m) = false := decide_eq_false hge
            have HC : Hid (IsCivil n k (m + 1) (n - ys k - cumN (2000 + (k : Int)) m + 1)) := ⟨hk, by omega, by omega, by omega, by rw [show ((m + 1 : Nat) : Int) = (m : Int) + 1 from by omega]; omega, by rw [Nat.add_sub_cancel]; omega⟩
            go_wp2_with fail
            refine (monthDays_ref _ _ _ (by omega) (by omega) (by omega)).mono ?_
            rintro e w2 ⟨rfl, hbm⟩
            have HB2 := Lib.hid (HB.out.trans (hbm.mono (by simpa using HB.out.size)))
            clear hbm
            have HR : Hid (∀ j, j < 3 → (w2.cell? ⟨w.heap.size, j, none⟩ = some (.int .i64 0) ∧ w2.frozen? ⟨w.heap.size, j, none⟩ = false)) := fun j hj => by
              have hB := HB2.out
              rw [hB.cell (p := ⟨w.heap.size, j, none⟩) (by simp), hB.frozen (p := ⟨w.heap.size, j, none⟩) (by simp)]
              match j, hj with
              | 0, _ => simp
              | 1, _ => simp
              | 2, _ => simp
            obtain ⟨r00, r01⟩ := HR.out 0 (by omega)
            obtain ⟨r10, r11⟩ := HR.out 1 (by omega)
            obtain ⟨r20, r21⟩ := HR.out 2 (by omega)
            go_wp2_with fail
            refine bodyPost_ret (v := .agg #[.int .i64 (2000 + k), .int .i64 ((m : Int) + 1), .int .i64 (n - ys k - cumN (2000 + (k : Int)) m + 1)]) (by simp [results, Try.results35, go_sem, r00, r10, r20] <;> rfl) rfl ⟨k, m + 1, _, rfl, HC.out, ?_⟩
            exact (((((Below.refl w.heap.size w).alloc (Nat.le_refl _) _).trans (HB2.out.mono (Nat.le_succ _))).setCell (p := ⟨w.heap.size, 0, none⟩) (Nat.le_refl _) _).setCell (p := ⟨w.heap.size, 1, none⟩) (Nat.le_refl _) _).setCell (p := ⟨w.heap.size, 2, none⟩) (Nat.le_refl _) _
      · have hltB : decide (n - ys k < 365) = false := decide_eq_false hlt
        have ES : Hid (ys (k + 1) = ys k + 365) := by unfold Hid; rw [ys, hyd]
        have hk2 : k + 1 < 200 := by
          by_cases e : k + 1 < 200
          · exact e
          · have e2 : k + 1 = 200 := by omega
            have := ES.out
            rw [e2, ys_200] at this
            omega
        clear hyd
        go_wp2_with (go_at_call 67; refine (leap_ref _ _ (by omega)).mono ?_; rintro e w' ⟨rfl, rfl⟩)
        go_round
        case rel => exact ⟨k + 1, hk2, by go_num, by rw [ES.out]; go_num, by rw [ES.out]; omega⟩
        case measure => simp [intOf]; omega

theorem box_cells {w w2 : World} {y m d : Int} (h : Below (w.heap.size + 1) (w.alloc (.cells #[.int .i64 y, .int .i64 m, .int .i64 d] 59)) w2) :
    w2.cell? ⟨w.heap.size, 0, none⟩ = some (.int .i64 y) ∧ w2.cell? ⟨w.heap.size, 1, none⟩ = some (.int .i64 m) ∧ w2.cell? ⟨w.heap.size, 2, none⟩ = some (.int .i64 d) := by
  rw [h.cell (p := ⟨w.heap.size, 0, none⟩) (by simp), h.cell (p := ⟨w.heap.size, 1, none⟩) (by simp), h.cell (p := ⟨w.heap.size, 2, none⟩) (by simp)]
  refine ⟨?_, ?_, ?_⟩ <;> simp

end Go.Proofs.Ytlaamfagjpdhgaa
