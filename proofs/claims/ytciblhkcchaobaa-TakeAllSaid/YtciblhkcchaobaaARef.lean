/-
  The reference's CheckClaims, DueOf and Asked: their walks.
-/
import Derived.Test.YtciblhkcchaobaaALeast
namespace Go.Proofs.Ytciblhkcchaobaa
open Go.RowKit

theorem bnot_f {b : Bool} (h : true = !b) : b = false := by cases b <;> first | rfl | cases h
theorem bnot_t {b : Bool} (h : false = !b) : b = true := by cases b <;> first | rfl | cases h
/-- Is it wrong so far? -/
def badTo (b : Bool) (l : List Cl) : Nat → Bool
  | 0 => b
  | j + 1 => badTo b l j || !okB (cnth l j)
theorem badTo_all (b : Bool) (l : List Cl) : ∀ j, j ≤ l.length → (badTo b l j = false ↔ b = false ∧ ∀ i, i < j → okB (cnth l i) = true)
  | 0, _ => ⟨fun h => ⟨h, fun i hi => absurd hi (by omega)⟩, fun h => h.1⟩
  | j + 1, hj => by
    rw [badTo, Bool.or_eq_false_iff, badTo_all b l j (by omega), Bool.not_eq_false']
    constructor
    · rintro ⟨⟨h1, h2⟩, h3⟩
      refine ⟨h1, fun i hi => ?_⟩
      by_cases e : i = j
      · subst e; exact h3
      · exact h2 i (by omega)
    · rintro ⟨h1, h2⟩
      exact ⟨⟨h1, fun i hi => h2 i (by omega)⟩, h2 j (by omega)⟩
theorem badTo_end (g k : Int) (l : List Cl) : badTo (!(cmB g && cmB k)) l l.length = !(cmB g && cmB k && (clsB l && capsB l)) := by
  rw [← oksB]
  cases h : badTo (!(cmB g && cmB k)) l l.length
  · obtain ⟨h1, h2⟩ := (badTo_all _ l l.length (Nat.le_refl _)).1 h
    have h3 : l.all okB = true := all_of_cnth h2
    rw [Bool.not_eq_false'] at h1
    rw [h1, h3]
    rfl
  · cases h1 : (cmB g && cmB k)
    · rfl
    · cases h2 : l.all okB
      · rfl
      · have := (badTo_all (!(cmB g && cmB k)) l l.length (Nat.le_refl _)).2 ⟨by rw [h1]; rfl, fun i hi => all_cnth h2 hi⟩
        rw [h] at this
        cases this
set_option maxRecDepth 100000 in
set_option maxHeartbeats 4000000 in
theorem checkClaims_ref (g k : Int) (a : Option Addr) (n cap : Nat) (l : List Cl) (w : World) (hc : CameC w a l) (hn : l.length = n) (hm : n ≤ maxLen) :
    Calls Try.prog 12 #[.int .i64 g, .int .i64 k, .slice a n cap] w fun e w' => e = .returned (.int .i64 (claimE g k l)) ∧ w' = w := by
  have HO := Lib.hid (fun h0 => hc.open hn h0)
  have HN := Lib.hid hn
  have hm' : n ≤ 9223372036854775807 := by unfold maxLen at hm; omega
  clear hm hc hn
  by_cases h30 : 30 < n
  · have HE := Lib.hid (claimE_many (g := g) (k := k) (l := l) (by rw [HN.out]; exact h30))
    have h30' : (30 : Int) < (n : Int) := by omega
    go_enter Try.func12, Try.ntmps12
    go_wp2_with fail
    go_ret
    exact ⟨uret_int HE.out.symm, rfl⟩
  · have h30' : ¬ ((30 : Int) < (n : Int)) := by omega
    have HB0 : Hid (badTo (!(cmB g && cmB k)) l 0 = decide (g < 0 ∨ 1000000000000 < g ∨ k < 0 ∨ 1000000000000 < k)) := by
      unfold Hid badTo cmB
      by_cases h : g < 0 ∨ 1000000000000 < g ∨ k < 0 ∨ 1000000000000 < k
      · rw [decide_eq_true h, ← Bool.decide_and, Bool.not_eq_true', decide_eq_false_iff_not]
        omega
      · rw [decide_eq_false h, ← Bool.decide_and, Bool.not_eq_false', decide_eq_true_iff]
        omega
    by_cases g1 : g < 0
    · rw [decide_eq_true (Or.inl g1)] at HB0
      go_enter Try.func12, Try.ntmps12
      go_wp2_with fail
      go_loop [7, 8] (fun bv iv => ∃ j : Nat, j ≤ n ∧ iv = .int .i64 j ∧ bv = .bool (badTo (!(cmB g && cmB k)) l j)) (fun _ iv => n - (intOf iv).toNat)
      case atStart => exact ⟨0, Nat.zero_le _, rfl, uvb (by rw [HB0.out]; try rfl)⟩
      case round =>
        clear HB0
        obtain ⟨j, hj, rfl, rfl⟩ := hrel
        have HS : Hid (badTo (!(cmB g && cmB k)) l (j + 1) = (badTo (!(cmB g && cmB k)) l j || !okB (cnth l j))) := rfl
        by_cases hlt : j < n
        · have hlt' : (j : Int) < (n : Int) := by omega
          obtain ⟨b, off, rfl, hcell⟩ := HO.out (by omega)
          obtain ⟨x0, x1, x2, x3⟩ := hcell w (Below.refl _ _) j hlt
          clear hcell
          by_cases hbt : badTo (!(cmB g && cmB k)) l j = true
          · rw [hbt] at HS ⊢
            have HOK : Hid (okB (cnth l j) = okB (cnth l j)) := rfl
            go_wp2_with fail
            go_round
            case rel => exact ⟨j + 1, by omega, by go_num, uvb (by rw [HS.out]; try rfl)⟩
            case measure => simp [intOf]; omega
          · have hbf : badTo (!(cmB g && cmB k)) l j = false := by simpa using hbt
            clear hbt
            rw [hbf] at HS ⊢
            have HOKV : Hid (okB (cnth l j) = decide (0 ≤ (cnth l j).want ∧ (cnth l j).want ≤ 1000000000000 ∧ 0 ≤ (cnth l j).owed ∧ (cnth l j).owed ≤ 1000000000000 ∧ 0 ≤ (cnth l j).year ∧ (cnth l j).year ≤ 1000000000000 ∧ (cnth l j).cap ≤ 1000000000000)) := by
              unfold Hid okB clB capB cmB
              rw [← Bool.decide_and, ← Bool.decide_and, ← Bool.decide_and]
              congr 1
              simp only [and_assoc]
            generalize okB (cnth l j) = okv at *
            generalize (cnth l j).want = c1 at *
            generalize (cnth l j).owed = c2 at *
            generalize (cnth l j).year = c3 at *
            generalize (cnth l j).cap = c4 at *
            by_cases t0 : c1 < 0
            · have HOK : Hid (okv = false) := by unfold Hid; rw [HOKV.out]; exact decide_eq_false (by omega)
              go_wp2_with fail
              go_round
              case rel => exact ⟨j + 1, by omega, by go_num, uvb (by rw [HS.out, HOK.out]; try rfl)⟩
              case measure => simp [intOf]; omega
            · have d0 : decide (c1 < 0) = false := decide_eq_false t0
              by_cases t1 : 1000000000000 < c1
              · have HOK : Hid (okv = false) := by unfold Hid; rw [HOKV.out]; exact decide_eq_false (by omega)
                go_wp2_with fail
                go_round
                case rel => exact ⟨j + 1, by omega, by go_num, uvb (by rw [HS.out, HOK.out]; try rfl)⟩
                case measure => simp [intOf]; omega
              · have d1 : decide (1000000000000 < c1) = false := decide_eq_false t1
                by_cases t2 : c2 < 0
                · have HOK : Hid (okv = false) := by unfold Hid; rw [HOKV.out]; exact decide_eq_false (by omega)
                  go_wp2_with fail
                  go_round
                  case rel => exact ⟨j + 1, by omega, by go_num, uvb (by rw [HS.out, HOK.out]; try rfl)⟩
                  case measure => simp [intOf]; omega
                · have d2 : decide (c2 < 0) = false := decide_eq_false t2
                  by_cases t3 : 1000000000000 < c2
                  · have HOK : Hid (okv = false) := by unfold Hid; rw [HOKV.out]; exact decide_eq_false (by omega)
                    go_wp2_with fail
                    go_round
                    case rel => exact ⟨j + 1, by omega, by go_num, uvb (by rw [HS.out, HOK.out]; try rfl)⟩
                    case measure => simp [intOf]; omega
                  · have d3 : decide (1000000000000 < c2) = false := decide_eq_false t3
                    by_cases t4 : c3 < 0
                    · have HOK : Hid (okv = false) := by unfold Hid; rw [HOKV.out]; exact decide_eq_false (by omega)
                      go_wp2_with fail
                      go_round
                      case rel => exact ⟨j + 1, by omega, by go_num, uvb (by rw [HS.out, HOK.out]; try rfl)⟩
                      case measure => simp [intOf]; omega
                    · have d4 : decide (c3 < 0) = false := decide_eq_false t4
                      by_cases t5 : 1000000000000 < c3
                      · have HOK : Hid (okv = false) := by unfold Hid; rw [HOKV.out]; exact decide_eq_false (by omega)
                        go_wp2_with fail
                        go_round
                        case rel => exact ⟨j + 1, by omega, by go_num, uvb (by rw [HS.out, HOK.out]; try rfl)⟩
                        case measure => simp [intOf]; omega
                      · have d5 : decide (1000000000000 < c3) = false := decide_eq_false t5
                        by_cases t6 : 1000000000000 < c4
                        · have HOK : Hid (okv = false) := by unfold Hid; rw [HOKV.out]; exact decide_eq_false (by omega)
                          go_wp2_with fail
                          go_round
                          case rel => exact ⟨j + 1, by omega, by go_num, uvb (by rw [HS.out, HOK.out]; try rfl)⟩
                          case measure => simp [intOf]; omega
                        · have d6 : decide (1000000000000 < c4) = false := decide_eq_false t6
                          have HOK : Hid (okv = true) := by unfold Hid; rw [HOKV.out]; exact decide_eq_true (by omega)
                          go_wp2_with fail
                          go_round
                          case rel => exact ⟨j + 1, by omega, by go_num, uvb (by rw [HS.out, HOK.out]; try rfl)⟩
                          case measure => simp [intOf]; omega
        · obtain rfl : j = n := by omega
          have HEND : Hid (badTo (!(cmB g && cmB k)) l j = !(cmB g && cmB k && (clsB l && capsB l))) := by unfold Hid; rw [← badTo_end, HN.out]
          generalize badTo (!(cmB g && cmB k)) l j = bt at *
          cases bt
          · have HE := Lib.hid (claimE_ok (g := g) (k := k) (l := l) (by rw [HN.out]; exact h30) (bnot_t HEND.out))
            go_wp2_with fail
            go_ret
            exact ⟨uret_int HE.out.symm, rfl⟩
          · have HE := Lib.hid (claimE_range (g := g) (k := k) (l := l) (by rw [HN.out]; exact h30) (bnot_f HEND.out))
            go_wp2_with fail
            go_ret
            exact ⟨uret_int HE.out.symm, rfl⟩
    · have dg1 : decide (g < 0) = false := decide_eq_false g1
      by_cases g2 : 1000000000000 < g
      · rw [decide_eq_true (by omega)] at HB0
        go_enter Try.func12, Try.ntmps12
        go_wp2_with fail
        go_loop [7, 8] (fun bv iv => ∃ j : Nat, j ≤ n ∧ iv = .int .i64 j ∧ bv = .bool (badTo (!(cmB g && cmB k)) l j)) (fun _ iv => n - (intOf iv).toNat)
        case atStart => exact ⟨0, Nat.zero_le _, rfl, uvb (by rw [HB0.out]; try rfl)⟩
        case round =>
          clear HB0
          obtain ⟨j, hj, rfl, rfl⟩ := hrel
          have HS : Hid (badTo (!(cmB g && cmB k)) l (j + 1) = (badTo (!(cmB g && cmB k)) l j || !okB (cnth l j))) := rfl
          by_cases hlt : j < n
          · have hlt' : (j : Int) < (n : Int) := by omega
            obtain ⟨b, off, rfl, hcell⟩ := HO.out (by omega)
            obtain ⟨x0, x1, x2, x3⟩ := hcell w (Below.refl _ _) j hlt
            clear hcell
            by_cases hbt : badTo (!(cmB g && cmB k)) l j = true
            · rw [hbt] at HS ⊢
              have HOK : Hid (okB (cnth l j) = okB (cnth l j)) := rfl
              go_wp2_with fail
              go_round
              case rel => exact ⟨j + 1, by omega, by go_num, uvb (by rw [HS.out]; try rfl)⟩
              case measure => simp [intOf]; omega
            · have hbf : badTo (!(cmB g && cmB k)) l j = false := by simpa using hbt
              clear hbt
              rw [hbf] at HS ⊢
              have HOKV : Hid (okB (cnth l j) = decide (0 ≤ (cnth l j).want ∧ (cnth l j).want ≤ 1000000000000 ∧ 0 ≤ (cnth l j).owed ∧ (cnth l j).owed ≤ 1000000000000 ∧ 0 ≤ (cnth l j).year ∧ (cnth l j).year ≤ 1000000000000 ∧ (cnth l j).cap ≤ 1000000000000)) := by
                unfold Hid okB clB capB cmB
                rw [← Bool.decide_and, ← Bool.decide_and, ← Bool.decide_and]
                congr 1
                simp only [and_assoc]
              generalize okB (cnth l j) = okv at *
              generalize (cnth l j).want = c1 at *
              generalize (cnth l j).owed = c2 at *
              generalize (cnth l j).year = c3 at *
              generalize (cnth l j).cap = c4 at *
              by_cases t0 : c1 < 0
              · have HOK : Hid (okv = false) := by unfold Hid; rw [HOKV.out]; exact decide_eq_false (by omega)
                go_wp2_with fail
                go_round
                case rel => exact ⟨j + 1, by omega, by go_num, uvb (by rw [HS.out, HOK.out]; try rfl)⟩
                case measure => simp [intOf]; omega
              · have d0 : decide (c1 < 0) = false := decide_eq_false t0
                by_cases t1 : 1000000000000 < c1
                · have HOK : Hid (okv = false) := by unfold Hid; rw [HOKV.out]; exact decide_eq_false (by omega)
                  go_wp2_with fail
                  go_round
                  case rel => exact ⟨j + 1, by omega, by go_num, uvb (by rw [HS.out, HOK.out]; try rfl)⟩
                  case measure => simp [intOf]; omega
                · have d1 : decide (1000000000000 < c1) = false := decide_eq_false t1
                  by_cases t2 : c2 < 0
                  · have HOK : Hid (okv = false) := by unfold Hid; rw [HOKV.out]; exact decide_eq_false (by omega)
                    go_wp2_with fail
                    go_round
                    case rel => exact ⟨j + 1, by omega, by go_num, uvb (by rw [HS.out, HOK.out]; try rfl)⟩
                    case measure => simp [intOf]; omega
                  · have d2 : decide (c2 < 0) = false := decide_eq_false t2
                    by_cases t3 : 1000000000000 < c2
                    · have HOK : Hid (okv = false) := by unfold Hid; rw [HOKV.out]; exact decide_eq_false (by omega)
                      go_wp2_with fail
                      go_round
                      case rel => exact ⟨j + 1, by omega, by go_num, uvb (by rw [HS.out, HOK.out]; try rfl)⟩
                      case measure => simp [intOf]; omega
                    · have d3 : decide (1000000000000 < c2) = false := decide_eq_false t3
                      by_cases t4 : c3 < 0
                      · have HOK : Hid (okv = false) := by unfold Hid; rw [HOKV.out]; exact decide_eq_false (by omega)
                        go_wp2_with fail
                        go_round
                        case rel => exact ⟨j + 1, by omega, by go_num, uvb (by rw [HS.out, HOK.out]; try rfl)⟩
                        case measure => simp [intOf]; omega
                      · have d4 : decide (c3 < 0) = false := decide_eq_false t4
                        by_cases t5 : 1000000000000 < c3
                        · have HOK : Hid (okv = false) := by unfold Hid; rw [HOKV.out]; exact decide_eq_false (by omega)
                          go_wp2_with fail
                          go_round
                          case rel => exact ⟨j + 1, by omega, by go_num, uvb (by rw [HS.out, HOK.out]; try rfl)⟩
                          case measure => simp [intOf]; omega
                        · have d5 : decide (1000000000000 < c3) = false := decide_eq_false t5
                          by_cases t6 : 1000000000000 < c4
                          · have HOK : Hid (okv = false) := by unfold Hid; rw [HOKV.out]; exact decide_eq_false (by omega)
                            go_wp2_with fail
                            go_round
                            case rel => exact ⟨j + 1, by omega, by go_num, uvb (by rw [HS.out, HOK.out]; try rfl)⟩
                            case measure => simp [intOf]; omega
                          · have d6 : decide (1000000000000 < c4) = false := decide_eq_false t6
                            have HOK : Hid (okv = true) := by unfold Hid; rw [HOKV.out]; exact decide_eq_true (by omega)
                            go_wp2_with fail
                            go_round
                            case rel => exact ⟨j + 1, by omega, by go_num, uvb (by rw [HS.out, HOK.out]; try rfl)⟩
                            case measure => simp [intOf]; omega
          · obtain rfl : j = n := by omega
            have HEND : Hid (badTo (!(cmB g && cmB k)) l j = !(cmB g && cmB k && (clsB l && capsB l))) := by unfold Hid; rw [← badTo_end, HN.out]
            generalize badTo (!(cmB g && cmB k)) l j = bt at *
            cases bt
            · have HE := Lib.hid (claimE_ok (g := g) (k := k) (l := l) (by rw [HN.out]; exact h30) (bnot_t HEND.out))
              go_wp2_with fail
              go_ret
              exact ⟨uret_int HE.out.symm, rfl⟩
            · have HE := Lib.hid (claimE_range (g := g) (k := k) (l := l) (by rw [HN.out]; exact h30) (bnot_f HEND.out))
              go_wp2_with fail
              go_ret
              exact ⟨uret_int HE.out.symm, rfl⟩
      · have dg2 : decide (1000000000000 < g) = false := decide_eq_false g2
        by_cases k1 : k < 0
        · rw [decide_eq_true (by omega)] at HB0
          go_enter Try.func12, Try.ntmps12
          go_wp2_with fail
          go_loop [7, 8] (fun bv iv => ∃ j : Nat, j ≤ n ∧ iv = .int .i64 j ∧ bv = .bool (badTo (!(cmB g && cmB k)) l j)) (fun _ iv => n - (intOf iv).toNat)
          case atStart => exact ⟨0, Nat.zero_le _, rfl, uvb (by rw [HB0.out]; try rfl)⟩
          case round =>
            clear HB0
            obtain ⟨j, hj, rfl, rfl⟩ := hrel
            have HS : Hid (badTo (!(cmB g && cmB k)) l (j + 1) = (badTo (!(cmB g && cmB k)) l j || !okB (cnth l j))) := rfl
            by_cases hlt : j < n
            · have hlt' : (j : Int) < (n : Int) := by omega
              obtain ⟨b, off, rfl, hcell⟩ := HO.out (by omega)
              obtain ⟨x0, x1, x2, x3⟩ := hcell w (Below.refl _ _) j hlt
              clear hcell
              by_cases hbt : badTo (!(cmB g && cmB k)) l j = true
              · rw [hbt] at HS ⊢
                have HOK : Hid (okB (cnth l j) = okB (cnth l j)) := rfl
                go_wp2_with fail
                go_round
                case rel => exact ⟨j + 1, by omega, by go_num, uvb (by rw [HS.out]; try rfl)⟩
                case measure => simp [intOf]; omega
              · have hbf : badTo (!(cmB g && cmB k)) l j = false := by simpa using hbt
                clear hbt
                rw [hbf] at HS ⊢
                have HOKV : Hid (okB (cnth l j) = decide (0 ≤ (cnth l j).want ∧ (cnth l j).want ≤ 1000000000000 ∧ 0 ≤ (cnth l j).owed ∧ (cnth l j).owed ≤ 1000000000000 ∧ 0 ≤ (cnth l j).year ∧ (cnth l j).year ≤ 1000000000000 ∧ (cnth l j).cap ≤ 1000000000000)) := by
                  unfold Hid okB clB capB cmB
                  rw [← Bool.decide_and, ← Bool.decide_and, ← Bool.decide_and]
                  congr 1
                  simp only [and_assoc]
                generalize okB (cnth l j) = okv at *
                generalize (cnth l j).want = c1 at *
                generalize (cnth l j).owed = c2 at *
                generalize (cnth l j).year = c3 at *
                generalize (cnth l j).cap = c4 at *
                by_cases t0 : c1 < 0
                · have HOK : Hid (okv = false) := by unfold Hid; rw [HOKV.out]; exact decide_eq_false (by omega)
                  go_wp2_with fail
                  go_round
                  case rel => exact ⟨j + 1, by omega, by go_num, uvb (by rw [HS.out, HOK.out]; try rfl)⟩
                  case measure => simp [intOf]; omega
                · have d0 : decide (c1 < 0) = false := decide_eq_false t0
                  by_cases t1 : 1000000000000 < c1
                  · have HOK : Hid (okv = false) := by unfold Hid; rw [HOKV.out]; exact decide_eq_false (by omega)
                    go_wp2_with fail
                    go_round
                    case rel => exact ⟨j + 1, by omega, by go_num, uvb (by rw [HS.out, HOK.out]; try rfl)⟩
                    case measure => simp [intOf]; omega
                  · have d1 : decide (1000000000000 < c1) = false := decide_eq_false t1
                    by_cases t2 : c2 < 0
                    · have HOK : Hid (okv = false) := by unfold Hid; rw [HOKV.out]; exact decide_eq_false (by omega)
                      go_wp2_with fail
                      go_round
                      case rel => exact ⟨j + 1, by omega, by go_num, uvb (by rw [HS.out, HOK.out]; try rfl)⟩
                      case measure => simp [intOf]; omega
                    · have d2 : decide (c2 < 0) = false := decide_eq_false t2
                      by_cases t3 : 1000000000000 < c2
                      · have HOK : Hid (okv = false) := by unfold Hid; rw [HOKV.out]; exact decide_eq_false (by omega)
                        go_wp2_with fail
                        go_round
                        case rel => exact ⟨j + 1, by omega, by go_num, uvb (by rw [HS.out, HOK.out]; try rfl)⟩
                        case measure => simp [intOf]; omega
                      · have d3 : decide (1000000000000 < c2) = false := decide_eq_false t3
                        by_cases t4 : c3 < 0
                        · have HOK : Hid (okv = false) := by unfold Hid; rw [HOKV.out]; exact decide_eq_false (by omega)
                          go_wp2_with fail
                          go_round
                          case rel => exact ⟨j + 1, by omega, by go_num, uvb (by rw [HS.out, HOK.out]; try rfl)⟩
                          case measure => simp [intOf]; omega
                        · have d4 : decide (c3 < 0) = false := decide_eq_false t4
                          by_cases t5 : 1000000000000 < c3
                          · have HOK : Hid (okv = false) := by unfold Hid; rw [HOKV.out]; exact decide_eq_false (by omega)
                            go_wp2_with fail
                            go_round
                            case rel => exact ⟨j + 1, by omega, by go_num, uvb (by rw [HS.out, HOK.out]; try rfl)⟩
                            case measure => simp [intOf]; omega
                          · have d5 : decide (1000000000000 < c3) = false := decide_eq_false t5
                            by_cases t6 : 1000000000000 < c4
                            · have HOK : Hid (okv = false) := by unfold Hid; rw [HOKV.out]; exact decide_eq_false (by omega)
                              go_wp2_with fail
                              go_round
                              case rel => exact ⟨j + 1, by omega, by go_num, uvb (by rw [HS.out, HOK.out]; try rfl)⟩
                              case measure => simp [intOf]; omega
                            · have d6 : decide (1000000000000 < c4) = false := decide_eq_false t6
                              have HOK : Hid (okv = true) := by unfold Hid; rw [HOKV.out]; exact decide_eq_true (by omega)
                              go_wp2_with fail
                              go_round
                              case rel => exact ⟨j + 1, by omega, by go_num, uvb (by rw [HS.out, HOK.out]; try rfl)⟩
                              case measure => simp [intOf]; omega
            · obtain rfl : j = n := by omega
              have HEND : Hid (badTo (!(cmB g && cmB k)) l j = !(cmB g && cmB k && (clsB l && capsB l))) := by unfold Hid; rw [← badTo_end, HN.out]
              generalize badTo (!(cmB g && cmB k)) l j = bt at *
              cases bt
              · have HE := Lib.hid (claimE_ok (g := g) (k := k) (l := l) (by rw [HN.out]; exact h30) (bnot_t HEND.out))
                go_wp2_with fail
                go_ret
                exact ⟨uret_int HE.out.symm, rfl⟩
              · have HE := Lib.hid (claimE_range (g := g) (k := k) (l := l) (by rw [HN.out]; exact h30) (bnot_f HEND.out))
                go_wp2_with fail
                go_ret
                exact ⟨uret_int HE.out.symm, rfl⟩
        · have dk1 : decide (k < 0) = false := decide_eq_false k1
          by_cases k2 : 1000000000000 < k
          · rw [decide_eq_true (by omega)] at HB0
            go_enter Try.func12, Try.ntmps12
            go_wp2_with fail
            go_loop [7, 8] (fun bv iv => ∃ j : Nat, j ≤ n ∧ iv = .int .i64 j ∧ bv = .bool (badTo (!(cmB g && cmB k)) l j)) (fun _ iv => n - (intOf iv).toNat)
            case atStart => exact ⟨0, Nat.zero_le _, rfl, uvb (by rw [HB0.out]; try rfl)⟩
            case round =>
              clear HB0
              obtain ⟨j, hj, rfl, rfl⟩ := hrel
              have HS : Hid (badTo (!(cmB g && cmB k)) l (j + 1) = (badTo (!(cmB g && cmB k)) l j || !okB (cnth l j))) := rfl
              by_cases hlt : j < n
              · have hlt' : (j : Int) < (n : Int) := by omega
                obtain ⟨b, off, rfl, hcell⟩ := HO.out (by omega)
                obtain ⟨x0, x1, x2, x3⟩ := hcell w (Below.refl _ _) j hlt
                clear hcell
                by_cases hbt : badTo (!(cmB g && cmB k)) l j = true
                · rw [hbt] at HS ⊢
                  have HOK : Hid (okB (cnth l j) = okB (cnth l j)) := rfl
                  go_wp2_with fail
                  go_round
                  case rel => exact ⟨j + 1, by omega, by go_num, uvb (by rw [HS.out]; try rfl)⟩
                  case measure => simp [intOf]; omega
                · have hbf : badTo (!(cmB g && cmB k)) l j = false := by simpa using hbt
                  clear hbt
                  rw [hbf] at HS ⊢
                  have HOKV : Hid (okB (cnth l j) = decide (0 ≤ (cnth l j).want ∧ (cnth l j).want ≤ 1000000000000 ∧ 0 ≤ (cnth l j).owed ∧ (cnth l j).owed ≤ 1000000000000 ∧ 0 ≤ (cnth l j).year ∧ (cnth l j).year ≤ 1000000000000 ∧ (cnth l j).cap ≤ 1000000000000)) := by
                    unfold Hid okB clB capB cmB
                    rw [← Bool.decide_and, ← Bool.decide_and, ← Bool.decide_and]
                    congr 1
                    simp only [and_assoc]
                  generalize okB (cnth l j) = okv at *
                  generalize (cnth l j).want = c1 at *
                  generalize (cnth l j).owed = c2 at *
                  generalize (cnth l j).year = c3 at *
                  generalize (cnth l j).cap = c4 at *
                  by_cases t0 : c1 < 0
                  · have HOK : Hid (okv = false) := by unfold Hid; rw [HOKV.out]; exact decide_eq_false (by omega)
                    go_wp2_with fail
                    go_round
                    case rel => exact ⟨j + 1, by omega, by go_num, uvb (by rw [HS.out, HOK.out]; try rfl)⟩
                    case measure => simp [intOf]; omega
                  · have d0 : decide (c1 < 0) = false := decide_eq_false t0
                    by_cases t1 : 1000000000000 < c1
                    · have HOK : Hid (okv = false) := by unfold Hid; rw [HOKV.out]; exact decide_eq_false (by omega)
                      go_wp2_with fail
                      go_round
                      case rel => exact ⟨j + 1, by omega, by go_num, uvb (by rw [HS.out, HOK.out]; try rfl)⟩
                      case measure => simp [intOf]; omega
                    · have d1 : decide (1000000000000 < c1) = false := decide_eq_false t1
                      by_cases t2 : c2 < 0
                      · have HOK : Hid (okv = false) := by unfold Hid; rw [HOKV.out]; exact decide_eq_false (by omega)
                        go_wp2_with fail
                        go_round
                        case rel => exact ⟨j + 1, by omega, by go_num, uvb (by rw [HS.out, HOK.out]; try rfl)⟩
                        case measure => simp [intOf]; omega
                      · have d2 : decide (c2 < 0) = false := decide_eq_false t2
                        by_cases t3 : 1000000000000 < c2
                        · have HOK : Hid (okv = false) := by unfold Hid; rw [HOKV.out]; exact decide_eq_false (by omega)
                          go_wp2_with fail
                          go_round
                          case rel => exact ⟨j + 1, by omega, by go_num, uvb (by rw [HS.out, HOK.out]; try rfl)⟩
                          case measure => simp [intOf]; omega
                        · have d3 : decide (1000000000000 < c2) = false := decide_eq_false t3
                          by_cases t4 : c3 < 0
                          · have HOK : Hid (okv = false) := by unfold Hid; rw [HOKV.out]; exact decide_eq_false (by omega)
                            go_wp2_with fail
                            go_round
                            case rel => exact ⟨j + 1, by omega, by go_num, uvb (by rw [HS.out, HOK.out]; try rfl)⟩
                            case measure => simp [intOf]; omega
                          · have d4 : decide (c3 < 0) = false := decide_eq_false t4
                            by_cases t5 : 1000000000000 < c3
                            · have HOK : Hid (okv = false) := by unfold Hid; rw [HOKV.out]; exact decide_eq_false (by omega)
                              go_wp2_with fail
                              go_round
                              case rel => exact ⟨j + 1, by omega, by go_num, uvb (by rw [HS.out, HOK.out]; try rfl)⟩
                              case measure => simp [intOf]; omega
                            · have d5 : decide (1000000000000 < c3) = false := decide_eq_false t5
                              by_cases t6 : 1000000000000 < c4
                              · have HOK : Hid (okv = false) := by unfold Hid; rw [HOKV.out]; exact decide_eq_false (by omega)
                                go_wp2_with fail
                                go_round
                                case rel => exact ⟨j + 1, by omega, by go_num, uvb (by rw [HS.out, HOK.out]; try rfl)⟩
                                case measure => simp [intOf]; omega
                              · have d6 : decide (1000000000000 < c4) = false := decide_eq_false t6
                                have HOK : Hid (okv = true) := by unfold Hid; rw [HOKV.out]; exact decide_eq_true (by omega)
                                go_wp2_with fail
                                go_round
                                case rel => exact ⟨j + 1, by omega, by go_num, uvb (by rw [HS.out, HOK.out]; try rfl)⟩
                                case measure => simp [intOf]; omega
              · obtain rfl : j = n := by omega
                have HEND : Hid (badTo (!(cmB g && cmB k)) l j = !(cmB g && cmB k && (clsB l && capsB l))) := by unfold Hid; rw [← badTo_end, HN.out]
                generalize badTo (!(cmB g && cmB k)) l j = bt at *
                cases bt
                · have HE := Lib.hid (claimE_ok (g := g) (k := k) (l := l) (by rw [HN.out]; exact h30) (bnot_t HEND.out))
                  go_wp2_with fail
                  go_ret
                  exact ⟨uret_int HE.out.symm, rfl⟩
                · have HE := Lib.hid (claimE_range (g := g) (k := k) (l := l) (by rw [HN.out]; exact h30) (bnot_f HEND.out))
                  go_wp2_with fail
                  go_ret
                  exact ⟨uret_int HE.out.symm, rfl⟩
          · have dk2 : decide (1000000000000 < k) = false := decide_eq_false k2
            rw [decide_eq_false (by omega)] at HB0
            go_enter Try.func12, Try.ntmps12
            go_wp2_with fail
            go_loop [7, 8] (fun bv iv => ∃ j : Nat, j ≤ n ∧ iv = .int .i64 j ∧ bv = .bool (badTo (!(cmB g && cmB k)) l j)) (fun _ iv => n - (intOf iv).toNat)
            case atStart => exact ⟨0, Nat.zero_le _, rfl, uvb (by rw [HB0.out]; try rfl)⟩
            case round =>
              clear HB0
              obtain ⟨j, hj, rfl, rfl⟩ := hrel
              have HS : Hid (badTo (!(cmB g && cmB k)) l (j + 1) = (badTo (!(cmB g && cmB k)) l j || !okB (cnth l j))) := rfl
              by_cases hlt : j < n
              · have hlt' : (j : Int) < (n : Int) := by omega
                obtain ⟨b, off, rfl, hcell⟩ := HO.out (by omega)
                obtain ⟨x0, x1, x2, x3⟩ := hcell w (Below.refl _ _) j hlt
                clear hcell
                by_cases hbt : badTo (!(cmB g && cmB k)) l j = true
                · rw [hbt] at HS ⊢
                  have HOK : Hid (okB (cnth l j) = okB (cnth l j)) := rfl
                  go_wp2_with fail
                  go_round
                  case rel => exact ⟨j + 1, by omega, by go_num, uvb (by rw [HS.out]; try rfl)⟩
                  case measure => simp [intOf]; omega
                · have hbf : badTo (!(cmB g && cmB k)) l j = false := by simpa using hbt
                  clear hbt
                  rw [hbf] at HS ⊢
                  have HOKV : Hid (okB (cnth l j) = decide (0 ≤ (cnth l j).want ∧ (cnth l j).want ≤ 1000000000000 ∧ 0 ≤ (cnth l j).owed ∧ (cnth l j).owed ≤ 1000000000000 ∧ 0 ≤ (cnth l j).year ∧ (cnth l j).year ≤ 1000000000000 ∧ (cnth l j).cap ≤ 1000000000000)) := by
                    unfold Hid okB clB capB cmB
                    rw [← Bool.decide_and, ← Bool.decide_and, ← Bool.decide_and]
                    congr 1
                    simp only [and_assoc]
                  generalize okB (cnth l j) = okv at *
                  generalize (cnth l j).want = c1 at *
                  generalize (cnth l j).owed = c2 at *
                  generalize (cnth l j).year = c3 at *
                  generalize (cnth l j).cap = c4 at *
                  by_cases t0 : c1 < 0
                  · have HOK : Hid (okv = false) := by unfold Hid; rw [HOKV.out]; exact decide_eq_false (by omega)
                    go_wp2_with fail
                    go_round
                    case rel => exact ⟨j + 1, by omega, by go_num, uvb (by rw [HS.out, HOK.out]; try rfl)⟩
                    case measure => simp [intOf]; omega
                  · have d0 : decide (c1 < 0) = false := decide_eq_false t0
                    by_cases t1 : 1000000000000 < c1
                    · have HOK : Hid (okv = false) := by unfold Hid; rw [HOKV.out]; exact decide_eq_false (by omega)
                      go_wp2_with fail
                      go_round
                      case rel => exact ⟨j + 1, by omega, by go_num, uvb (by rw [HS.out, HOK.out]; try rfl)⟩
                      case measure => simp [intOf]; omega
                    · have d1 : decide (1000000000000 < c1) = false := decide_eq_false t1
                      by_cases t2 : c2 < 0
                      · have HOK : Hid (okv = false) := by unfold Hid; rw [HOKV.out]; exact decide_eq_false (by omega)
                        go_wp2_with fail
                        go_round
                        case rel => exact ⟨j + 1, by omega, by go_num, uvb (by rw [HS.out, HOK.out]; try rfl)⟩
                        case measure => simp [intOf]; omega
                      · have d2 : decide (c2 < 0) = false := decide_eq_false t2
                        by_cases t3 : 1000000000000 < c2
                        · have HOK : Hid (okv = false) := by unfold Hid; rw [HOKV.out]; exact decide_eq_false (by omega)
                          go_wp2_with fail
                          go_round
                          case rel => exact ⟨j + 1, by omega, by go_num, uvb (by rw [HS.out, HOK.out]; try rfl)⟩
                          case measure => simp [intOf]; omega
                        · have d3 : decide (1000000000000 < c2) = false := decide_eq_false t3
                          by_cases t4 : c3 < 0
                          · have HOK : Hid (okv = false) := by unfold Hid; rw [HOKV.out]; exact decide_eq_false (by omega)
                            go_wp2_with fail
                            go_round
                            case rel => exact ⟨j + 1, by omega, by go_num, uvb (by rw [HS.out, HOK.out]; try rfl)⟩
                            case measure => simp [intOf]; omega
                          · have d4 : decide (c3 < 0) = false := decide_eq_false t4
                            by_cases t5 : 1000000000000 < c3
                            · have HOK : Hid (okv = false) := by unfold Hid; rw [HOKV.out]; exact decide_eq_false (by omega)
                              go_wp2_with fail
                              go_round
                              case rel => exact ⟨j + 1, by omega, by go_num, uvb (by rw [HS.out, HOK.out]; try rfl)⟩
                              case measure => simp [intOf]; omega
                            · have d5 : decide (1000000000000 < c3) = false := decide_eq_false t5
                              by_cases t6 : 1000000000000 < c4
                              · have HOK : Hid (okv = false) := by unfold Hid; rw [HOKV.out]; exact decide_eq_false (by omega)
                                go_wp2_with fail
                                go_round
                                case rel => exact ⟨j + 1, by omega, by go_num, uvb (by rw [HS.out, HOK.out]; try rfl)⟩
                                case measure => simp [intOf]; omega
                              · have d6 : decide (1000000000000 < c4) = false := decide_eq_false t6
                                have HOK : Hid (okv = true) := by unfold Hid; rw [HOKV.out]; exact decide_eq_true (by omega)
                                go_wp2_with fail
                                go_round
                                case rel => exact ⟨j + 1, by omega, by go_num, uvb (by rw [HS.out, HOK.out]; try rfl)⟩
                                case measure => simp [intOf]; omega
              · obtain rfl : j = n := by omega
                have HEND : Hid (badTo (!(cmB g && cmB k)) l j = !(cmB g && cmB k && (clsB l && capsB l))) := by unfold Hid; rw [← badTo_end, HN.out]
                generalize badTo (!(cmB g && cmB k)) l j = bt at *
                cases bt
                · have HE := Lib.hid (claimE_ok (g := g) (k := k) (l := l) (by rw [HN.out]; exact h30) (bnot_t HEND.out))
                  go_wp2_with fail
                  go_ret
                  exact ⟨uret_int HE.out.symm, rfl⟩
                · have HE := Lib.hid (claimE_range (g := g) (k := k) (l := l) (by rw [HN.out]; exact h30) (bnot_f HEND.out))
                  go_wp2_with fail
                  go_ret
                  exact ⟨uret_int HE.out.symm, rfl⟩
theorem dueOf_ref (c : Cl) (w : World) (h0 : 0 ≤ c.want) (h1 : 0 ≤ c.year) (h2 : c.year ≤ 1000000000000) (h3 : c.cap ≤ 1000000000000) :
    Calls Try.prog 19 #[.agg #[.int .i64 c.want, .int .i64 c.owed, .int .i64 c.cap, .int .i64 c.year]] w fun e w' => e = .returned (.int .i64 (due c)) ∧ w' = w.alloc (.cells #[.int .i64 c.want, .int .i64 c.owed, .int .i64 c.cap, .int .i64 c.year] 40) := by
  obtain ⟨a, b, cc, d⟩ := c
  simp only at h0 h1 h2 h3
  by_cases hc : 0 ≤ cc
  · have hcD : decide (0 ≤ cc) = true := decide_eq_true hc
    have H : Hid (due ⟨a, b, cc, d⟩ = min a (max 0 (cc - d))) := by unfold Hid due; simp; intro; omega
    by_cases h4 : cc ≤ d
    · have h4D : decide (cc ≤ d) = true := decide_eq_true h4
      go_enter Try.func19, Try.ntmps19
      go_wp2
      go_ret
      exact ⟨uret_int (by rw [H.out]; omega), rfl⟩
    · have h4D : decide (cc ≤ d) = false := decide_eq_false h4
      by_cases h5 : cc - d < a
      · have h5D : decide (cc - d < a) = true := decide_eq_true h5
        go_enter Try.func19, Try.ntmps19
        go_wp2
        go_ret
        exact ⟨uret_int (by rw [H.out]; omega), rfl⟩
      · have h5D : decide (cc - d < a) = false := decide_eq_false h5
        go_enter Try.func19, Try.ntmps19
        go_wp2
        go_ret
        exact ⟨uret_int (by rw [H.out]; omega), rfl⟩
  · have hcD : decide (0 ≤ cc) = false := decide_eq_false hc
    have H : Hid (due ⟨a, b, cc, d⟩ = a) := by unfold Hid due; rw [if_pos (by simp; omega)]
    go_enter Try.func19, Try.ntmps19
    go_wp2
    go_ret
    exact ⟨uret_int H.out.symm, rfl⟩
theorem dueOf_b (c : Cl) (w : World) (h0 : 0 ≤ c.want) (h1 : 0 ≤ c.year) (h2 : c.year ≤ 1000000000000) (h3 : c.cap ≤ 1000000000000) :
    Calls Try.prog 19 #[.agg #[.int .i64 c.want, .int .i64 c.owed, .int .i64 c.cap, .int .i64 c.year]] w fun e w' => e = .returned (.int .i64 (due c)) ∧ Below w.heap.size w w' :=
  (dueOf_ref c w h0 h1 h2 h3).mono fun _ _ ⟨he, hw⟩ => ⟨he, hw ▸ ubelow_box w _⟩
set_option maxRecDepth 100000 in
set_option maxHeartbeats 2000000 in
theorem asked_ref (g k : Int) (a : Option Addr) (n cap : Nat) (l : List Cl) (w : World) (hc : CameC w a l) (hn : l.length = n) (hE : claimE g k l = 0) :
    Calls Try.prog 18 #[.slice a n cap] w fun e w' => e = .returned (.int .i64 (asked l n)) ∧ Below w.heap.size w w' := by
  obtain ⟨z1, _, _, z4⟩ := claimE_zero hE
  have HF := Lib.hid (fine_of hE)
  have HQ := Lib.hid z4
  have hn30 : n ≤ 30 := by rw [← hn]; exact z1
  have HO := Lib.hid (fun h0 => hc.open hn h0)
  have HN := Lib.hid hn
  clear z1 z4 hE hc hn
  go_enter Try.func18, Try.ntmps18
  go_wp2_with fail
  go_loopw [3, 4] (fun sv iv wr => ∃ j : Nat, j ≤ n ∧ iv = .int .i64 j ∧ sv = .int .i64 (asked l j) ∧ Below w.heap.size w wr) (fun _ iv _ => n - (intOf iv).toNat)
  case atStart => exact ⟨0, Nat.zero_le _, rfl, rfl, Below.refl _ _⟩
  case round =>
    obtain ⟨j, hj, rfl, rfl, hb⟩ := hrel
    have HB := Lib.hid hb
    clear hb
    have hab := asked_bd HF.out j (by rw [HN.out]; exact hj)
    by_cases hlt : j < n
    · have hlt' : (j : Int) < (n : Int) := by omega
      obtain ⟨b, off, rfl, hcell⟩ := HO.out (by omega)
      obtain ⟨x0, x1, x2, x3⟩ := hcell wr HB.out j hlt
      clear hcell
      obtain ⟨q1, q2, q3, q4, q5, q6, q7⟩ := HQ.out j (by rw [HN.out]; exact hlt)
      obtain ⟨r1, r2, r3, r4⟩ := HF.out.2 j (by rw [HN.out]; exact hlt)
      have HS : Hid (asked l (j + 1) = asked l j + (due (cnth l j) + (cnth l j).owed)) := rfl
      have HDUE := Lib.hid (fun w => dueOf_b (cnth l j) w q1 q5 q6 q7)
      generalize due (cnth l j) = d at *
      generalize asked l j = S at *
      have hS : S ≤ 60000000000000 := by omega
      have v0 := cell_regrown x0
      have v1 := cell_regrown x1
      have v2 := cell_regrown x2
      have v3 := cell_regrown x3
      generalize (cnth l j).owed = o at *
      have hw1 : IntKind.i64.wrap (d + o) = d + o := IntWalk.i64_in _ (by omega)
      have hw2 : IntKind.i64.wrap (S + (d + o)) = S + (d + o) := IntWalk.i64_in _ (by omega)
      go_wp2_with fail
      refine wp_region_quiet_below (by kernel_rfl) (by kernel_rfl) ?_
      repeat (quiet_step (exact Calls.regrown_of (HDUE.out _)))
      refine wpQuiet_nil ?_
      intro _ hw'
      obtain ⟨⟨dq, osq⟩, hw''⟩ := hw'
      subst hw''
      go_wp2_with fail
      go_roundw
      case rel => exact ⟨j + 1, by omega, by go_num, uval (by rw [HS.out]), HB.out.trans ((below_regrown wr dq osq).mono HB.out.size)⟩
      case measure => simp [intOf]; omega
    · obtain rfl : j = n := by omega
      go_wp2_with fail
      go_ret
      exact ⟨rfl, HB.out⟩
end Go.Proofs.Ytciblhkcchaobaa
