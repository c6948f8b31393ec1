/-
  Promise K3: the walk of the reference's SplitHours, minute by minute.
-/
import Derived.Test.YtikkeidapgmcnaaUSplitR
namespace Go.Proofs.Ytikkeidapgmcnaa
open Go.RowKit

/-- What the reference's SplitHours answers. -/
def SplR (w' : World) (l : List Int) (D W : Int) (u v : Value) (er : Int) : Prop :=
  er = splitE l D W ∧ ((splitE l D W ≠ 0 ∧ u = .slice none 0 0 ∧ v = .slice none 0 0) ∨ (splitE l D W = 0 ∧ ∃ x c y d, u = .slice x l.length c ∧ v = .slice y l.length d ∧ Came w' x (usL l D W l.length) ∧ Came w' y (ovL l D W l.length)))
set_option maxRecDepth 100000 in
set_option maxHeartbeats 4000000 in
theorem splitHours_ref (a : Option Addr) (n cap : Nat) (l : List Int) (D W : Int) (w : World) (hc : Came w a l) (hn : l.length = n) (hm : n ≤ maxLen) :
    Calls Try.prog 19 #[.slice a n cap, .agg #[.int .i64 D, .int .i64 W]] w fun e w' => ∃ (u v : Value) (er : Int), e = .returned (.tuple #[u, v, .int .i64 er]) ∧ SplR w' l D W u v er ∧ Below w.heap.size w w' := by
  have hm' : n ≤ 9223372036854775807 := by unfold maxLen at hm; omega
  have HO := Lib.hid (fun h0 => hc.open hn h0)
  have HN := Lib.hid hn
  have HB0 := Lib.hid (ubelow_box w (.cells #[.int .i64 D, .int .i64 W] 39))
  clear hm hc hn
  by_cases h7 : 7 < n
  · have HE := Lib.hid (splitE_many (l := l) (D := D) (W := W) (by rw [HN.out]; exact h7))
    have h7' : (7 : Int) < (n : Int) := by omega
    go_enter Try.func19, Try.ntmps19
    go_wp2_with fail
    go_ret3
    exact ⟨_, _, _, rfl, ⟨HE.out.symm, .inl ⟨by rw [HE.out]; decide, rfl, rfl⟩⟩, HB0.out⟩
  · have h7' : ¬ ((7 : Int) < (n : Int)) := by omega
    by_cases hD1 : D < 0
    · have HE := Lib.hid (splitE_range (l := l) (D := D) (W := W) (by rw [HN.out]; exact h7) (by omega))
      have hBD1 : decide (D < 0) = true := decide_eq_true hD1
      go_enter Try.func19, Try.ntmps19
      go_wp2_with fail
      go_loop [7, 8] (fun bv iv => ∃ k : Nat, k ≤ n ∧ iv = .int .i64 k ∧ bv = .bool (wrongTo true l k)) (fun _ iv => n - (intOf iv).toNat)
      case atStart => exact ⟨0, Nat.zero_le _, rfl, rfl⟩
      case round =>
        obtain ⟨k, hk, rfl, rfl⟩ := hrel
        have HS : Hid (wrongTo true l (k + 1) = (wrongTo true l k || !timeB (nth l k))) := rfl
        by_cases hlt : k < n
        · have hlt' : (k : Int) < (n : Int) := by omega
          obtain ⟨b, off, rfl, hcell⟩ := HO.out (by omega)
          have x0 := hcell _ HB0.out k hlt
          clear hcell
          by_cases hb : wrongTo true l k = true
          · rw [hb] at HS ⊢
            go_wp2_with fail
            go_round
            case rel => exact ⟨k + 1, by omega, by go_num, uvb (by rw [HS.out]; simp [*])⟩
            case measure => simp [intOf]; omega
          · have hb' : wrongTo true l k = false := by simpa using hb
            clear hb
            rw [hb'] at HS ⊢
            by_cases t1 : nth l k < 0
            · have t1B : decide (nth l k < 0) = true := decide_eq_true t1
              have hT : timeB (nth l k) = false := timeB_no.2 (.inl t1)
              go_wp2_with fail
              go_round
              case rel => exact ⟨k + 1, by omega, by go_num, uvb (by rw [HS.out]; simp [*])⟩
              case measure => simp [intOf]; omega
            · have t1B : decide (nth l k < 0) = false := decide_eq_false t1
              by_cases t2 : 1440 < nth l k
              · have t2B : decide (1440 < nth l k) = true := decide_eq_true t2
                have hT : timeB (nth l k) = false := timeB_no.2 (.inr t2)
                go_wp2_with fail
                go_round
                case rel => exact ⟨k + 1, by omega, by go_num, uvb (by rw [HS.out]; simp [*])⟩
                case measure => simp [intOf]; omega
              · have t2B : decide (1440 < nth l k) = false := decide_eq_false t2
                have hT : timeB (nth l k) = true := timeB_iff.2 (by omega)
                go_wp2_with fail
                go_round
                case rel => exact ⟨k + 1, by omega, by go_num, uvb (by rw [HS.out]; simp [*])⟩
                case measure => simp [intOf]; omega
        · obtain rfl : k = n := by omega
          have HEND : Hid (wrongTo true l k = (true || !timesB l)) := by unfold Hid; rw [← HN.out]; exact wrongTo_end _ _
          clear HS
          have hz : wrongTo true l k = true := by rw [HEND.out]; rfl
          rw [hz]
          go_wp2_with fail
          go_ret3
          exact ⟨_, _, _, rfl, ⟨HE.out.symm, .inl ⟨by rw [HE.out]; decide, rfl, rfl⟩⟩, HB0.out⟩
    · by_cases hD2 : 1440 < D
      · have HE := Lib.hid (splitE_range (l := l) (D := D) (W := W) (by rw [HN.out]; exact h7) (by omega))
        have hBD2 : decide (1440 < D) = true := decide_eq_true hD2
        go_enter Try.func19, Try.ntmps19
        go_wp2_with fail
        go_loop [7, 8] (fun bv iv => ∃ k : Nat, k ≤ n ∧ iv = .int .i64 k ∧ bv = .bool (wrongTo true l k)) (fun _ iv => n - (intOf iv).toNat)
        case atStart => exact ⟨0, Nat.zero_le _, rfl, rfl⟩
        case round =>
          obtain ⟨k, hk, rfl, rfl⟩ := hrel
          have HS : Hid (wrongTo true l (k + 1) = (wrongTo true l k || !timeB (nth l k))) := rfl
          by_cases hlt : k < n
          · have hlt' : (k : Int) < (n : Int) := by omega
            obtain ⟨b, off, rfl, hcell⟩ := HO.out (by omega)
            have x0 := hcell _ HB0.out k hlt
            clear hcell
            by_cases hb : wrongTo true l k = true
            · rw [hb] at HS ⊢
              go_wp2_with fail
              go_round
              case rel => exact ⟨k + 1, by omega, by go_num, uvb (by rw [HS.out]; simp [*])⟩
              case measure => simp [intOf]; omega
            · have hb' : wrongTo true l k = false := by simpa using hb
              clear hb
              rw [hb'] at HS ⊢
              by_cases t1 : nth l k < 0
              · have t1B : decide (nth l k < 0) = true := decide_eq_true t1
                have hT : timeB (nth l k) = false := timeB_no.2 (.inl t1)
                go_wp2_with fail
                go_round
                case rel => exact ⟨k + 1, by omega, by go_num, uvb (by rw [HS.out]; simp [*])⟩
                case measure => simp [intOf]; omega
              · have t1B : decide (nth l k < 0) = false := decide_eq_false t1
                by_cases t2 : 1440 < nth l k
                · have t2B : decide (1440 < nth l k) = true := decide_eq_true t2
                  have hT : timeB (nth l k) = false := timeB_no.2 (.inr t2)
                  go_wp2_with fail
                  go_round
                  case rel => exact ⟨k + 1, by omega, by go_num, uvb (by rw [HS.out]; simp [*])⟩
                  case measure => simp [intOf]; omega
                · have t2B : decide (1440 < nth l k) = false := decide_eq_false t2
                  have hT : timeB (nth l k) = true := timeB_iff.2 (by omega)
                  go_wp2_with fail
                  go_round
                  case rel => exact ⟨k + 1, by omega, by go_num, uvb (by rw [HS.out]; simp [*])⟩
                  case measure => simp [intOf]; omega
          · obtain rfl : k = n := by omega
            have HEND : Hid (wrongTo true l k = (true || !timesB l)) := by unfold Hid; rw [← HN.out]; exact wrongTo_end _ _
            clear HS
            have hz : wrongTo true l k = true := by rw [HEND.out]; rfl
            rw [hz]
            go_wp2_with fail
            go_ret3
            exact ⟨_, _, _, rfl, ⟨HE.out.symm, .inl ⟨by rw [HE.out]; decide, rfl, rfl⟩⟩, HB0.out⟩
      · by_cases hW1 : W < 0
        · have HE := Lib.hid (splitE_range (l := l) (D := D) (W := W) (by rw [HN.out]; exact h7) (by omega))
          have hBW1 : decide (W < 0) = true := decide_eq_true hW1
          go_enter Try.func19, Try.ntmps19
          go_wp2_with fail
          go_loop [7, 8] (fun bv iv => ∃ k : Nat, k ≤ n ∧ iv = .int .i64 k ∧ bv = .bool (wrongTo true l k)) (fun _ iv => n - (intOf iv).toNat)
          case atStart => exact ⟨0, Nat.zero_le _, rfl, rfl⟩
          case round =>
            obtain ⟨k, hk, rfl, rfl⟩ := hrel
            have HS : Hid (wrongTo true l (k + 1) = (wrongTo true l k || !timeB (nth l k))) := rfl
            by_cases hlt : k < n
            · have hlt' : (k : Int) < (n : Int) := by omega
              obtain ⟨b, off, rfl, hcell⟩ := HO.out (by omega)
              have x0 := hcell _ HB0.out k hlt
              clear hcell
              by_cases hb : wrongTo true l k = true
              · rw [hb] at HS ⊢
                go_wp2_with fail
                go_round
                case rel => exact ⟨k + 1, by omega, by go_num, uvb (by rw [HS.out]; simp [*])⟩
                case measure => simp [intOf]; omega
              · have hb' : wrongTo true l k = false := by simpa using hb
                clear hb
                rw [hb'] at HS ⊢
                by_cases t1 : nth l k < 0
                · have t1B : decide (nth l k < 0) = true := decide_eq_true t1
                  have hT : timeB (nth l k) = false := timeB_no.2 (.inl t1)
                  go_wp2_with fail
                  go_round
                  case rel => exact ⟨k + 1, by omega, by go_num, uvb (by rw [HS.out]; simp [*])⟩
                  case measure => simp [intOf]; omega
                · have t1B : decide (nth l k < 0) = false := decide_eq_false t1
                  by_cases t2 : 1440 < nth l k
                  · have t2B : decide (1440 < nth l k) = true := decide_eq_true t2
                    have hT : timeB (nth l k) = false := timeB_no.2 (.inr t2)
                    go_wp2_with fail
                    go_round
                    case rel => exact ⟨k + 1, by omega, by go_num, uvb (by rw [HS.out]; simp [*])⟩
                    case measure => simp [intOf]; omega
                  · have t2B : decide (1440 < nth l k) = false := decide_eq_false t2
                    have hT : timeB (nth l k) = true := timeB_iff.2 (by omega)
                    go_wp2_with fail
                    go_round
                    case rel => exact ⟨k + 1, by omega, by go_num, uvb (by rw [HS.out]; simp [*])⟩
                    case measure => simp [intOf]; omega
            · obtain rfl : k = n := by omega
              have HEND : Hid (wrongTo true l k = (true || !timesB l)) := by unfold Hid; rw [← HN.out]; exact wrongTo_end _ _
              clear HS
              have hz : wrongTo true l k = true := by rw [HEND.out]; rfl
              rw [hz]
              go_wp2_with fail
              go_ret3
              exact ⟨_, _, _, rfl, ⟨HE.out.symm, .inl ⟨by rw [HE.out]; decide, rfl, rfl⟩⟩, HB0.out⟩
        · by_cases hW2 : 10080 < W
          · have HE := Lib.hid (splitE_range (l := l) (D := D) (W := W) (by rw [HN.out]; exact h7) (by omega))
            have hBW2 : decide (10080 < W) = true := decide_eq_true hW2
            go_enter Try.func19, Try.ntmps19
            go_wp2_with fail
            go_loop [7, 8] (fun bv iv => ∃ k : Nat, k ≤ n ∧ iv = .int .i64 k ∧ bv = .bool (wrongTo true l k)) (fun _ iv => n - (intOf iv).toNat)
            case atStart => exact ⟨0, Nat.zero_le _, rfl, rfl⟩
            case round =>
              obtain ⟨k, hk, rfl, rfl⟩ := hrel
              have HS : Hid (wrongTo true l (k + 1) = (wrongTo true l k || !timeB (nth l k))) := rfl
              by_cases hlt : k < n
              · have hlt' : (k : Int) < (n : Int) := by omega
                obtain ⟨b, off, rfl, hcell⟩ := HO.out (by omega)
                have x0 := hcell _ HB0.out k hlt
                clear hcell
                by_cases hb : wrongTo true l k = true
                · rw [hb] at HS ⊢
                  go_wp2_with fail
                  go_round
                  case rel => exact ⟨k + 1, by omega, by go_num, uvb (by rw [HS.out]; simp [*])⟩
                  case measure => simp [intOf]; omega
                · have hb' : wrongTo true l k = false := by simpa using hb
                  clear hb
                  rw [hb'] at HS ⊢
                  by_cases t1 : nth l k < 0
                  · have t1B : decide (nth l k < 0) = true := decide_eq_true t1
                    have hT : timeB (nth l k) = false := timeB_no.2 (.inl t1)
                    go_wp2_with fail
                    go_round
                    case rel => exact ⟨k + 1, by omega, by go_num, uvb (by rw [HS.out]; simp [*])⟩
                    case measure => simp [intOf]; omega
                  · have t1B : decide (nth l k < 0) = false := decide_eq_false t1
                    by_cases t2 : 1440 < nth l k
                    · have t2B : decide (1440 < nth l k) = true := decide_eq_true t2
                      have hT : timeB (nth l k) = false := timeB_no.2 (.inr t2)
                      go_wp2_with fail
                      go_round
                      case rel => exact ⟨k + 1, by omega, by go_num, uvb (by rw [HS.out]; simp [*])⟩
                      case measure => simp [intOf]; omega
                    · have t2B : decide (1440 < nth l k) = false := decide_eq_false t2
                      have hT : timeB (nth l k) = true := timeB_iff.2 (by omega)
                      go_wp2_with fail
                      go_round
                      case rel => exact ⟨k + 1, by omega, by go_num, uvb (by rw [HS.out]; simp [*])⟩
                      case measure => simp [intOf]; omega
              · obtain rfl : k = n := by omega
                have HEND : Hid (wrongTo true l k = (true || !timesB l)) := by unfold Hid; rw [← HN.out]; exact wrongTo_end _ _
                clear HS
                have hz : wrongTo true l k = true := by rw [HEND.out]; rfl
                rw [hz]
                go_wp2_with fail
                go_ret3
                exact ⟨_, _, _, rfl, ⟨HE.out.symm, .inl ⟨by rw [HE.out]; decide, rfl, rfl⟩⟩, HB0.out⟩
          · go_enter Try.func19, Try.ntmps19
            go_wp2_with fail
            go_loop [7, 8] (fun bv iv => ∃ k : Nat, k ≤ n ∧ iv = .int .i64 k ∧ bv = .bool (wrongTo false l k)) (fun _ iv => n - (intOf iv).toNat)
            case atStart => exact ⟨0, Nat.zero_le _, rfl, rfl⟩
            case round =>
              obtain ⟨k, hk, rfl, rfl⟩ := hrel
              have HS : Hid (wrongTo false l (k + 1) = (wrongTo false l k || !timeB (nth l k))) := rfl
              by_cases hlt : k < n
              · have hlt' : (k : Int) < (n : Int) := by omega
                obtain ⟨b, off, rfl, hcell⟩ := HO.out (by omega)
                have x0 := hcell _ HB0.out k hlt
                clear hcell
                by_cases hb : wrongTo false l k = true
                · rw [hb] at HS ⊢
                  go_wp2_with fail
                  go_round
                  case rel => exact ⟨k + 1, by omega, by go_num, uvb (by rw [HS.out]; simp [*])⟩
                  case measure => simp [intOf]; omega
                · have hb' : wrongTo false l k = false := by simpa using hb
                  clear hb
                  rw [hb'] at HS ⊢
                  by_cases t1 : nth l k < 0
                  · have t1B : decide (nth l k < 0) = true := decide_eq_true t1
                    have hT : timeB (nth l k) = false := timeB_no.2 (.inl t1)
                    go_wp2_with fail
                    go_round
                    case rel => exact ⟨k + 1, by omega, by go_num, uvb (by rw [HS.out]; simp [*])⟩
                    case measure => simp [intOf]; omega
                  · have t1B : decide (nth l k < 0) = false := decide_eq_false t1
                    by_cases t2 : 1440 < nth l k
                    · have t2B : decide (1440 < nth l k) = true := decide_eq_true t2
                      have hT : timeB (nth l k) = false := timeB_no.2 (.inr t2)
                      go_wp2_with fail
                      go_round
                      case rel => exact ⟨k + 1, by omega, by go_num, uvb (by rw [HS.out]; simp [*])⟩
                      case measure => simp [intOf]; omega
                    · have t2B : decide (1440 < nth l k) = false := decide_eq_false t2
                      have hT : timeB (nth l k) = true := timeB_iff.2 (by omega)
                      go_wp2_with fail
                      go_round
                      case rel => exact ⟨k + 1, by omega, by go_num, uvb (by rw [HS.out]; simp [*])⟩
                      case measure => simp [intOf]; omega
              · obtain rfl : k = n := by omega
                have HEND : Hid (wrongTo false l k = (false || !timesB l)) := by unfold Hid; rw [← HN.out]; exact wrongTo_end _ _
                clear HS
                have hz : wrongTo false l k = !timesB l := by rw [HEND.out]; rfl
                rw [hz]
                cases hti : timesB l
                · have HE := Lib.hid (splitE_range (l := l) (D := D) (W := W) (by rw [HN.out]; exact h7) (.inl hti))
                  go_wp2_with fail
                  go_ret3
                  exact ⟨_, _, _, rfl, ⟨HE.out.symm, .inl ⟨by rw [HE.out]; decide, rfl, rfl⟩⟩, HB0.out⟩
                · have HE := Lib.hid (splitE_ok (l := l) (D := D) (W := W) (by rw [HN.out]; exact h7) (by rw [hti]; simp; omega))
                  clear hz HEND
                  have x8 : (w.alloc (.cells #[.int .i64 D, .int .i64 W] 39)).cell? ⟨w.heap.size, 0, none⟩ = some (.int .i64 D) := by simp
                  have x9 : (w.alloc (.cells #[.int .i64 D, .int .i64 W] 39)).cell? ⟨w.heap.size, 1, none⟩ = some (.int .i64 W) := by simp
                  have HX0 : Hid (OBox (w.alloc (.cells #[.int .i64 D, .int .i64 W] 39)) w.heap.size D W) := ⟨x8, x9⟩
                  clear x8 x9
                  generalize hW0 : (w.alloc (.cells #[.int .i64 D, .int .i64 W] 39)) = W0 at *
                  have hwlt : w.heap.size < W0.heap.size := by rw [← hW0]; simp
                  clear hW0
                  go_wp2_with fail
                  go_loopw [9, 10, 11, 12] (fun uv ov kv iv wr => ∃ j : Nat, j ≤ k ∧ iv = .int .i64 j ∧ kv = .int .i64 (W - leftW l D W j) ∧ Two wr W0.heap.size uv ((List.range j).map (usu l D W)) ov ((List.range j).map fun j => nth l j - usu l D W j) ∧ Below W0.heap.size W0 wr) (fun _ _ _ iv _ => k - (intOf iv).toNat)
                  case atStart => exact ⟨0, Nat.zero_le _, rfl, uval (by rw [leftW]; omega), Two.nil _ _, Below.refl _ _⟩
                  case round =>
                    obtain ⟨j, hj, rfl, rfl, htw, hbw⟩ := hrel
                    have HT := Lib.hid htw
                    have HB := Lib.hid hbw
                    have HBW := Lib.hid (HB0.out.trans (hbw.mono HB0.out.size))
                    obtain ⟨o0, o1⟩ := HX0.out.below hbw hwlt
                    obtain ⟨xu, cu, hu, _⟩ := htw.1.form
                    obtain ⟨xv, cv, hv, _⟩ := htw.2.1.form
                    have hlr : ((List.range j).map (usu l D W)).length = j := by simp
                    have hlr2 : ((List.range j).map fun j => nth l j - usu l D W j).length = j := by simp
                    rw [hlr] at hu
                    rw [hlr2] at hv
                    subst hu hv
                    clear htw hbw hlr hlr2
                    have hlb := leftW_bd (l := l) (d := D) (W := W) (by omega) (by omega) (fun j hj => (timeB_iff.1 (timesB_nth hti hj)).1) j (by rw [HN.out]; exact hj)
                    by_cases hjn : j < k
                    · have hjn' : (j : Int) < (k : Int) := by omega
                      obtain ⟨b, off, rfl, hcell⟩ := HO.out (by omega)
                      have x0 := hcell _ HBW.out j hjn
                      have HXC := Lib.hid (fun w' hb => hcell w' hb j hjn)
                      clear hcell
                      have hx := timeB_iff.1 (timesB_nth hti (j := j) (by rw [HN.out]; exact hjn))
                      have HSL : Hid (leftW l D W (j + 1) = leftW l D W j - usu l D W j) := rfl
                      have HUS : Hid (usu l D W j = min (min (nth l j) D) (leftW l D W j)) := rfl
                      have HS1 := Lib.hid (usL_snoc l D W j)
                      have HS2 := Lib.hid (ovL_snoc l D W j)
                      obtain ⟨m, hmX⟩ : ∃ m : Nat, nth l j = m := ⟨(nth l j).toNat, by omega⟩
                      rw [hmX] at x0 hx HXC
                      have HMX := Lib.hid hmX
                      clear hmX
                      generalize hL : leftW l D W j = L at *
                      have HL := Lib.hid hL
                      clear hL
                      go_wp2_with fail
                      go_loop [11, 13, 14] (fun kv uv mv => ∃ i : Nat, i ≤ m ∧ mv = .int .i64 i ∧ uv = .int .i64 (minU D L i) ∧ kv = .int .i64 (W - L + minU D L i)) (fun _ _ mv => m - (intOf mv).toNat)
                      case atStart => exact ⟨0, Nat.zero_le _, rfl, uval (by unfold minU; omega), uval (by unfold minU; omega)⟩
                      case round =>
                        obtain ⟨i, hi, rfl, rfl, rfl⟩ := hrel
                        have hub : 0 ≤ minU D L i ∧ minU D L i ≤ D ∧ minU D L i ≤ L ∧ minU D L i ≤ i := by unfold minU; omega
                        by_cases him : i < m
                        · have him' : (i : Int) < (m : Int) := by omega
                          have HSU := Lib.hid (minU_succ (D := D) (L := L) i)
                          generalize minU D L i = U at *
                          by_cases c1 : U < D
                          · have c1B : decide (U < D) = true := decide_eq_true c1
                            by_cases c2 : U < L
                            · have c2B : decide (W - L + U < W) = true := decide_eq_true (by omega)
                              have c2P : W - L + U < W := by omega
                              go_wp2_with fail
                              go_round
                              case rel => exact ⟨i + 1, by omega, by go_num, uval (by rw [HSU.out, if_pos ⟨c1, c2⟩]), uval (by rw [HSU.out, if_pos ⟨c1, c2⟩]; omega)⟩
                              case measure => simp [intOf]; omega
                            · have c2B : decide (W - L + U < W) = false := decide_eq_false (by omega)
                              have c2P : ¬ W - L + U < W := by omega
                              go_wp2_with fail
                              go_round
                              case rel => exact ⟨i + 1, by omega, by go_num, uval (by rw [HSU.out, if_neg (fun h => c2 h.2)]), uval (by rw [HSU.out, if_neg (fun h => c2 h.2)])⟩
                              case measure => simp [intOf]; omega
                          · have c1B : decide (U < D) = false := decide_eq_false c1
                            go_wp2_with fail
                            go_round
                            case rel => exact ⟨i + 1, by omega, by go_num, uval (by rw [HSU.out, if_neg (fun h => c1 h.1)]), uval (by rw [HSU.out, if_neg (fun h => c1 h.1)])⟩
                            case measure => simp [intOf]; omega
                        · obtain rfl : i = m := by omega
                          have HUU : Hid (minU D L i = usu l D W j) := by unfold Hid minU; rw [HUS.out, HMX.out]
                          generalize minU D L i = U at *
                          have hw1 : IntKind.i64.wrap ((i : Int) - U) = (i : Int) - U := IntWalk.i64_in _ (by omega)
                          have hB0 : W0.heap.size ≤ wr.heap.size := HB.out.size
                          have y0 := x0
                          go_wp2_with fail
                          have hWlt : w.heap.size ≤ W0.heap.size := by omega
                          have y1 := HXC.out (wr.alloc (.cells #[.int .i64 U] 3)) (HBW.out.alloc HBW.out.size _)
                          have huu : ∀ b, (Value.slice xu j cu).ownBlock = some b → b < wr.heap.size := fun b hb => (HT.out.1.lt b hb).2
                          have huv : ∀ b, (Value.slice xv j cv).ownBlock = some b → b < wr.heap.size := fun b hb => (HT.out.2.1.lt b hb).2
                          go_region_law (first
                            | (refine step_two _ rfl (.tmp 90) (.tmp 97) rfl W0.heap.size (.slice xv j cv) uA _ _ (by first | rfl | simp [Act.eval]) (by first | exact HTA.out.symm | exact HTA.out.symm.alloc _) _ 1 ((i : Int) - U) (by first | rfl | (simp [Act.eval]; rfl)) (by first | (simp; done) | exact (HKA.out _ (by omega) (by first | (simp; done) | (simp; omega)) 0).trans (by simp)) (by simp; omega) wr (by first | exact HBA.out | exact HBA.out.alloc (Nat.le_trans hB0 HBA.out.size) _) hB0 huv ?_
                               intro uD wD hTD hbD hkD
                               have HTD := Lib.hid hTD
                               have HBD := Lib.hid hbD
                               clear hTD hbD hkD)
                            | (refine step_two _ rfl (.tmp 86) (.tmp 88) rfl W0.heap.size (.slice xu j cu) (.slice xv j cv) _ _ (by first | rfl | simp [Act.eval]) (by first | exact (HT.out).alloc _ | exact Two.alloc (w := wr.drew) (HT.out) _ | exact ((HT.out).alloc _).alloc _ | exact (Two.alloc (w := wr.drew) (HT.out) _).alloc _ | exact Two.alloc (w := (wr.alloc _).drew) ((HT.out).alloc _) _) _ 1 U (by first | rfl | (simp [Act.eval]; rfl)) (by simp) (by simp; omega) wr (by first | exact (Below.refl _ _).drew.alloc hB0 _ | exact ((Below.refl _ _).alloc hB0 _).drew | exact (Below.refl _ _).alloc hB0 _ | exact ((Below.refl _ _).drew.alloc hB0 _).alloc (by simp; omega) _ | exact (((Below.refl _ _).alloc hB0 _).alloc (by simp; omega) _).drew | exact ((Below.refl _ _).alloc hB0 _).drew.alloc (by simp; omega) _) hB0 huu ?_
                               intro uA wA hTA hbA hkA
                               have HTA := Lib.hid hTA
                               have HBA := Lib.hid hbA
                               have HKA := Lib.hid hkA
                               have xA := HXC.out wA (HBW.out.trans (hbA.mono hWlt))
                               clear hTA hbA hkA))
                          all_goals (obtain ⟨xA, cA, hAe, _⟩ := HTD.out.2.1.form)
                          all_goals (obtain ⟨xD, cD, hDe, _⟩ := HTD.out.1.form)
                          all_goals rw [show ((List.range j).map (usu l D W) ++ [U]).length = j + 1 by simp] at hAe
                          all_goals rw [show ((List.range j).map (fun j => nth l j - usu l D W j) ++ [(i : Int) - U]).length = j + 1 by simp] at hDe
                          all_goals subst hAe hDe
                          all_goals go_wp2_with fail
                          all_goals go_roundw
                          all_goals first
                            | (simp [intOf]; omega; done)
                            | (refine ⟨j + 1, by omega, by go_num, uval ?_, ?_, HB.out.trans HBD.out⟩
                               · rw [HSL.out, ← HUU.out]; omega
                               · rw [HS1.out, HS2.out, ← HUU.out, HMX.out]; exact HTD.out.symm)
                    · obtain rfl : j = k := by omega
                      obtain ⟨x1, c1, h1, hc1⟩ := HT.out.1.form
                      obtain ⟨x2, c2, h2, hc2⟩ := HT.out.2.1.form
                      have HC1 : Hid (Came wr xu (usL l D W l.length)) := by
                        have e : usL l D W l.length = (List.range j).map (usu l D W) := by unfold usL; rw [fill_range, HN.out]
                        unfold Hid
                        have e1 : xu = x1 := by injection h1
                        rw [e, e1]
                        exact hc1
                      have HC2 : Hid (Came wr xv (ovL l D W l.length)) := by
                        have e : ovL l D W l.length = (List.range j).map (fun j => nth l j - usu l D W j) := by unfold ovL; rw [fill_range, HN.out]
                        unfold Hid
                        have e1 : xv = x2 := by injection h2
                        rw [e, e1]
                        exact hc2
                      clear h1 h2 hc1 hc2
                      go_wp2_with fail
                      go_ret3
                      exact ⟨.slice xu j cu, .slice xv j cv, 0, rfl, ⟨HE.out.symm, .inr ⟨HE.out, xu, cu, xv, cv, by rw [HN.out], by rw [HN.out], HC1.out, HC2.out⟩⟩, HBW.out⟩
end Go.Proofs.Ytikkeidapgmcnaa
