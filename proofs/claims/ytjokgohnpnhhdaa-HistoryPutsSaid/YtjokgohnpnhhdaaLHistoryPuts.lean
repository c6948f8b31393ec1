/-
  The walk of the law HistoryPuts: it answers true at every list of rows that lies in memory, and every row.
-/
import Derived.Test.YtjokgohnpnhhdaaHBegun
import Derived.Test.YtjokgohnpnhhdaaHApp
import Derived.Deep.RegionHeld3
namespace Go.Proofs.Ytjokgohnpnhhdaa
open Go.RowKit

set_option maxRecDepth 100000 in
set_option maxHeartbeats 2000000 in
theorem walk_historyPuts (w : World) (a : Option Addr) (n cap : Nat) (l : List Rw) (hc : CameR w a l) (hn : l.length = n) (hm : n ≤ maxLen) (_ : ∀ r ∈ l, RowWf r) (hsz : n * 32 ≤ 140737488351232) (f s v : Int) (g : Bool) (_ : (Lit.int .i64 f).wf = true) (_ : (Lit.int .i64 s).wf = true) (_ : (Lit.int .i64 v).wf = true) :
    Calls Try.prog 3 #[.slice a n cap, .agg #[.int .i64 f, .int .i64 s, .int .i64 v, .bool g]] w fun e w' => e = .returned (.bool true) ∧ Below w.heap.size w w' := by
  have HC := Lib.hid hc
  have HN := Lib.hid hn
  have HM := Lib.hid hm
  have HS := Lib.hid hsz
  clear hc hn hm hsz
  have hb0 := (Below.refl w.heap.size w).alloc (Nat.le_refl _) (.cells #[.int .i64 f, .int .i64 s, .int .i64 v, .bool g] 24)
  have HX0 := Lib.hid (RBox.made w f s v g 24)
  have HB0 := Lib.hid hb0
  clear hb0
  go_enter Try.func3, Try.ntmps3
  go_wp2_with fail
  refine (Put_any a n cap l f s v g _ (HC.out.below HB0.out) HN.out HM.out).mono ?_
  rintro e w1 ⟨x, er, rfl, hp, hb1⟩
  have HB1 := Lib.hid (HB0.out.trans (hb1.mono HB0.out.size))
  have HR1 := Lib.hid (HX0.out.1.below hb1 HX0.out.lt)
  have hlt1 : w.heap.size < w1.heap.size := Nat.lt_of_lt_of_le (by simp) hb1.size
  have HP := Lib.hid hp
  clear hb1 HX0 HB0 hp
  go_wp2_with fail
  refine (check_ref a n cap l w1 (HC.out.below HB1.out) HN.out HM.out).mono ?_
  rintro e w2 ⟨rfl, hb2⟩
  have HB2 := Lib.hid (HB1.out.trans (hb2.mono HB1.out.size))
  have HR2 := Lib.hid (HR1.out.below hb2 hlt1)
  have hlt2 : w.heap.size < w2.heap.size := Nat.lt_of_lt_of_le hlt1 hb2.size
  have HB12 := Lib.hid hb2
  clear hb2 HR1
  obtain ⟨x0, x1, x2, x3⟩ := HR2.out
  simp only [Nat.zero_add] at x1 x2 x3
  go_wp2_with fail
  have hlt2' : w.heap.size ≠ w2.heap.size + 1 := by omega
  have hlt2'' : w.heap.size ≠ w2.heap.size := by omega
  have HU : Hid (∀ U, Below w2.heap.size w2 U → CameR U a l) := fun U hU => (HC.out.below HB2.out).below hU
  have HG2 : Hid (GrowR ((w2.alloc (.cells #[.int .i64 f, .int .i64 s, .int .i64 v, .bool g] 24)).alloc (.cells #[] 24)).drew w2.heap.size (.slice (some ⟨w2.heap.size + 1, 0, none⟩) 0 0) []) := by
    have h := GrowR.made (w2.alloc (.cells #[.int .i64 f, .int .i64 s, .int .i64 v, .bool g] 24)) (B := w2.heap.size) (by simp)
    rwa [show (w2.alloc (.cells #[.int .i64 f, .int .i64 s, .int .i64 v, .bool g] 24)).heap.size = w2.heap.size + 1 from by simp] at h
  go_region_held3 (fun w' => w'.cell? ⟨w.heap.size, 0, none⟩ = some (.int .i64 f) ∧ w'.cell? ⟨w.heap.size, 1, none⟩ = some (.int .i64 s) ∧ w'.cell? ⟨w.heap.size, 2, none⟩ = some (.int .i64 v) ∧ w'.cell? ⟨w.heap.size, 3, none⟩ = some (.bool g)) (first | go_keep | (refine ⟨?_, ?_, ?_, ?_⟩ <;> (rw [hgr2.cell hlt2]; simp [*]; done)) | (refine ⟨?_, ?_, ?_, ?_⟩ <;> (rw [hgr1.cell hlt2]; simp [*]; done)) | (trace_state; fail))
    ((first
      | (refine step_app_rows _ rfl (.tmp 18) (.tmp 19) (by rfl) w2.heap.size (.slice (some ⟨_, 0, none⟩) 0 0) [] (by rfl) (by first | exact GrowR.made w2.drew (Nat.le_refl _) | exact (GrowR.made w2.drew (Nat.le_refl _)).alloc _ | exact HG2.out | (trace_state; fail)) a n cap l (by rfl) (HU.out _ (by first | exact (Below.refl _ _).drew.alloc (by simp) _ | exact ((Below.refl _ _).drew.alloc (by simp) _).alloc (by simp) _ | (trace_state; fail))) HN.out (by have := HS.out; simp; omega) (by simp <;> omega) ?_; intro v1 w3 hg1 hgr1 hro1)
      | (refine step_app_rows _ rfl (.tmp 20) (.tmp 22) (by rfl) w2.heap.size _ l (by rfl) (by first | exact hg1 | exact hg1.alloc _) (some ⟨_, 0, none⟩) 1 1 [⟨f, s, v, g⟩] (by rfl) (by first | exact cameR_box w3 f s v g | (have h := (cameR_box (w2.drew.alloc (.cells #[] 24)) f s v g).grown hro1 (by simp [Value.ownBlock]); simpa using h) | exact (((cameR_box w2.drew f s v g).alloc _).grown hro1 (by simp [Value.ownBlock])) | (trace_state; fail)) rfl (by have := HS.out; have := HN.out; omega) (by have := hgr1.size; simp at this ⊢; omega) ?_; intro v2 w4 hg2 hgr2 hro2)
      | (trace_state; fail)))
  · have HB24 := Lib.hid (((((Below.refl w2.heap.size w2).drew.alloc (by simp) _).trans hgr1).alloc (by have := hgr1.size; simp at this ⊢; omega) _).trans hgr2)
    have HB4 := Lib.hid (HB2.out.trans (HB24.out.mono HB2.out.size))
    obtain ⟨a2, c2, rfl, hca⟩ := hg2.came
    have HCA := Lib.hid hca
    clear hg1 hg2 hgr1 hgr2 hro1 hro2 hca x0 x1 x2 x3 HG2 HU
    generalize w4 = W at *
    rw [show (l ++ [(⟨f, s, v, g⟩ : Rw)]).length = n + 1 from by have := HN.out; simp [this]]
    rcases HP.out with ⟨hz, hx, rfl⟩ | ⟨hz, hz2, hx, rfl⟩ | ⟨hz, hz2, rfl, G, c1, hx, hr⟩
    · subst hx
      have hzB : decide (histE l = 0) = false := decide_eq_false hz
      go_wp2_with fail
      refine (begun_any _).mono ?_
      rintro e w5 ⟨rfl, hb5⟩
      have HB5 := Lib.hid (HB4.out.trans (hb5.mono HB4.out.size))
      clear hb5
      go_wp2_with fail
      refine (begun_any _).mono ?_
      rintro e w6 ⟨rfl, hb6⟩
      have HB6 := Lib.hid (HB5.out.trans (hb6.mono HB5.out.size))
      clear hb6
      go_wp2_with fail
      go_ret
      exact ⟨rfl, HB6.out⟩
    · subst hx
      have hzB : decide (histE (l ++ [⟨f, s, v, g⟩]) = 0) = false := decide_eq_false hz2
      have hzT : decide (histE l = 0) = true := decide_eq_true hz
      go_wp2_with fail
      refine (check_ref a2 (n + 1) c2 (l ++ [⟨f, s, v, g⟩]) W HCA.out (by have := HN.out; simp [this]) (by have := HS.out; unfold maxLen; omega)).mono ?_
      rintro e w5 ⟨rfl, hb5⟩
      have HB5 := Lib.hid (HB4.out.trans (hb5.mono HB4.out.size))
      clear hb5
      go_wp2_with fail
      refine (begun_any _).mono ?_
      rintro e w6 ⟨rfl, hb6⟩
      have HB6 := Lib.hid (HB5.out.trans (hb6.mono HB5.out.size))
      clear hb6
      go_wp2_with fail
      refine (begun_any _).mono ?_
      rintro e w7 ⟨rfl, hb7⟩
      have HB7 := Lib.hid (HB6.out.trans (hb7.mono HB6.out.size))
      clear hb7
      go_wp2_with fail
      go_ret
      exact ⟨rfl, HB7.out⟩
    · subst hx
      have HX4 := Lib.hid ((hr.below HB12.out hr.1).below HB24.out (Nat.lt_of_lt_of_le hr.1 HB12.out.size))
      obtain ⟨b2, o2, rfl, hy⟩ : ∃ b2 o2, a2 = some ⟨b2, o2, none⟩ ∧ RAt W b2 o2 (l ++ [⟨f, s, v, g⟩]) := by
        rcases HCA.out with h | h
        · simp at h
        · exact h
      have HY4 := Lib.hid hy
      have HLEN : Hid ((l ++ [(⟨f, s, v, g⟩ : Rw)]).length = n + 1) := by have := HN.out; simp [Hid, this]
      have hzT : decide (histE l = 0) = true := decide_eq_true hz
      have HZ2 := Lib.hid hz2
      have hn50 : n + 1 ≤ 50 := by have := (histE_ok hz2).1; rw [HLEN.out] at this; exact this
      clear hr hy hz2
      rw [show l.length + 1 = n + 1 from by rw [HN.out]]
      generalize (l ++ [(⟨f, s, v, g⟩ : Rw)]) = L at *
      go_wp2_with fail
      refine (check_ref (some ⟨b2, o2, none⟩) (n + 1) c2 L W HCA.out HLEN.out (by unfold maxLen; omega)).mono ?_
      rintro e w5 ⟨rfl, hb5⟩
      have HB5 := Lib.hid (HB4.out.trans (hb5.mono HB4.out.size))
      have HX5 := Lib.hid (HX4.out.below hb5 HX4.out.1)
      have HY5 := Lib.hid (HY4.out.below hb5 HY4.out.1)
      clear hb5
      rw [HZ2.out]
      go_wp2_with fail
      refine (begun_any _).mono ?_
      rintro e w6 ⟨rfl, hb6⟩
      have HB6 := Lib.hid (HB5.out.trans (hb6.mono HB5.out.size))
      have HX6 := Lib.hid (HX5.out.below hb6 HX5.out.1)
      have HY6 := Lib.hid (HY5.out.below hb6 HY5.out.1)
      clear hb6
      go_wp2_with fail
      go_loopw [9] (fun i wr => ∃ k : Nat, k ≤ n + 1 ∧ i = .int .i64 k ∧ RAt wr G 0 L ∧ RAt wr b2 o2 L ∧ Below w.heap.size w wr) (fun i _ => n + 1 - (intOf i).toNat)
      case atStart => exact ⟨0, Nat.zero_le _, rfl, HX6.out, HY6.out, HB6.out⟩
      case round =>
        obtain ⟨k, hk, rfl, hx7, hy7, hb7⟩ := hrel
        have HX7 := Lib.hid hx7
        have HY7 := Lib.hid hy7
        have HB7 := Lib.hid hb7
        clear hx7 hy7 hb7
        by_cases hlt : k < n + 1
        · have hlt' : (k : Int) < (n : Int) + 1 := by omega
          obtain ⟨p0, p1, p2, p3⟩ := HX7.out.2 k (by rw [HLEN.out]; exact hlt)
          obtain ⟨q0, q1, q2, q3⟩ := HY7.out.2 k (by rw [HLEN.out]; exact hlt)
          simp only [Nat.zero_add] at p0 p1 p2 p3
          go_wp2_with fail
          go_quiet (fail)
          go_wp2_with fail
          go_roundw
          case rel => exact ⟨k + 1, by omega, by go_num, HX7.out, HY7.out, below_dN HB7.out _⟩
          case measure => simp [intOf]; omega
        · obtain rfl : k = n + 1 := by omega
          go_wp2_with fail
          go_ret
          exact ⟨rfl, HB7.out⟩
  · have HB24 := Lib.hid (((((Below.refl w2.heap.size w2).drew.alloc (by simp) _).alloc (by simp) _).trans hgr1).trans hgr2)
    have HB4 := Lib.hid (HB2.out.trans (HB24.out.mono HB2.out.size))
    obtain ⟨a2, c2, rfl, hca⟩ := hg2.came
    have HCA := Lib.hid hca
    clear hg1 hg2 hgr1 hgr2 hro1 hro2 hca x0 x1 x2 x3 HG2 HU
    generalize w4 = W at *
    rw [show (l ++ [(⟨f, s, v, g⟩ : Rw)]).length = n + 1 from by have := HN.out; simp [this]]
    rcases HP.out with ⟨hz, hx, rfl⟩ | ⟨hz, hz2, hx, rfl⟩ | ⟨hz, hz2, rfl, G, c1, hx, hr⟩
    · subst hx
      have hzB : decide (histE l = 0) = false := decide_eq_false hz
      go_wp2_with fail
      refine (begun_any _).mono ?_
      rintro e w5 ⟨rfl, hb5⟩
      have HB5 := Lib.hid (HB4.out.trans (hb5.mono HB4.out.size))
      clear hb5
      go_wp2_with fail
      refine (begun_any _).mono ?_
      rintro e w6 ⟨rfl, hb6⟩
      have HB6 := Lib.hid (HB5.out.trans (hb6.mono HB5.out.size))
      clear hb6
      go_wp2_with fail
      go_ret
      exact ⟨rfl, HB6.out⟩
    · subst hx
      have hzB : decide (histE (l ++ [⟨f, s, v, g⟩]) = 0) = false := decide_eq_false hz2
      have hzT : decide (histE l = 0) = true := decide_eq_true hz
      go_wp2_with fail
      refine (check_ref a2 (n + 1) c2 (l ++ [⟨f, s, v, g⟩]) W HCA.out (by have := HN.out; simp [this]) (by have := HS.out; unfold maxLen; omega)).mono ?_
      rintro e w5 ⟨rfl, hb5⟩
      have HB5 := Lib.hid (HB4.out.trans (hb5.mono HB4.out.size))
      clear hb5
      go_wp2_with fail
      refine (begun_any _).mono ?_
      rintro e w6 ⟨rfl, hb6⟩
      have HB6 := Lib.hid (HB5.out.trans (hb6.mono HB5.out.size))
      clear hb6
      go_wp2_with fail
      refine (begun_any _).mono ?_
      rintro e w7 ⟨rfl, hb7⟩
      have HB7 := Lib.hid (HB6.out.trans (hb7.mono HB6.out.size))
      clear hb7
      go_wp2_with fail
      go_ret
      exact ⟨rfl, HB7.out⟩
    · subst hx
      have HX4 := Lib.hid ((hr.below HB12.out hr.1).below HB24.out (Nat.lt_of_lt_of_le hr.1 HB12.out.size))
      obtain ⟨b2, o2, rfl, hy⟩ : ∃ b2 o2, a2 = some ⟨b2, o2, none⟩ ∧ RAt W b2 o2 (l ++ [⟨f, s, v, g⟩]) := by
        rcases HCA.out with h | h
        · simp at h
        · exact h
      have HY4 := Lib.hid hy
      have HLEN : Hid ((l ++ [(⟨f, s, v, g⟩ : Rw)]).length = n + 1) := by have := HN.out; simp [Hid, this]
      have hzT : decide (histE l = 0) = true := decide_eq_true hz
      have HZ2 := Lib.hid hz2
      have hn50 : n + 1 ≤ 50 := by have := (histE_ok hz2).1; rw [HLEN.out] at this; exact this
      clear hr hy hz2
      rw [show l.length + 1 = n + 1 from by rw [HN.out]]
      generalize (l ++ [(⟨f, s, v, g⟩ : Rw)]) = L at *
      go_wp2_with fail
      refine (check_ref (some ⟨b2, o2, none⟩) (n + 1) c2 L W HCA.out HLEN.out (by unfold maxLen; omega)).mono ?_
      rintro e w5 ⟨rfl, hb5⟩
      have HB5 := Lib.hid (HB4.out.trans (hb5.mono HB4.out.size))
      have HX5 := Lib.hid (HX4.out.below hb5 HX4.out.1)
      have HY5 := Lib.hid (HY4.out.below hb5 HY4.out.1)
      clear hb5
      rw [HZ2.out]
      go_wp2_with fail
      refine (begun_any _).mono ?_
      rintro e w6 ⟨rfl, hb6⟩
      have HB6 := Lib.hid (HB5.out.trans (hb6.mono HB5.out.size))
      have HX6 := Lib.hid (HX5.out.below hb6 HX5.out.1)
      have HY6 := Lib.hid (HY5.out.below hb6 HY5.out.1)
      clear hb6
      go_wp2_with fail
      go_loopw [9] (fun i wr => ∃ k : Nat, k ≤ n + 1 ∧ i = .int .i64 k ∧ RAt wr G 0 L ∧ RAt wr b2 o2 L ∧ Below w.heap.size w wr) (fun i _ => n + 1 - (intOf i).toNat)
      case atStart => exact ⟨0, Nat.zero_le _, rfl, HX6.out, HY6.out, HB6.out⟩
      case round =>
        obtain ⟨k, hk, rfl, hx7, hy7, hb7⟩ := hrel
        have HX7 := Lib.hid hx7
        have HY7 := Lib.hid hy7
        have HB7 := Lib.hid hb7
        clear hx7 hy7 hb7
        by_cases hlt : k < n + 1
        · have hlt' : (k : Int) < (n : Int) + 1 := by omega
          obtain ⟨p0, p1, p2, p3⟩ := HX7.out.2 k (by rw [HLEN.out]; exact hlt)
          obtain ⟨q0, q1, q2, q3⟩ := HY7.out.2 k (by rw [HLEN.out]; exact hlt)
          simp only [Nat.zero_add] at p0 p1 p2 p3
          go_wp2_with fail
          go_quiet (fail)
          go_wp2_with fail
          go_roundw
          case rel => exact ⟨k + 1, by omega, by go_num, HX7.out, HY7.out, below_dN HB7.out _⟩
          case measure => simp [intOf]; omega
        · obtain rfl : k = n + 1 := by omega
          go_wp2_with fail
          go_ret
          exact ⟨rfl, HB7.out⟩
  · have HB24 := Lib.hid (((((Below.refl w2.heap.size w2).drew.alloc (by simp) _).alloc (by simp) _).trans hgr1).trans hgr2)
    have HB4 := Lib.hid (HB2.out.trans (HB24.out.mono HB2.out.size))
    obtain ⟨a2, c2, rfl, hca⟩ := hg2.came
    have HCA := Lib.hid hca
    clear hg1 hg2 hgr1 hgr2 hro1 hro2 hca x0 x1 x2 x3 HG2 HU
    generalize w4 = W at *
    rw [show (l ++ [(⟨f, s, v, g⟩ : Rw)]).length = n + 1 from by have := HN.out; simp [this]]
    rcases HP.out with ⟨hz, hx, rfl⟩ | ⟨hz, hz2, hx, rfl⟩ | ⟨hz, hz2, rfl, G, c1, hx, hr⟩
    · subst hx
      have hzB : decide (histE l = 0) = false := decide_eq_false hz
      go_wp2_with fail
      refine (begun_any _).mono ?_
      rintro e w5 ⟨rfl, hb5⟩
      have HB5 := Lib.hid (HB4.out.trans (hb5.mono HB4.out.size))
      clear hb5
      go_wp2_with fail
      refine (begun_any _).mono ?_
      rintro e w6 ⟨rfl, hb6⟩
      have HB6 := Lib.hid (HB5.out.trans (hb6.mono HB5.out.size))
      clear hb6
      go_wp2_with fail
      go_ret
      exact ⟨rfl, HB6.out⟩
    · subst hx
      have hzB : decide (histE (l ++ [⟨f, s, v, g⟩]) = 0) = false := decide_eq_false hz2
      have hzT : decide (histE l = 0) = true := decide_eq_true hz
      go_wp2_with fail
      refine (check_ref a2 (n + 1) c2 (l ++ [⟨f, s, v, g⟩]) W HCA.out (by have := HN.out; simp [this]) (by have := HS.out; unfold maxLen; omega)).mono ?_
      rintro e w5 ⟨rfl, hb5⟩
      have HB5 := Lib.hid (HB4.out.trans (hb5.mono HB4.out.size))
      clear hb5
      go_wp2_with fail
      refine (begun_any _).mono ?_
      rintro e w6 ⟨rfl, hb6⟩
      have HB6 := Lib.hid (HB5.out.trans (hb6.mono HB5.out.size))
      clear hb6
      go_wp2_with fail
      refine (begun_any _).mono ?_
      rintro e w7 ⟨rfl, hb7⟩
      have HB7 := Lib.hid (HB6.out.trans (hb7.mono HB6.out.size))
      clear hb7
      go_wp2_with fail
      go_ret
      exact ⟨rfl, HB7.out⟩
    · subst hx
      have HX4 := Lib.hid ((hr.below HB12.out hr.1).below HB24.out (Nat.lt_of_lt_of_le hr.1 HB12.out.size))
      obtain ⟨b2, o2, rfl, hy⟩ : ∃ b2 o2, a2 = some ⟨b2, o2, none⟩ ∧ RAt W b2 o2 (l ++ [⟨f, s, v, g⟩]) := by
        rcases HCA.out with h | h
        · simp at h
        · exact h
      have HY4 := Lib.hid hy
      have HLEN : Hid ((l ++ [(⟨f, s, v, g⟩ : Rw)]).length = n + 1) := by have := HN.out; simp [Hid, this]
      have hzT : decide (histE l = 0) = true := decide_eq_true hz
      have HZ2 := Lib.hid hz2
      have hn50 : n + 1 ≤ 50 := by have := (histE_ok hz2).1; rw [HLEN.out] at this; exact this
      clear hr hy hz2
      rw [show l.length + 1 = n + 1 from by rw [HN.out]]
      generalize (l ++ [(⟨f, s, v, g⟩ : Rw)]) = L at *
      go_wp2_with fail
      refine (check_ref (some ⟨b2, o2, none⟩) (n + 1) c2 L W HCA.out HLEN.out (by unfold maxLen; omega)).mono ?_
      rintro e w5 ⟨rfl, hb5⟩
      have HB5 := Lib.hid (HB4.out.trans (hb5.mono HB4.out.size))
      have HX5 := Lib.hid (HX4.out.below hb5 HX4.out.1)
      have HY5 := Lib.hid (HY4.out.below hb5 HY4.out.1)
      clear hb5
      rw [HZ2.out]
      go_wp2_with fail
      refine (begun_any _).mono ?_
      rintro e w6 ⟨rfl, hb6⟩
      have HB6 := Lib.hid (HB5.out.trans (hb6.mono HB5.out.size))
      have HX6 := Lib.hid (HX5.out.below hb6 HX5.out.1)
      have HY6 := Lib.hid (HY5.out.below hb6 HY5.out.1)
      clear hb6
      go_wp2_with fail
      go_loopw [9] (fun i wr => ∃ k : Nat, k ≤ n + 1 ∧ i = .int .i64 k ∧ RAt wr G 0 L ∧ RAt wr b2 o2 L ∧ Below w.heap.size w wr) (fun i _ => n + 1 - (intOf i).toNat)
      case atStart => exact ⟨0, Nat.zero_le _, rfl, HX6.out, HY6.out, HB6.out⟩
      case round =>
        obtain ⟨k, hk, rfl, hx7, hy7, hb7⟩ := hrel
        have HX7 := Lib.hid hx7
        have HY7 := Lib.hid hy7
        have HB7 := Lib.hid hb7
        clear hx7 hy7 hb7
        by_cases hlt : k < n + 1
        · have hlt' : (k : Int) < (n : Int) + 1 := by omega
          obtain ⟨p0, p1, p2, p3⟩ := HX7.out.2 k (by rw [HLEN.out]; exact hlt)
          obtain ⟨q0, q1, q2, q3⟩ := HY7.out.2 k (by rw [HLEN.out]; exact hlt)
          simp only [Nat.zero_add] at p0 p1 p2 p3
          go_wp2_with fail
          go_quiet (fail)
          go_wp2_with fail
          go_roundw
          case rel => exact ⟨k + 1, by omega, by go_num, HX7.out, HY7.out, below_dN HB7.out _⟩
          case measure => simp [intOf]; omega
        · obtain rfl : k = n + 1 := by omega
          go_wp2_with fail
          go_ret
          exact ⟨rfl, HB7.out⟩
end Go.Proofs.Ytjokgohnpnhhdaa
