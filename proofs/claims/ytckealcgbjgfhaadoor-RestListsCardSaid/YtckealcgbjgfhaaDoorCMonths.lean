/-
  Promise B3: the day so many months on; walks of Months and of the reference's MonthsOn.
-/
import Derived.Test.YtckealcgbjgfhaaDoorCDay
import Derived.Test.YtckealcgbjgfhaaDoorCPrint
import Derived.Deep.RegionHeld3
namespace Go.Proofs.YtckealcgbjgfhaaDoor
open Go.RowKit Go.Maps

/-- How many months there are ahead of a month, with n more. -/
def mIdx (k m : Nat) (n : Int) : Int := 12 * (k : Int) + (m : Int) - 1 + n
/-- The same day of the month with M months ahead of it, or its last one. -/
def mDay (M d : Int) : Int := dayN (2000 + M / 12) (M % 12 + 1) (min d (md (2000 + M / 12) (M % 12 + 1)))
/-- What Months answers. -/
def MonE (x n r e : Int) : Prop :=
  ((dayB x = false ∨ n < -2400 ∨ 2400 < n) ∧ r = 0 ∧ e = 3) ∨
  (-2400 ≤ n ∧ n ≤ 2400 ∧ ∃ (k m : Nat) (d : Int), IsCivil x k m d ∧ (((mIdx k m n < 0 ∨ 2400 ≤ mIdx k m n) ∧ r = 0 ∧ e = 3) ∨ (0 ≤ mIdx k m n ∧ mIdx k m n < 2400 ∧ r = mDay (mIdx k m n) d ∧ e = 0)))
theorem civil_dayB {x : Int} {k m : Nat} {d : Int} (h : IsCivil x k m d) : dayB x = true := by
  have := h.day
  unfold dayB
  exact decide_eq_true this
theorem MonE.unique {x n r e r' e' : Int} (h : MonE x n r e) (h' : MonE x n r' e') : r = r' ∧ e = e' := by
  rcases h with ⟨a, b, c⟩ | ⟨a0, a1, k, m, d, hc, hr⟩ <;> rcases h' with ⟨a', b', c'⟩ | ⟨a0', a1', k', m', d', hc', hr'⟩
  · exact ⟨by omega, by omega⟩
  · have := civil_dayB hc'
    rcases a with a | a | a
    · rw [this] at a; cases a
    · omega
    · omega
  · have := civil_dayB hc
    rcases a' with a | a | a
    · rw [this] at a; cases a
    · omega
    · omega
  · obtain ⟨rfl, rfl, rfl⟩ := hc.unique hc'
    rcases hr with ⟨p, q, s⟩ | ⟨p, p', q, s⟩ <;> rcases hr' with ⟨u, v, t⟩ | ⟨u, u', v, t⟩
    · exact ⟨by omega, by omega⟩
    · omega
    · omega
    · exact ⟨by omega, by omega⟩
theorem mDay_date {M d : Int} (h0 : 0 ≤ M) (h1 : M < 2400) (hd : 1 ≤ d) : dateB (2000 + M / 12) (M % 12 + 1) (min d (md (2000 + M / 12) (M % 12 + 1))) = true := by
  have := md_bd (2000 + M / 12) (M % 12 + 1)
  exact dateB_iff.2 ⟨by omega, by omega, by omega, by omega, by omega, by omega⟩

set_option maxRecDepth 100000 in
set_option maxHeartbeats 2000000 in
theorem Months_any (x n : Int) (w : World) :
    Calls Tryd.prog 36 #[.int .i64 x, .int .i64 n] w fun e w' => ∃ r er : Int, e = .returned (.tuple #[.int .i64 r, .int .i64 er]) ∧ MonE x n r er ∧ Below w.heap.size w w' := by
  cases hx : dayB x
  · go_enter Tryd.func36, Tryd.ntmps36
    go_wp2_with fail
    refine (Civil_bad x w hx).mono ?_
    rintro e w1 ⟨rfl, hb1⟩
    have HB := Lib.hid (hb1.alloc hb1.size (.cells #[.int .i64 0, .int .i64 0, .int .i64 0] 66))
    clear hb1
    go_wp2_with fail
    go_ret2
    exact ⟨_, _, rfl, .inl ⟨.inl hx, rfl, rfl⟩, HB.out⟩
  · by_cases hn0 : n < -2400
    · go_enter Tryd.func36, Tryd.ntmps36
      go_wp2_with fail
      refine (Civil_ok x w hx).mono ?_
      rintro e w1 ⟨k, m, d, rfl, hc, hb1⟩
      have HB := Lib.hid (hb1.alloc hb1.size (.cells #[.int .i64 (2000 + (k : Int)), .int .i64 (m : Int), .int .i64 d] 66))
      clear hb1 hc
      go_wp2_with fail
      go_ret2
      exact ⟨_, _, rfl, .inl ⟨.inr (.inl hn0), rfl, rfl⟩, HB.out⟩
    · by_cases hn1 : 2400 < n
      · have hn0B : decide (n < -2400) = false := decide_eq_false hn0
        go_enter Tryd.func36, Tryd.ntmps36
        go_wp2_with fail
        refine (Civil_ok x w hx).mono ?_
        rintro e w1 ⟨k, m, d, rfl, hc, hb1⟩
        have HB := Lib.hid (hb1.alloc hb1.size (.cells #[.int .i64 (2000 + (k : Int)), .int .i64 (m : Int), .int .i64 d] 66))
        clear hb1 hc
        go_wp2_with fail
        go_ret2
        exact ⟨_, _, rfl, .inl ⟨.inr (.inr hn1), rfl, rfl⟩, HB.out⟩
      · have hn0B : decide (n < -2400) = false := decide_eq_false hn0
        have hn1B : decide (2400 < n) = false := decide_eq_false hn1
        go_enter Tryd.func36, Tryd.ntmps36
        go_wp2_with fail
        refine (Civil_ok x w hx).mono ?_
        rintro e w1 ⟨k, m, d, rfl, hc, hb1⟩
        have HB := Lib.hid (hb1.alloc hb1.size (.cells #[.int .i64 (2000 + (k : Int)), .int .i64 (m : Int), .int .i64 d] 66))
        have HC := Lib.hid hc
        have hk := hc.k1
        have hm1 := hc.m1
        have hm2 := hc.m2
        have hd1 := hc.d1
        have hd31 : d ≤ 31 := by have := hc.d2; have := md_bd (2000 + (k : Int)) m; omega
        clear hb1 hc
        have hs1 : (2000 + (k : Int) - 2000) = (k : Int) := by omega
        have HI : Hid (mIdx k m n = 12 * (k : Int) + (m : Int) - 1 + n) := rfl
        by_cases hM0 : 12 * (k : Int) + (m : Int) - 1 + n < 0
        · go_wp2_with fail
          go_ret2
          exact ⟨_, _, rfl, .inr ⟨by omega, by omega, k, m, d, HC.out, .inl ⟨.inl (by rw [HI.out]; exact hM0), rfl, rfl⟩⟩, HB.out⟩
        · have hM0B : decide (12 * (k : Int) + (m : Int) - 1 + n < 0) = false := decide_eq_false hM0
          by_cases hM1 : 2400 ≤ 12 * (k : Int) + (m : Int) - 1 + n
          · go_wp2_with fail
            go_ret2
            exact ⟨_, _, rfl, .inr ⟨by omega, by omega, k, m, d, HC.out, .inl ⟨.inr (by rw [HI.out]; exact hM1), rfl, rfl⟩⟩, HB.out⟩
          · have hM1B : decide (2400 ≤ 12 * (k : Int) + (m : Int) - 1 + n) = false := decide_eq_false hM1
            have c0 : (w1.alloc (.cells #[.int .i64 (2000 + (k : Int)), .int .i64 (m : Int), .int .i64 d] 66)).cell? ⟨w1.heap.size, 0, none⟩ = some (.int .i64 (2000 + (k : Int))) := by simp
            have c1 : (w1.alloc (.cells #[.int .i64 (2000 + (k : Int)), .int .i64 (m : Int), .int .i64 d] 66)).cell? ⟨w1.heap.size, 1, none⟩ = some (.int .i64 (m : Int)) := by simp
            have c2 : (w1.alloc (.cells #[.int .i64 (2000 + (k : Int)), .int .i64 (m : Int), .int .i64 d] 66)).cell? ⟨w1.heap.size, 2, none⟩ = some (.int .i64 d) := by simp
            have HD := Lib.hid (mDay_date (M := 12 * (k : Int) + (m : Int) - 1 + n) (d := d) (by omega) (by omega) hd1)
            have HR : Hid (mDay (mIdx k m n) d = dayN (2000 + (12 * (k : Int) + (m : Int) - 1 + n) / 12) ((12 * (k : Int) + (m : Int) - 1 + n) % 12 + 1) (min d (md (2000 + (12 * (k : Int) + (m : Int) - 1 + n) / 12) ((12 * (k : Int) + (m : Int) - 1 + n) % 12 + 1)))) := rfl
            have hpos : 0 ≤ 12 * (k : Int) + (m : Int) - 1 + n := by omega
            have hmd := md_bd (2000 + (12 * (k : Int) + (m : Int) - 1 + n) / 12) ((12 * (k : Int) + (m : Int) - 1 + n) % 12 + 1)
            go_wp2_with fail
            have hg : w1.heap.size < (w1.alloc (.cells #[.int .i64 (2000 + (k : Int)), .int .i64 (m : Int), .int .i64 d] 66)).heap.size := by simp
            generalize (w1.alloc (.cells #[.int .i64 (2000 + (k : Int)), .int .i64 (m : Int), .int .i64 d] 66)) = W at *
            generalize w1.heap.size = g at *
            generalize 12 * (k : Int) + (m : Int) - 1 + n = M at *
            generalize hY : 2000 + M / 12 = Y at *
            generalize hL : M % 12 + 1 = L at *
            have hY0 : 0 ≤ Y := by omega
            clear hY hL hs1 hk hm1 hm2 hn0B hn1B hM0B hM1B c0 c1
            by_cases hdm : md Y L < d
            · have HDV : Hid (dateB Y L (md Y L) = true) := by have := HD.out; rwa [show min d (md Y L) = md Y L from by omega] at this
              have HDI : Hid (dateB Y L (if md Y L < d then md Y L else d) = true) := by unfold Hid; rw [if_pos hdm]; exact HDV.out
              have HRV : Hid (mDay (mIdx k m n) d = dayN Y L (md Y L)) := by have := HR.out; rwa [show min d (md Y L) = md Y L from by omega] at this
              have HRI : Hid (mDay (mIdx k m n) d = dayN Y L (if md Y L < d then md Y L else d)) := by unfold Hid; rw [if_pos hdm]; exact HRV.out
              go_region_held3 (fun w' => w'.cell? ⟨g, 2, none⟩ = some (.int .i64 d)) (go_keep)
                (first
                  | (go_at_call 43; refine (monthDays_any _ _ _ hY0).mono ?_; rintro e w2 ⟨rfl, rfl⟩)
                  | (go_at_call 42; refine (Day_ok _ _ _ _ ?_).mono ?_; (first | (with_reducible exact HDV.out) | (with_reducible exact HDI.out) | (with_reducible exact HD.out)); rintro e w3 ⟨rfl, hb3⟩; have HB3 := Lib.hid (from_drew hb3); clear hb3; have a2 : w3.cell? ⟨g, 2, none⟩ = some (.int .i64 d) := (HB3.out.cell (p := ⟨g, 2, none⟩) hg).trans c2))
              all_goals go_wp2_with fail
              all_goals go_ret2
              all_goals exact ⟨_, _, rfl, .inr ⟨by omega, by omega, k, m, d, HC.out, .inr ⟨by rw [HI.out]; omega, by rw [HI.out]; omega, (by first | (with_reducible exact HRV.out.symm) | (with_reducible exact HRI.out.symm) | (with_reducible exact HR.out.symm)), rfl⟩⟩, HB.out.trans (HB3.out.mono HB.out.size)⟩
            · have hdmB : decide (md Y L < d) = false := decide_eq_false hdm
              have HDV : Hid (dateB Y L d = true) := by have := HD.out; rwa [show min d (md Y L) = d from by omega] at this
              have HDI : Hid (dateB Y L (if md Y L < d then md Y L else d) = true) := by unfold Hid; rw [if_neg hdm]; exact HDV.out
              have HRV : Hid (mDay (mIdx k m n) d = dayN Y L d) := by have := HR.out; rwa [show min d (md Y L) = d from by omega] at this
              have HRI : Hid (mDay (mIdx k m n) d = dayN Y L (if md Y L < d then md Y L else d)) := by unfold Hid; rw [if_neg hdm]; exact HRV.out
              go_region_held3 (fun w' => w'.cell? ⟨g, 2, none⟩ = some (.int .i64 d)) (go_keep)
                (first
                  | (go_at_call 43; refine (monthDays_any _ _ _ hY0).mono ?_; rintro e w2 ⟨rfl, rfl⟩)
                  | (go_at_call 42; refine (Day_ok _ _ _ _ ?_).mono ?_; (first | (with_reducible exact HDV.out) | (with_reducible exact HDI.out) | (with_reducible exact HD.out)); rintro e w3 ⟨rfl, hb3⟩; have HB3 := Lib.hid (from_drew hb3); clear hb3; have a2 : w3.cell? ⟨g, 2, none⟩ = some (.int .i64 d) := (HB3.out.cell (p := ⟨g, 2, none⟩) hg).trans c2))
              all_goals go_wp2_with fail
              all_goals go_ret2
              all_goals exact ⟨_, _, rfl, .inr ⟨by omega, by omega, k, m, d, HC.out, .inr ⟨by rw [HI.out]; omega, by rw [HI.out]; omega, (by first | (with_reducible exact HRV.out.symm) | (with_reducible exact HRI.out.symm) | (with_reducible exact HR.out.symm)), rfl⟩⟩, HB.out.trans (HB3.out.mono HB.out.size)⟩
end Go.Proofs.YtckealcgbjgfhaaDoor
