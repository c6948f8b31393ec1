/-
  Promise B3: the walk of the reference's MonthsOn.
-/
import Derived.Test.YtllghjmiaddekaaDoorCMonths
import Derived.Test.YtllghjmiaddekaaDoorCRefC
namespace Go.Proofs.YtllghjmiaddekaaDoor
open Go.RowKit Go.Maps

/-- A date in a box of the call's own: three cells that may be written. -/
def Box (w : World) (g : Nat) (y m d : Int) : Prop := (w.cell? ⟨g, 0, none⟩ = some (.int .i64 y) ∧ w.frozen? ⟨g, 0, none⟩ = false) ∧ (w.cell? ⟨g, 1, none⟩ = some (.int .i64 m) ∧ w.frozen? ⟨g, 1, none⟩ = false) ∧ (w.cell? ⟨g, 2, none⟩ = some (.int .i64 d) ∧ w.frozen? ⟨g, 2, none⟩ = false)
theorem Box.made (w : World) (y m d : Int) (t : TypeId) : Box (w.alloc (.cells #[.int .i64 y, .int .i64 m, .int .i64 d] t)) w.heap.size y m d := by
  refine ⟨⟨?_, ?_⟩, ⟨?_, ?_⟩, ⟨?_, ?_⟩⟩ <;> simp
theorem Box.setM {w : World} {g : Nat} {y m d : Int} (h : Box w g y m d) (v : Int) : Box (w.setCell ⟨g, 1, none⟩ (.int .i64 v)) g y v d := by
  obtain ⟨⟨a0, b0⟩, ⟨a1, b1⟩, ⟨a2, b2⟩⟩ := h
  have n01 : (⟨g, 1, none⟩ : Addr) ≠ ⟨g, 0, none⟩ := by simp
  have n12 : (⟨g, 1, none⟩ : Addr) ≠ ⟨g, 2, none⟩ := by simp
  refine ⟨⟨?_, ?_⟩, ⟨?_, ?_⟩, ⟨?_, ?_⟩⟩
  · rw [World.cell?_setCell_other (h := n01)]; exact a0
  · rw [World.frozen?_setCell]; exact b0
  · exact World.cell?_setCell_same _ _ _ a1
  · rw [World.frozen?_setCell]; exact b1
  · rw [World.cell?_setCell_other (h := n12)]; exact a2
  · rw [World.frozen?_setCell]; exact b2
theorem Box.setY {w : World} {g : Nat} {y m d : Int} (h : Box w g y m d) (v : Int) : Box (w.setCell ⟨g, 0, none⟩ (.int .i64 v)) g v m d := by
  obtain ⟨⟨a0, b0⟩, ⟨a1, b1⟩, ⟨a2, b2⟩⟩ := h
  have n01 : (⟨g, 0, none⟩ : Addr) ≠ ⟨g, 1, none⟩ := by simp
  have n02 : (⟨g, 0, none⟩ : Addr) ≠ ⟨g, 2, none⟩ := by simp
  refine ⟨⟨?_, ?_⟩, ⟨?_, ?_⟩, ⟨?_, ?_⟩⟩
  · exact World.cell?_setCell_same _ _ _ a0
  · rw [World.frozen?_setCell]; exact b0
  · rw [World.cell?_setCell_other (h := n01)]; exact a1
  · rw [World.frozen?_setCell]; exact b1
  · rw [World.cell?_setCell_other (h := n02)]; exact a2
  · rw [World.frozen?_setCell]; exact b2
theorem Box.setD {w : World} {g : Nat} {y m d : Int} (h : Box w g y m d) (v : Int) : Box (w.setCell ⟨g, 2, none⟩ (.int .i64 v)) g y m v := by
  obtain ⟨⟨a0, b0⟩, ⟨a1, b1⟩, ⟨a2, b2⟩⟩ := h
  have n01 : (⟨g, 2, none⟩ : Addr) ≠ ⟨g, 0, none⟩ := by simp
  have n02 : (⟨g, 2, none⟩ : Addr) ≠ ⟨g, 1, none⟩ := by simp
  refine ⟨⟨?_, ?_⟩, ⟨?_, ?_⟩, ⟨?_, ?_⟩⟩
  · rw [World.cell?_setCell_other (h := n01)]; exact a0
  · rw [World.frozen?_setCell]; exact b0
  · rw [World.cell?_setCell_other (h := n02)]; exact a1
  · rw [World.frozen?_setCell]; exact b1
  · exact World.cell?_setCell_same _ _ _ a2
  · rw [World.frozen?_setCell]; exact b2
theorem Box.below {w w' : World} {g : Nat} {y m d : Int} (h : Box w g y m d) (hb : Below w.heap.size w w') : Box w' g y m d := by
  obtain ⟨⟨a0, b0⟩, ⟨a1, b1⟩, ⟨a2, b2⟩⟩ := h
  have hg : g < w.heap.size := lt_of_cell a0
  exact ⟨⟨(hb.cell (p := ⟨g, 0, none⟩) hg).trans a0, (hb.frozen (p := ⟨g, 0, none⟩) hg).trans b0⟩, ⟨(hb.cell (p := ⟨g, 1, none⟩) hg).trans a1, (hb.frozen (p := ⟨g, 1, none⟩) hg).trans b1⟩, ⟨(hb.cell (p := ⟨g, 2, none⟩) hg).trans a2, (hb.frozen (p := ⟨g, 2, none⟩) hg).trans b2⟩⟩

theorem step_month (Y M n : Int) (h : 12 * Y + M - 1 = n) (h1 : 1 ≤ M) (h2 : M ≤ 12) : Y = n / 12 ∧ M = n % 12 + 1 := by omega

set_option maxRecDepth 100000 in
set_option maxHeartbeats 4000000 in
theorem monthsOn_ref (x n : Int) (w : World) :
    Calls Tryd.prog 29 #[.int .i64 x, .int .i64 n] w fun e w' => ∃ r er : Int, e = .returned (.tuple #[.int .i64 r, .int .i64 er]) ∧ MonE x n r er ∧ Below w.heap.size w w' := by
  cases hx : dayB x
  · go_enter Tryd.func29, Tryd.ntmps29
    go_wp2_with (go_at_call 41; refine (isDay_ref _ _).mono ?_; rintro e w' ⟨rfl, h'⟩; subst w')
    go_ret2
    exact ⟨_, _, rfl, .inl ⟨.inl hx, rfl, rfl⟩, Below.refl _ _⟩
  · by_cases hn0 : n < -2400
    · go_enter Tryd.func29, Tryd.ntmps29
      go_wp2_with (go_at_call 41; refine (isDay_ref _ _).mono ?_; rintro e w' ⟨rfl, h'⟩; subst w')
      go_ret2
      exact ⟨_, _, rfl, .inl ⟨.inr (.inl hn0), rfl, rfl⟩, Below.refl _ _⟩
    · have hn0B : decide (n < -2400) = false := decide_eq_false hn0
      by_cases hn1 : 2400 < n
      · go_enter Tryd.func29, Tryd.ntmps29
        go_wp2_with (go_at_call 41; refine (isDay_ref _ _).mono ?_; rintro e w' ⟨rfl, h'⟩; subst w')
        go_ret2
        exact ⟨_, _, rfl, .inl ⟨.inr (.inr hn1), rfl, rfl⟩, Below.refl _ _⟩
      · have hn1B : decide (2400 < n) = false := decide_eq_false hn1
        go_enter Tryd.func29, Tryd.ntmps29
        go_wp2_with (go_at_call 41; refine (isDay_ref _ _).mono ?_; rintro e w' ⟨rfl, h'⟩; subst w')
        refine (civil_ref x _ hx).mono ?_
        rintro e w1 ⟨k, m, d, rfl, hc, hb1⟩
        have HB := Lib.hid (hb1.alloc hb1.size (.cells #[.int .i64 (2000 + (k : Int)), .int .i64 (m : Int), .int .i64 d] 23))
        have HX := Lib.hid (Box.made w1 (2000 + (k : Int)) (m : Int) d 23)
        have hg : w.heap.size ≤ w1.heap.size := hb1.size
        have HC := Lib.hid hc
        have hk := hc.k1
        have hm1 := hc.m1
        have hm2 := hc.m2
        have hd1 := hc.d1
        have hd31 : d ≤ 31 := by have := hc.d2; have := md_bd (2000 + (k : Int)) m; omega
        have HI : Hid (mIdx k m n = 12 * (k : Int) + (m : Int) - 1 + n) := rfl
        clear hb1 hc
        go_wp2_with fail
        generalize w1.heap.size = g at *
        go_loopw [1] (fun i wr => ∃ q Y M : Int, i = .int .i64 q ∧ Box wr g Y M d ∧ Below w.heap.size w wr ∧ 1 ≤ M ∧ M ≤ 12 ∧ 12 * Y + M + q = 12 * (2000 + (k : Int)) + (m : Int) + n ∧ -2400 ≤ q ∧ q ≤ n ∧ (q = n ∨ 0 ≤ q)) (fun i _ => (intOf i).toNat)
        case atStart => exact ⟨n, 2000 + (k : Int), (m : Int), rfl, HX.out, HB.out, by omega, by omega, by omega, by omega, by omega, .inl rfl⟩
        case round =>
          obtain ⟨q, Y, M, rfl, hbox, hbel, hM1, hM2, hsum, hq0, hq1, hq2⟩ := hrel
          have HBX := Lib.hid hbox
          have HBL := Lib.hid hbel
          clear hbox hbel
          obtain ⟨⟨a0, b0⟩, ⟨a1, b1⟩, ⟨a2, b2⟩⟩ := HBX.out
          by_cases hq : 0 < q
          · by_cases h12 : M = 12
            · subst h12
              have s1 := HBX.out.setM 13
              have s2 := s1.setM 1
              have HS := Lib.hid (s2.setY (Y + 1))
              have HL := Lib.hid (((HBL.out.setCell (p := ⟨g, 1, none⟩) hg (.int .i64 13)).setCell (p := ⟨g, 1, none⟩) hg (.int .i64 1)).setCell (p := ⟨g, 0, none⟩) hg (.int .i64 (Y + 1)))
              obtain ⟨⟨_, _⟩, ⟨p1, p1'⟩, _⟩ := s1
              obtain ⟨⟨p2, p2'⟩, _, _⟩ := s2
              have hY : Y + 1 ≤ 100000 := by omega
              have hY' : -100000 ≤ Y := by omega
              go_wp2_with fail
              go_roundw
              case rel => exact ⟨q - 1, Y + 1, 1, by go_num, HS.out, HL.out, by omega, by omega, by omega, by omega, by omega, by omega⟩
              case measure => simp [intOf]; omega
            · have s1 := HBX.out.setM (M + 1)
              have HS := Lib.hid s1
              have HL := Lib.hid (HBL.out.setCell (p := ⟨g, 1, none⟩) hg (.int .i64 (M + 1)))
              obtain ⟨⟨_, _⟩, ⟨p1, p1'⟩, _⟩ := s1
              have hMB : decide (12 < M + 1) = false := decide_eq_false (by omega)
              go_wp2_with fail
              go_roundw
              case rel => exact ⟨q - 1, Y, M + 1, by go_num, HS.out, HL.out, by omega, by omega, by omega, by omega, by omega, by omega⟩
              case measure => simp [intOf]; omega
          · have hqB : decide (0 < q) = false := decide_eq_false hq
            go_wp2_with fail
            clear a0 b0 a1 b1 a2 b2
            go_loopw [1] (fun i wr => ∃ q Y M : Int, i = .int .i64 q ∧ Box wr g Y M d ∧ Below w.heap.size w wr ∧ 1 ≤ M ∧ M ≤ 12 ∧ 12 * Y + M + q = 12 * (2000 + (k : Int)) + (m : Int) + n ∧ -2400 ≤ q ∧ q ≤ 0) (fun i _ => (- intOf i).toNat)
            case atStart => exact ⟨q, Y, M, rfl, HBX.out, HBL.out, hM1, hM2, hsum, hq0, by omega⟩
            case round =>
              clear HBX HBL hsum hM1 hM2 hq0 hq1 hq2 hq hqB
              obtain ⟨q, Y, M, rfl, hbox, hbel, hM1, hM2, hsum, hq0, hq1⟩ := hrel
              have HBX := Lib.hid hbox
              have HBL := Lib.hid hbel
              clear hbox hbel
              obtain ⟨⟨a0, b0⟩, ⟨a1, b1⟩, ⟨a2, b2⟩⟩ := HBX.out
              by_cases hq : q < 0
              · by_cases h12 : M = 1
                · subst h12
                  have s1 := HBX.out.setM 0
                  have s2 := s1.setM 12
                  have HS := Lib.hid (s2.setY (Y - 1))
                  have HL := Lib.hid (((HBL.out.setCell (p := ⟨g, 1, none⟩) hg (.int .i64 0)).setCell (p := ⟨g, 1, none⟩) hg (.int .i64 12)).setCell (p := ⟨g, 0, none⟩) hg (.int .i64 (Y - 1)))
                  obtain ⟨⟨_, _⟩, ⟨p1, p1'⟩, _⟩ := s1
                  obtain ⟨⟨p2, p2'⟩, _, _⟩ := s2
                  have hY : Y ≤ 100000 := by omega
                  have hY' : -100000 ≤ Y := by omega
                  go_wp2_with fail
                  go_roundw
                  case rel => exact ⟨q + 1, Y - 1, 12, by go_num, HS.out, HL.out, by omega, by omega, by omega, by omega, by omega⟩
                  case measure => simp [intOf]; omega
                · have s1 := HBX.out.setM (M - 1)
                  have HS := Lib.hid s1
                  have HL := Lib.hid (HBL.out.setCell (p := ⟨g, 1, none⟩) hg (.int .i64 (M - 1)))
                  obtain ⟨⟨_, _⟩, ⟨p1, p1'⟩, _⟩ := s1
                  have hMB : decide (M - 1 < 1) = false := decide_eq_false (by omega)
                  go_wp2_with fail
                  go_roundw
                  case rel => exact ⟨q + 1, Y, M - 1, by go_num, HS.out, HL.out, by omega, by omega, by omega, by omega, by omega⟩
                  case measure => simp [intOf]; omega
              · have hqB : decide (q < 0) = false := decide_eq_false hq
                have hq' : q = 0 := by omega
                subst hq'
                have hst := step_month (Y - 2000) M (12 * (k : Int) + (m : Int) - 1 + n) (by omega) hM1 hM2
                by_cases hY0 : Y < 2000
                · go_wp2_with fail
                  go_ret2
                  exact ⟨_, _, rfl, .inr ⟨by omega, by omega, k, m, d, HC.out, .inl ⟨.inl (by rw [HI.out]; omega), rfl, rfl⟩⟩, HBL.out⟩
                · have hY0B : decide (Y < 2000) = false := decide_eq_false hY0
                  by_cases hY1 : 2199 < Y
                  · go_wp2_with fail
                    go_ret2
                    exact ⟨_, _, rfl, .inr ⟨by omega, by omega, k, m, d, HC.out, .inl ⟨.inr (by rw [HI.out]; omega), rfl, rfl⟩⟩, HBL.out⟩
                  · have hY1B : decide (2199 < Y) = false := decide_eq_false hY1
                    have HR : Hid (mDay (mIdx k m n) d = dayN Y M (min d (md Y M))) := by
                      unfold Hid mDay
                      rw [HI.out, ← hst.1, ← hst.2, show 2000 + (Y - 2000) = Y from by omega]
                    have HM2 : Hid (0 ≤ mIdx k m n ∧ mIdx k m n < 2400) := by unfold Hid; rw [HI.out]; omega
                    have HD := Lib.hid (mDay_date (M := 12 * (k : Int) + (m : Int) - 1 + n) (d := d) (by omega) (by omega) hd1)
                    rw [← hst.1, ← hst.2, show 2000 + (Y - 2000) = Y from by omega] at HD
                    clear hst hsum
                    have hmd := md_bd Y M
                    have hgw : g < wr.heap.size := lt_of_cell a0
                    by_cases hdm : md Y M < d
                    · have hmin : min d (md Y M) = md Y M := by omega
                      rw [hmin] at HD HR
                      clear hmin
                      go_wp2_with fail
                      go_region_held3 (fun w' => w'.cell? ⟨g, 0, none⟩ = some (.int .i64 Y) ∧ w'.cell? ⟨g, 1, none⟩ = some (.int .i64 M) ∧ w'.cell? ⟨g, 2, none⟩ = some (.int .i64 d)) (go_keep)
                          (first
                            | (go_at_call 36; refine (monthDays_ref _ _ _ ?_ ?_ ?_).mono ?_; omega; omega; omega; rintro e w3 ⟨rfl, hb3⟩
                               have HB3 := Lib.hid (from_drew hb3); clear hb3
                               have e0 : w3.cell? ⟨g, 0, none⟩ = some (.int .i64 Y) := (HB3.out.cell (p := ⟨g, 0, none⟩) hgw).trans a0
                               have e1 : w3.cell? ⟨g, 1, none⟩ = some (.int .i64 M) := (HB3.out.cell (p := ⟨g, 1, none⟩) hgw).trans a1
                               have e2 : w3.cell? ⟨g, 2, none⟩ = some (.int .i64 d) := (HB3.out.cell (p := ⟨g, 2, none⟩) hgw).trans a2))
                      have HX3 := Lib.hid (HBX.out.below HB3.out)
                      have HL3 := Lib.hid (HBL.out.trans (HB3.out.mono HBL.out.size))
                      go_wp2_with fail
                      refine (monthDays_ref Y M _ (by omega) (by omega) (by omega)).mono ?_
                      rintro e w4 ⟨rfl, hb4⟩
                      have HX4 := Lib.hid (HX3.out.below hb4)
                      have HL4 := Lib.hid (HL3.out.trans (hb4.mono HL3.out.size))
                      clear hb4 e0 e1 e2 a0 a1 a2 b0 b1 b2
                      obtain ⟨⟨e0, f0⟩, ⟨e1, f1⟩, ⟨e2, f2⟩⟩ := HX4.out
                      obtain ⟨⟨t0, _⟩, ⟨t1, _⟩, ⟨t2, _⟩⟩ := HX4.out.setD (md Y M)
                      have HL5 := Lib.hid (HL4.out.setCell (p := ⟨g, 2, none⟩) hg (.int .i64 (md Y M)))
                      go_wp2_with fail
                      refine (dayOf_ref Y M (md Y M) _ HD.out).mono ?_
                      rintro e w5 ⟨rfl, hb5⟩
                      have HL6 := Lib.hid (HL5.out.trans (hb5.mono HL5.out.size))
                      clear hb5
                      go_wp2_with fail
                      go_ret2
                      exact ⟨_, _, rfl, .inr ⟨by omega, by omega, k, m, d, HC.out, .inr ⟨HM2.out.1, HM2.out.2, HR.out.symm, rfl⟩⟩, HL6.out⟩
                    · have hdmB : decide (md Y M < d) = false := decide_eq_false hdm
                      have hmin : min d (md Y M) = d := by omega
                      rw [hmin] at HD HR
                      clear hmin
                      go_wp2_with fail
                      go_region_held3 (fun w' => w'.cell? ⟨g, 0, none⟩ = some (.int .i64 Y) ∧ w'.cell? ⟨g, 1, none⟩ = some (.int .i64 M) ∧ w'.cell? ⟨g, 2, none⟩ = some (.int .i64 d)) (go_keep)
                          (first
                            | (go_at_call 36; refine (monthDays_ref _ _ _ ?_ ?_ ?_).mono ?_; omega; omega; omega; rintro e w3 ⟨rfl, hb3⟩
                               have HB3 := Lib.hid (from_drew hb3); clear hb3
                               have e0 : w3.cell? ⟨g, 0, none⟩ = some (.int .i64 Y) := (HB3.out.cell (p := ⟨g, 0, none⟩) hgw).trans a0
                               have e1 : w3.cell? ⟨g, 1, none⟩ = some (.int .i64 M) := (HB3.out.cell (p := ⟨g, 1, none⟩) hgw).trans a1
                               have e2 : w3.cell? ⟨g, 2, none⟩ = some (.int .i64 d) := (HB3.out.cell (p := ⟨g, 2, none⟩) hgw).trans a2))
                      have HX3 := Lib.hid (HBX.out.below HB3.out)
                      have HL3 := Lib.hid (HBL.out.trans (HB3.out.mono HBL.out.size))
                      go_wp2_with fail
                      refine (dayOf_ref Y M d _ HD.out).mono ?_
                      rintro e w5 ⟨rfl, hb5⟩
                      have HL6 := Lib.hid (HL3.out.trans (hb5.mono HL3.out.size))
                      clear hb5
                      go_wp2_with fail
                      go_ret2
                      exact ⟨_, _, rfl, .inr ⟨by omega, by omega, k, m, d, HC.out, .inr ⟨HM2.out.1, HM2.out.2, HR.out.symm, rfl⟩⟩, HL6.out⟩
end Go.Proofs.YtllghjmiaddekaaDoor
