/-
  Promise C4: the walk of Prorate.
-/
import Derived.Test.YtckealcgbjgfhaaDoorPOver
namespace Go.Proofs.YtckealcgbjgfhaaDoor
open Go.RowKit Go.Maps

def monB (n : Int) : Bool := decide (-1000000000000 ≤ n ∧ n ≤ 1000000000000)
theorem monB_iff {x : Int} : monB x = true ↔ -1000000000000 ≤ x ∧ x ≤ 1000000000000 := by unfold monB; exact decide_eq_true_iff
theorem isMoney_any (n : Int) (w : World) : Calls Tryd.prog 22 #[.int .i64 n] w fun e w' => e = .returned (.bool (monB n)) ∧ w' = w := by
  by_cases h1 : -1000000000000 ≤ n
  · by_cases h2 : n ≤ 1000000000000
    · have H : Hid (monB n = true) := decide_eq_true ⟨h1, h2⟩
      go_enter Tryd.func22, Tryd.ntmps22
      go_wp2
      go_ret
      exact ⟨cret_bool (by rw [H.out]; try (simp <;> omega)), rfl⟩
    · have H : Hid (monB n = false) := decide_eq_false (by omega)
      go_enter Tryd.func22, Tryd.ntmps22
      go_wp2
      go_ret
      exact ⟨cret_bool (by rw [H.out]; try (simp <;> omega)), rfl⟩
  · have H : Hid (monB n = false) := decide_eq_false (by omega)
    have hd : decide (-1000000000000 ≤ n) = false := decide_eq_false h1
    go_enter Tryd.func22, Tryd.ntmps22
    go_wp2
    go_ret
    exact ⟨cret_bool (by rw [H.out]), rfl⟩
/-- What Prorate answers. -/
def ProIs (l : List Int) (am f t g u ba n e : Int) : Prop :=
  (¬ (ba = 1 ∨ ba = 2) ∧ n = 0 ∧ e = 7) ∨
  ((ba = 1 ∨ ba = 2) ∧ ((monB am = false ∨ perB f t = false) ∧ n = 0 ∧ e = 3 ∨
    monB am = true ∧ perB f t = true ∧ (checkE l [f, t] ≠ 0 ∧ n = 0 ∧ e = checkE l [f, t] ∨
      checkE l [f, t] = 0 ∧ (cntP l ba f t = 0 ∧ n = 0 ∧ e = 5 ∨
        cntP l ba f t ≠ 0 ∧ (min t u < max f g ∧ n = 0 ∧ e = 0 ∨
          max f g ≤ min t u ∧ n = rd (am * cntP l ba (max f g) (min t u)) (cntP l ba f t) 5 ∧ e = 0)))))
theorem cntP_bd (l : List Int) {ba f t : Int} (hb : ba = 1 ∨ ba = 2) (h0 : 0 ≤ f) (h1 : f ≤ t) (h2 : t ≤ 73048) : 0 ≤ cntP l ba f t ∧ cntP l ba f t ≤ 73049 := by
  rcases hb with rfl | rfl
  · rw [show cntP l 1 f t = t - f + 1 from if_pos rfl]; omega
  · rw [show cntP l 2 f t = cntD l f t from if_neg (by omega)]
    unfold cntD
    have := cntW_bd l f (t + 1 - f).toNat
    omega
theorem checkE_days {l : List Int} {a b c d : Int} (h : checkE l [a, b] = 0) (hc : dayB c = true) (hd : dayB d = true) : checkE l [c, d] = 0 := by
  obtain ⟨h1, _, h3, h4⟩ := checkE_ok h
  unfold checkE
  rw [if_neg (by omega), if_neg (by simp [hc, hd, h3]), if_neg (by simp [h4])]
theorem prod_bd {a r : Int} (h1 : -1000000000000 ≤ a) (h2 : a ≤ 1000000000000) (h3 : 0 ≤ r) (h4 : r ≤ 1000000) : -1000000000000000000 ≤ a * r ∧ a * r ≤ 1000000000000000000 := by
  constructor
  · calc -1000000000000000000 = -1000000000000 * 1000000 := by decide
      _ ≤ -1000000000000 * r := by omega
      _ ≤ a * r := Int.mul_le_mul_of_nonneg_right h1 h3
  · calc a * r ≤ 1000000000000 * r := Int.mul_le_mul_of_nonneg_right h2 h3
      _ ≤ 1000000000000 * 1000000 := by omega
      _ = 1000000000000000000 := by decide
/-- The two periods in their boxes. -/
def Two (w : World) (b : Nat) (f t g u : Int) : Prop := (w.cell? ⟨b, 0, none⟩ = some (.int .i64 f) ∧ w.cell? ⟨b, 1, none⟩ = some (.int .i64 t)) ∧ (w.cell? ⟨b + 1, 0, none⟩ = some (.int .i64 g) ∧ w.cell? ⟨b + 1, 1, none⟩ = some (.int .i64 u)) ∧ b + 1 < w.heap.size
theorem Two.made (w : World) (f t g u : Int) (T : TypeId) : Two ((w.alloc (.cells #[.int .i64 f, .int .i64 t] T)).alloc (.cells #[.int .i64 g, .int .i64 u] T)) w.heap.size f t g u := by
  refine ⟨⟨?_, ?_⟩, ⟨?_, ?_⟩, ?_⟩ <;> simp
theorem Two.below {w w' : World} {b : Nat} {f t g u : Int} (h : Two w b f t g u) (hb : Below w.heap.size w w') : Two w' b f t g u := by
  obtain ⟨⟨a0, a1⟩, ⟨b0, b1⟩, hl⟩ := h
  exact ⟨⟨(hb.cell (p := ⟨b, 0, none⟩) (by simp; omega)).trans a0, (hb.cell (p := ⟨b, 1, none⟩) (by simp; omega)).trans a1⟩, ⟨(hb.cell (p := ⟨b + 1, 0, none⟩) hl).trans b0, (hb.cell (p := ⟨b + 1, 1, none⟩) hl).trans b1⟩, Nat.lt_of_lt_of_le hl hb.size⟩

set_option maxRecDepth 100000 in
set_option maxHeartbeats 2000000 in
theorem Prorate_any (am f t g u ba : Int) (a : Option Addr) (n cap : Nat) (l : List Int) (w : World) (hc : Came w a l) (hn : l.length = n) (hm : n ≤ maxLen) :
    Calls Tryd.prog 14 #[.int .i64 am, .agg #[.int .i64 f, .int .i64 t], .agg #[.int .i64 g, .int .i64 u], .int .i64 ba, .slice a n cap] w fun e w' => ∃ r er : Int, e = .returned (.tuple #[.int .i64 r, .int .i64 er]) ∧ ProIs l am f t g u ba r er ∧ Below w.heap.size w w' := by
  have HC := Lib.hid hc
  have HN := Lib.hid hn
  have HM := Lib.hid hm
  clear hc hn hm
  have HT0 := Lib.hid (Two.made w f t g u 24)
  have HB0 := Lib.hid (((Below.refl w.heap.size w).alloc (Nat.le_refl _) (.cells #[.int .i64 f, .int .i64 t] 24)).alloc (by simp) (.cells #[.int .i64 g, .int .i64 u] 24))
  by_cases hba : ba = 1 ∨ ba = 2
  · have hg1 : (!decide (ba = 1) && !decide (ba = 2)) = false := by rcases hba with rfl | rfl <;> rfl
    cases hmo : monB am
    · have HP : Hid (ProIs l am f t g u ba 0 3) := .inr ⟨hba, .inl ⟨.inl hmo, rfl, rfl⟩⟩
      rcases hba with rfl | rfl
      · go_enter Tryd.func14, Tryd.ntmps14
        go_wp2_with (go_at_call 22; refine (isMoney_any _ _).mono ?_; rintro e w' ⟨rfl, h'⟩; subst w')
        go_ret2
        exact ⟨_, _, rfl, HP.out, HB0.out⟩
      · go_enter Tryd.func14, Tryd.ntmps14
        go_wp2_with (go_at_call 22; refine (isMoney_any _ _).mono ?_; rintro e w' ⟨rfl, h'⟩; subst w')
        go_ret2
        exact ⟨_, _, rfl, HP.out, HB0.out⟩
    · obtain ⟨hmo0, hmo1⟩ := monB_iff.1 hmo
      rcases hba with rfl | rfl
      · go_enter Tryd.func14, Tryd.ntmps14
        go_wp2_with (go_at_call 22; refine (isMoney_any _ _).mono ?_; rintro e w' ⟨rfl, h'⟩; subst w')
        refine (hasDays_any f t _).mono ?_
        rintro e w1 ⟨rfl, hb1⟩
        have HB1 := Lib.hid (HB0.out.trans (hb1.mono HB0.out.size))
        have HT1 := Lib.hid (HT0.out.below hb1)
        clear hb1
        cases hper : perB f t
        · have HP : Hid (ProIs l am f t g u 1 0 3) := .inr ⟨(show (1 : Int) = 1 ∨ (1 : Int) = 2 by omega), .inl ⟨.inr hper, rfl, rfl⟩⟩
          go_wp2_with fail
          go_ret2
          exact ⟨_, _, rfl, HP.out, HB1.out⟩
        · obtain ⟨hf0, hft, ht1⟩ := perB_iff.1 hper
          obtain ⟨⟨x0, x1⟩, ⟨y0, y1⟩, hl⟩ := HT1.out
          go_wp2_with fail
          refine (Workdays_any f t a n cap l w1 (HC.out.below HB1.out) HN.out HM.out).mono ?_
          rintro e w2 ⟨r2, e2, rfl, hE2, hb2⟩
          have HB2 := Lib.hid (HB1.out.trans (hb2.mono HB1.out.size))
          have HT2 := Lib.hid (HT1.out.below hb2)
          clear hb2 x0 x1 y0 y1 hl
          rcases hE2 with ⟨hz, rfl, rfl⟩ | ⟨hz, rfl, rfl⟩
          · have hzB : decide (checkE l [f, t] = 0) = false := decide_eq_false hz
            have hcb := checkE_bd l [f, t]
            have HP : Hid (ProIs l am f t g u 1 0 (checkE l [f, t])) := .inr ⟨(show (1 : Int) = 1 ∨ (1 : Int) = 2 by omega), .inr ⟨hmo, hper, .inl ⟨hz, rfl, rfl⟩⟩⟩
            go_wp2_with fail
            go_ret2
            exact ⟨_, _, rfl, HP.out, HB2.out⟩
          · obtain ⟨⟨x0, x1⟩, ⟨y0, y1⟩, hl⟩ := HT2.out
            go_wp2_with fail
            refine (count_any f t 1 a n cap l w2 (show (1 : Int) = 1 ∨ (1 : Int) = 2 by omega) hf0 hft ht1 (HC.out.below HB2.out) HN.out HM.out hz).mono ?_
            rintro e w3 ⟨rfl, hb3⟩
            have HB3 := Lib.hid (HB2.out.trans (hb3.mono HB2.out.size))
            have HT3 := Lib.hid (HT2.out.below hb3)
            clear hb3 x0 x1 y0 y1 hl
            have hall := cntP_bd l (show (1 : Int) = 1 ∨ (1 : Int) = 2 by omega) hf0 hft ht1
            obtain ⟨⟨x0, x1⟩, ⟨y0, y1⟩, hl⟩ := HT3.out
            have HP5 : Hid (cntP l 1 f t = 0 → ProIs l am f t g u 1 0 5) := fun h => .inr ⟨(show (1 : Int) = 1 ∨ (1 : Int) = 2 by omega), .inr ⟨hmo, hper, .inr ⟨hz, .inl ⟨h, rfl, rfl⟩⟩⟩⟩
            have HP0 : Hid (cntP l 1 f t ≠ 0 → min t u < max f g → ProIs l am f t g u 1 0 0) := fun h h' => .inr ⟨(show (1 : Int) = 1 ∨ (1 : Int) = 2 by omega), .inr ⟨hmo, hper, .inr ⟨hz, .inr ⟨h, .inl ⟨h', rfl, rfl⟩⟩⟩⟩⟩
            have HPN : Hid (cntP l 1 f t ≠ 0 → max f g ≤ min t u → ProIs l am f t g u 1 (rd (am * cntP l 1 (max f g) (min t u)) (cntP l 1 f t) 5) 0) := fun h h' => .inr ⟨(show (1 : Int) = 1 ∨ (1 : Int) = 2 by omega), .inr ⟨hmo, hper, .inr ⟨hz, .inr ⟨h, .inr ⟨h', rfl, rfl⟩⟩⟩⟩⟩
            generalize cntP l 1 f t = all at *
            by_cases hall0 : all = 0
            · have HP := Lib.hid (HP5.out hall0)
              subst hall0
              go_wp2_with fail
              go_ret2
              exact ⟨_, _, rfl, HP.out, HB3.out⟩
            · have hall0B : decide (all = 0) = false := decide_eq_false hall0
              go_wp2_with fail
              refine (Overlap_any f t g u w3).mono ?_
              rintro e w4 ⟨p, q, ok, rfl, hov, hb4⟩
              have HB4 := Lib.hid ((HB3.out.trans (hb4.mono HB3.out.size)).alloc (Nat.le_trans HB3.out.size hb4.size) (.cells #[.int .i64 p, .int .i64 q] 24))
              clear hb4 x0 x1 y0 y1 hl
              rcases hov with ⟨rfl, rfl, rfl, hpq⟩ | ⟨rfl, rfl, rfl, hpq⟩
              · have HP := Lib.hid (HPN.out hall0 hpq)
                have hpart := cntP_bd l (show (1 : Int) = 1 ∨ (1 : Int) = 2 by omega) (show 0 ≤ max f g by omega) hpq (show min t u ≤ 73048 by omega)
                have hck := checkE_days (c := max f g) (d := min t u) hz (dayB_iff.2 ⟨by omega, by omega⟩) (dayB_iff.2 ⟨by omega, by omega⟩)
                have HCNT := Lib.hid (fun w hc => count_any (max f g) (min t u) 1 a n cap l w (show (1 : Int) = 1 ∨ (1 : Int) = 2 by omega) (by omega) hpq (by omega) hc HN.out HM.out hck)
                generalize max f g = p at *
                generalize min t u = q at *
                go_wp2_with fail
                refine (HCNT.out _ (HC.out.below HB4.out)).mono ?_
                rintro e w5 ⟨rfl, hb5⟩
                have HB5 := Lib.hid (HB4.out.trans (hb5.mono HB4.out.size))
                clear hb5 HCNT hck
                generalize cntP l 1 p q = part at *
                have hpb := prod_bd (a := am) (r := part) hmo0 hmo1 hpart.1 (by omega)
                have HRV := Lib.hid (rv_ok (n := am * part) (d := all) (way := 5) (by decide) (decide_eq_true ⟨by omega, by omega, hpb.1, hpb.2⟩))
                have hwr : IntKind.i64.wrap (am * part) = am * part := by rw [IntKind.wrap_i64]; omega
                go_wp2_with fail
                refine (round_any (am * part) all 5 _).mono ?_
                rintro e w6 ⟨rfl, k6, rfl⟩
                rw [HRV.out.1, HRV.out.2]
                go_wp2_with fail
                go_ret2
                exact ⟨_, _, rfl, HP.out, below_dN HB5.out _⟩
              · have HP := Lib.hid (HP0.out hall0 hpq)
                go_wp2_with fail
                go_ret2
                exact ⟨_, _, rfl, HP.out, HB4.out⟩
      · go_enter Tryd.func14, Tryd.ntmps14
        go_wp2_with (go_at_call 22; refine (isMoney_any _ _).mono ?_; rintro e w' ⟨rfl, h'⟩; subst w')
        refine (hasDays_any f t _).mono ?_
        rintro e w1 ⟨rfl, hb1⟩
        have HB1 := Lib.hid (HB0.out.trans (hb1.mono HB0.out.size))
        have HT1 := Lib.hid (HT0.out.below hb1)
        clear hb1
        cases hper : perB f t
        · have HP : Hid (ProIs l am f t g u 2 0 3) := .inr ⟨(show (2 : Int) = 1 ∨ (2 : Int) = 2 by omega), .inl ⟨.inr hper, rfl, rfl⟩⟩
          go_wp2_with fail
          go_ret2
          exact ⟨_, _, rfl, HP.out, HB1.out⟩
        · obtain ⟨hf0, hft, ht1⟩ := perB_iff.1 hper
          obtain ⟨⟨x0, x1⟩, ⟨y0, y1⟩, hl⟩ := HT1.out
          go_wp2_with fail
          refine (Workdays_any f t a n cap l w1 (HC.out.below HB1.out) HN.out HM.out).mono ?_
          rintro e w2 ⟨r2, e2, rfl, hE2, hb2⟩
          have HB2 := Lib.hid (HB1.out.trans (hb2.mono HB1.out.size))
          have HT2 := Lib.hid (HT1.out.below hb2)
          clear hb2 x0 x1 y0 y1 hl
          rcases hE2 with ⟨hz, rfl, rfl⟩ | ⟨hz, rfl, rfl⟩
          · have hzB : decide (checkE l [f, t] = 0) = false := decide_eq_false hz
            have hcb := checkE_bd l [f, t]
            have HP : Hid (ProIs l am f t g u 2 0 (checkE l [f, t])) := .inr ⟨(show (2 : Int) = 1 ∨ (2 : Int) = 2 by omega), .inr ⟨hmo, hper, .inl ⟨hz, rfl, rfl⟩⟩⟩
            go_wp2_with fail
            go_ret2
            exact ⟨_, _, rfl, HP.out, HB2.out⟩
          · obtain ⟨⟨x0, x1⟩, ⟨y0, y1⟩, hl⟩ := HT2.out
            go_wp2_with fail
            refine (count_any f t 2 a n cap l w2 (show (2 : Int) = 1 ∨ (2 : Int) = 2 by omega) hf0 hft ht1 (HC.out.below HB2.out) HN.out HM.out hz).mono ?_
            rintro e w3 ⟨rfl, hb3⟩
            have HB3 := Lib.hid (HB2.out.trans (hb3.mono HB2.out.size))
            have HT3 := Lib.hid (HT2.out.below hb3)
            clear hb3 x0 x1 y0 y1 hl
            have hall := cntP_bd l (show (2 : Int) = 1 ∨ (2 : Int) = 2 by omega) hf0 hft ht1
            obtain ⟨⟨x0, x1⟩, ⟨y0, y1⟩, hl⟩ := HT3.out
            have HP5 : Hid (cntP l 2 f t = 0 → ProIs l am f t g u 2 0 5) := fun h => .inr ⟨(show (2 : Int) = 1 ∨ (2 : Int) = 2 by omega), .inr ⟨hmo, hper, .inr ⟨hz, .inl ⟨h, rfl, rfl⟩⟩⟩⟩
            have HP0 : Hid (cntP l 2 f t ≠ 0 → min t u < max f g → ProIs l am f t g u 2 0 0) := fun h h' => .inr ⟨(show (2 : Int) = 1 ∨ (2 : Int) = 2 by omega), .inr ⟨hmo, hper, .inr ⟨hz, .inr ⟨h, .inl ⟨h', rfl, rfl⟩⟩⟩⟩⟩
            have HPN : Hid (cntP l 2 f t ≠ 0 → max f g ≤ min t u → ProIs l am f t g u 2 (rd (am * cntP l 2 (max f g) (min t u)) (cntP l 2 f t) 5) 0) := fun h h' => .inr ⟨(show (2 : Int) = 1 ∨ (2 : Int) = 2 by omega), .inr ⟨hmo, hper, .inr ⟨hz, .inr ⟨h, .inr ⟨h', rfl, rfl⟩⟩⟩⟩⟩
            generalize cntP l 2 f t = all at *
            by_cases hall0 : all = 0
            · have HP := Lib.hid (HP5.out hall0)
              subst hall0
              go_wp2_with fail
              go_ret2
              exact ⟨_, _, rfl, HP.out, HB3.out⟩
            · have hall0B : decide (all = 0) = false := decide_eq_false hall0
              go_wp2_with fail
              refine (Overlap_any f t g u w3).mono ?_
              rintro e w4 ⟨p, q, ok, rfl, hov, hb4⟩
              have HB4 := Lib.hid ((HB3.out.trans (hb4.mono HB3.out.size)).alloc (Nat.le_trans HB3.out.size hb4.size) (.cells #[.int .i64 p, .int .i64 q] 24))
              clear hb4 x0 x1 y0 y1 hl
              rcases hov with ⟨rfl, rfl, rfl, hpq⟩ | ⟨rfl, rfl, rfl, hpq⟩
              · have HP := Lib.hid (HPN.out hall0 hpq)
                have hpart := cntP_bd l (show (2 : Int) = 1 ∨ (2 : Int) = 2 by omega) (show 0 ≤ max f g by omega) hpq (show min t u ≤ 73048 by omega)
                have hck := checkE_days (c := max f g) (d := min t u) hz (dayB_iff.2 ⟨by omega, by omega⟩) (dayB_iff.2 ⟨by omega, by omega⟩)
                have HCNT := Lib.hid (fun w hc => count_any (max f g) (min t u) 2 a n cap l w (show (2 : Int) = 1 ∨ (2 : Int) = 2 by omega) (by omega) hpq (by omega) hc HN.out HM.out hck)
                generalize max f g = p at *
                generalize min t u = q at *
                go_wp2_with fail
                refine (HCNT.out _ (HC.out.below HB4.out)).mono ?_
                rintro e w5 ⟨rfl, hb5⟩
                have HB5 := Lib.hid (HB4.out.trans (hb5.mono HB4.out.size))
                clear hb5 HCNT hck
                generalize cntP l 2 p q = part at *
                have hpb := prod_bd (a := am) (r := part) hmo0 hmo1 hpart.1 (by omega)
                have HRV := Lib.hid (rv_ok (n := am * part) (d := all) (way := 5) (by decide) (decide_eq_true ⟨by omega, by omega, hpb.1, hpb.2⟩))
                have hwr : IntKind.i64.wrap (am * part) = am * part := by rw [IntKind.wrap_i64]; omega
                go_wp2_with fail
                refine (round_any (am * part) all 5 _).mono ?_
                rintro e w6 ⟨rfl, k6, rfl⟩
                rw [HRV.out.1, HRV.out.2]
                go_wp2_with fail
                go_ret2
                exact ⟨_, _, rfl, HP.out, below_dN HB5.out _⟩
              · have HP := Lib.hid (HP0.out hall0 hpq)
                go_wp2_with fail
                go_ret2
                exact ⟨_, _, rfl, HP.out, HB4.out⟩
  · have HP : Hid (ProIs l am f t g u ba 0 7) := .inl ⟨hba, rfl, rfl⟩
    have h1B : decide (ba = 1) = false := decide_eq_false (fun e => hba (.inl e))
    have h2B : decide (ba = 2) = false := decide_eq_false (fun e => hba (.inr e))
    have h3B : (ba != 1) = true := by simp; exact fun e => hba (.inl e)
    have h4B : (ba != 2) = true := by simp; exact fun e => hba (.inr e)
    clear hba
    go_enter Tryd.func14, Tryd.ntmps14
    go_wp2_with fail
    go_ret2
    exact ⟨_, _, rfl, HP.out, HB0.out⟩
end Go.Proofs.YtckealcgbjgfhaaDoor
