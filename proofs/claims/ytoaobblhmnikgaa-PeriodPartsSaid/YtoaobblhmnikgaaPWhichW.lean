/-
  Promise C1: the walk of Which.
-/
import Derived.Test.YtoaobblhmnikgaaPWhich
import Derived.Deep.RegionHeld3
namespace Go.Proofs.Ytoaobblhmnikgaa
open Go.RowKit Go.Maps

/-- A schedule's three cells. -/
def SchIs (w : World) (b : Nat) (K A L : Int) : Prop := w.cell? ⟨b, 0, none⟩ = some (.int .i64 K) ∧ w.cell? ⟨b, 1, none⟩ = some (.int .i64 A) ∧ w.cell? ⟨b, 2, none⟩ = some (.int .i64 L)
theorem SchIs.made (w : World) (K A L : Int) (T : TypeId) : SchIs (w.alloc (.cells #[.int .i64 K, .int .i64 A, .int .i64 L] T)) w.heap.size K A L := by
  refine ⟨?_, ?_, ?_⟩ <;> simp
theorem SchIs.below {w w' : World} {b : Nat} {K A L : Int} (h : SchIs w b K A L) (hb : Below w.heap.size w w') : SchIs w' b K A L := Sch3 h.1 h.2.1 h.2.2 hb

set_option maxRecDepth 100000 in
set_option maxHeartbeats 2000000 in
theorem Which_any (K A L x : Int) (w : World) : Calls Try.prog 17 #[.agg #[.int .i64 K, .int .i64 A, .int .i64 L], .int .i64 x] w fun e w' => ∃ r er : Int, e = .returned (.tuple #[.int .i64 r, .int .i64 er]) ∧ WhichIs K A L x r er ∧ Below w.heap.size w w' := by
  have HB0 := Lib.hid ((Below.refl w.heap.size w).alloc (Nat.le_refl _) (.cells #[.int .i64 K, .int .i64 A, .int .i64 L] 23))
  have HS0 := Lib.hid (SchIs.made w K A L 23)
  go_enter Try.func17, Try.ntmps17
  go_wp2_with fail
  refine (At_any K A L 0 _).mono ?_
  rintro e w1 ⟨f, t, er, rfl, hE, hb1⟩
  have HB1 := Lib.hid ((HB0.out.trans (hb1.mono HB0.out.size)).alloc (Nat.le_trans HB0.out.size hb1.size) (.cells #[.int .i64 f, .int .i64 t] 29))
  have HS1 := Lib.hid ((HS0.out.below hb1).below ((Below.refl w1.heap.size w1).alloc (Nat.le_refl _) (.cells #[.int .i64 f, .int .i64 t] 29)))
  have HPF := Lib.hid (PBx.made w1 f t 29)
  have HE := Lib.hid hE
  clear hb1 HB0 HS0
  by_cases hz : schedE K A L = 0
  · obtain ⟨h1, h4, hdA, _, _⟩ := schedE_ok hz
    obtain ⟨hA0, hA1⟩ := dayB_iff.1 hdA
    cases hdx : dayB x
    · have HP : Hid (WhichIs K A L x 0 3) := .inr ⟨hz, .inl ⟨hdx, rfl, rfl⟩⟩
      by_cases her : er = 0
      · subst her
        go_wp2_with (go_at_call 31; refine (isDay_any _ _).mono ?_; rintro e w' ⟨rfl, h'⟩; subst w')
        go_ret2
        exact ⟨_, _, rfl, HP.out, HB1.out⟩
      · have her3 : er = 3 := by
          rcases hE with ⟨h, _⟩ | ⟨_, ⟨_, _, _, h⟩ | ⟨_, h⟩⟩
          · exact absurd hz h
          · exact h
          · rcases h with ⟨_, ⟨_, _, _, h⟩ | ⟨_, _, _, h⟩⟩ | ⟨_, _, _, _, _, ⟨_, _, _, h⟩ | ⟨_, _, _, h⟩⟩ | ⟨_, _, _, _, _, ⟨_, _, _, h⟩ | ⟨_, _, _, _, h⟩ | ⟨_, _, _, _, h⟩⟩ <;> first | exact h | exact absurd h her
        subst her3
        clear her
        go_wp2_with fail
        go_ret2
        exact ⟨_, _, rfl, HP.out, HB1.out⟩
    · obtain ⟨hx0, hx1⟩ := dayB_iff.1 hdx
      have HW : Hid (∀ r e, ((K ≤ 2 ∧ WeekW (7 * K) A x r e) ∨ (¬ K ≤ 2 ∧ ∃ (k m : Nat) (d : Int) (k' m' : Nat) (d' : Int), IsCivil A k m d ∧ IsCivil x k' m' d' ∧ MonW K (idx K k m d) (idx K k' m' d') r e)) → WhichIs K A L x r e) := fun r e h => .inr ⟨hz, .inr ⟨hdx, h⟩⟩
      by_cases hK2 : K ≤ 2
      · have hWk : (73048 < A + 7 * K * 0 + 7 * K - 1 ∧ f = 0 ∧ t = 0 ∧ er = 3) ∨ (A + 7 * K * 0 + 7 * K - 1 ≤ 73048 ∧ f = A ∧ er = 0) := by
          rcases hE with ⟨h, _⟩ | ⟨_, ⟨h, _⟩ | ⟨_, ⟨_, ⟨p, q, r, s⟩ | ⟨p, q, r, s⟩⟩ | ⟨h, _⟩ | ⟨h, _⟩⟩⟩
          · exact absurd hz h
          · omega
          · exact .inl ⟨p, q, r, s⟩
          · exact .inr ⟨p, by omega, s⟩
          · omega
          · omega
        clear hE
        rcases hWk with ⟨hbig, rfl, rfl, rfl⟩ | ⟨hsm, rfl, rfl⟩
        · have HP : Hid (WhichIs K A L x 0 3) := by
            refine HW.out 0 3 (.inl ⟨hK2, ?_⟩)
            by_cases hxA : x < A
            · exact .inl ⟨hxA, rfl, rfl⟩
            · refine .inr ⟨by omega, .inl ⟨.inl ?_, rfl, rfl⟩⟩
              have : 0 ≤ 7 * K * ((x - A) / (7 * K)) := Int.mul_nonneg (by omega) (Int.ediv_nonneg (by omega) (by omega))
              omega
          go_wp2_with fail
          go_ret2
          exact ⟨_, _, rfl, HP.out, HB1.out⟩
        · by_cases hxA : x < f
          · have HP := Lib.hid (HW.out 0 3 (.inl ⟨hK2, .inl ⟨hxA, rfl, rfl⟩⟩))
            obtain ⟨y0, y1, _, _⟩ := HPF.out
            go_wp2_with (go_at_call 31; refine (isDay_any _ _).mono ?_; rintro e w' ⟨rfl, h'⟩; subst w')
            go_ret2
            exact ⟨_, _, rfl, HP.out, HB1.out⟩
          · have hxB : decide (x < f) = false := decide_eq_false hxA
            obtain ⟨x0, x1, x2⟩ := HS1.out
            obtain ⟨y0, y1, _, _⟩ := HPF.out
            go_wp2_with (go_at_call 31; refine (isDay_any _ _).mono ?_; rintro e w' ⟨rfl, h'⟩; subst w')
            refine (shapeOf_any K _ h1 h4).mono ?_
            rintro e w3 ⟨rfl, hb3⟩
            have HB3 := Lib.hid (HB1.out.trans (hb3.mono HB1.out.size))
            have HS3 := Lib.hid (HS1.out.below hb3)
            have HPF3 := Lib.hid (HPF.out.below hb3)
            clear hb3 x0 x1 x2 y0 y1 HS1 HPF HB1
            have hKK : K = 1 ∨ K = 2 := by omega
            generalize w1.heap.size = g1 at *
            rcases hKK with rfl | rfl
            · have hsh : shD 1 = 7 := rfl
              have hsp : shP 1 = 0 := rfl
              rw [hsh, hsp]
              have HB4 := Lib.hid (HB3.out.alloc HB3.out.size (.cells #[.int .i64 7, .int .i64 0] 56))
              have HS4 := Lib.hid (HS3.out.below ((Below.refl _ _).alloc (Nat.le_refl _) (.cells #[.int .i64 7, .int .i64 0] 56)))
              have HQ4 := Lib.hid (HPF3.out.below ((Below.refl _ _).alloc (Nat.le_refl _) (.cells #[.int .i64 7, .int .i64 0] 56)))
              obtain ⟨x0, x1, x2⟩ := HS4.out
              obtain ⟨y0, y1, _, _⟩ := HQ4.out
              obtain ⟨v0, v1, v2⟩ := HS3.out
              obtain ⟨u0, u1, _, _⟩ := HPF3.out
              have hlA := rlt v0
              have hlB := rlt u0
              have hq0 : 0 ≤ (x - f) / 7 := by omega
              have hq1 : (x - f) / 7 ≤ 73048 := by omega
              have hdn : 0 ≤ x - f := by omega
              go_wp2_with fail
              refine (At_any 1 f L ((x - f) / 7) _).mono ?_
              rintro e w5 ⟨f5, t5, e5, rfl, hE5, hb5⟩
              have HB5 := Lib.hid ((HB4.out.trans (hb5.mono HB4.out.size)).alloc (Nat.le_trans HB4.out.size hb5.size) (.cells #[.int .i64 f5, .int .i64 t5] 29))
              clear hb5
              by_cases hbad : 73048 < f + 7 * ((x - f) / 7) + 7 - 1 ∨ 5000 ≤ (x - f) / 7
              · have he5 : e5 = 3 := by
                  by_cases h5 : 5000 ≤ (x - f) / 7
                  · exact (hE5.unique (f' := 0) (t' := 0) (.inr ⟨hz, .inl ⟨.inr h5, rfl, rfl, rfl⟩⟩)).2.2
                  · exact (hE5.unique (f' := 0) (t' := 0) (.inr ⟨hz, .inr ⟨⟨hq0, by omega⟩, .inl ⟨by omega, .inl ⟨by omega, rfl, rfl, rfl⟩⟩⟩⟩)).2.2
                subst he5
                have HP := Lib.hid (HW.out 0 3 (.inl ⟨by omega, .inr ⟨by omega, .inl ⟨hbad, rfl, rfl⟩⟩⟩))
                clear hE5
                go_wp2_with fail
                go_ret2
                exact ⟨_, _, rfl, HP.out, HB5.out⟩
              · have he5 : e5 = 0 := (hE5.unique (f' := f + 7 * ((x - f) / 7)) (t' := f + 7 * ((x - f) / 7) + 7 - 1) (.inr ⟨hz, .inr ⟨⟨hq0, by omega⟩, .inl ⟨by omega, .inr ⟨by omega, rfl, rfl, rfl⟩⟩⟩⟩)).2.2
                subst he5
                have HP := Lib.hid (HW.out ((x - f) / 7) 0 (.inl ⟨by omega, .inr ⟨by omega, .inr ⟨by omega, rfl, rfl⟩⟩⟩))
                clear hE5
                go_wp2_with fail
                go_ret2
                exact ⟨_, _, rfl, HP.out, HB5.out⟩
            · have hsh : shD 2 = 14 := rfl
              have hsp : shP 2 = 0 := rfl
              rw [hsh, hsp]
              have HB4 := Lib.hid (HB3.out.alloc HB3.out.size (.cells #[.int .i64 14, .int .i64 0] 56))
              have HS4 := Lib.hid (HS3.out.below ((Below.refl _ _).alloc (Nat.le_refl _) (.cells #[.int .i64 14, .int .i64 0] 56)))
              have HQ4 := Lib.hid (HPF3.out.below ((Below.refl _ _).alloc (Nat.le_refl _) (.cells #[.int .i64 14, .int .i64 0] 56)))
              obtain ⟨x0, x1, x2⟩ := HS4.out
              obtain ⟨y0, y1, _, _⟩ := HQ4.out
              obtain ⟨v0, v1, v2⟩ := HS3.out
              obtain ⟨u0, u1, _, _⟩ := HPF3.out
              have hlA := rlt v0
              have hlB := rlt u0
              have hq0 : 0 ≤ (x - f) / 14 := by omega
              have hq1 : (x - f) / 14 ≤ 73048 := by omega
              have hdn : 0 ≤ x - f := by omega
              go_wp2_with fail
              refine (At_any 2 f L ((x - f) / 14) _).mono ?_
              rintro e w5 ⟨f5, t5, e5, rfl, hE5, hb5⟩
              have HB5 := Lib.hid ((HB4.out.trans (hb5.mono HB4.out.size)).alloc (Nat.le_trans HB4.out.size hb5.size) (.cells #[.int .i64 f5, .int .i64 t5] 29))
              clear hb5
              by_cases hbad : 73048 < f + 14 * ((x - f) / 14) + 14 - 1 ∨ 5000 ≤ (x - f) / 14
              · have he5 : e5 = 3 := by
                  by_cases h5 : 5000 ≤ (x - f) / 14
                  · exact (hE5.unique (f' := 0) (t' := 0) (.inr ⟨hz, .inl ⟨.inr h5, rfl, rfl, rfl⟩⟩)).2.2
                  · exact (hE5.unique (f' := 0) (t' := 0) (.inr ⟨hz, .inr ⟨⟨hq0, by omega⟩, .inl ⟨by omega, .inl ⟨by omega, rfl, rfl, rfl⟩⟩⟩⟩)).2.2
                subst he5
                have HP := Lib.hid (HW.out 0 3 (.inl ⟨by omega, .inr ⟨by omega, .inl ⟨hbad, rfl, rfl⟩⟩⟩))
                clear hE5
                go_wp2_with fail
                go_ret2
                exact ⟨_, _, rfl, HP.out, HB5.out⟩
              · have he5 : e5 = 0 := (hE5.unique (f' := f + 14 * ((x - f) / 14)) (t' := f + 14 * ((x - f) / 14) + 14 - 1) (.inr ⟨hz, .inr ⟨⟨hq0, by omega⟩, .inl ⟨by omega, .inr ⟨by omega, rfl, rfl, rfl⟩⟩⟩⟩)).2.2
                subst he5
                have HP := Lib.hid (HW.out ((x - f) / 14) 0 (.inl ⟨by omega, .inr ⟨by omega, .inr ⟨by omega, rfl, rfl⟩⟩⟩))
                clear hE5
                go_wp2_with fail
                go_ret2
                exact ⟨_, _, rfl, HP.out, HB5.out⟩
      · have hK34 : K = 3 ∨ K = 4 := by omega
        obtain ⟨k, m, d, hcA⟩ := civil_ex hdA
        obtain ⟨k', m', d', hcX⟩ := civil_ex hdx
        obtain ⟨rfl, rfl⟩ := first_mon hK34 hz hcA hE
        obtain ⟨hN0, hN1, _, _⟩ := idx_in hK34 hcA
        obtain ⟨hX0, hX1, hX2, hX3⟩ := idx_in hK34 hcX
        have hsb := stt_bd hK34 hN0 hN1
        have HWM : Hid (∀ r e, MonW K (idx K k m d) (idx K k' m' d') r e → WhichIs K A L x r e) := fun r e h => HW.out r e (.inr ⟨hK2, k, m, d, k', m', d', hcA, hcX, h⟩)
        have HLT : Hid (x < stt K (idx K k m d) → idx K k' m' d' < idx K k m d) := fun h => by
          by_cases e : idx K k m d ≤ idx K k' m' d'
          · have := stt_le hK34 hN0 e; omega
          · omega
        have HGE : Hid (¬ x < stt K (idx K k m d) → idx K k m d ≤ idx K k' m' d') := fun h => by
          by_cases e : idx K k m d ≤ idx K k' m' d'
          · exact e
          · have := stt_le hK34 (a := idx K k' m' d' + 1) (b := idx K k m d) (by omega) (by omega); omega
        have HATM := Lib.hid (fun f t e hle h => at_mon (f := f) (t := t) (e := e) (L := L) hK34 hz hcA hcX hle h)
        have HIX : Hid (∀ i j o, IsCivil x i j o → idx K i j o = idx K k' m' d') := fun i j o h => by obtain ⟨rfl, rfl, rfl⟩ := h.unique hcX; rfl
        have HIF : Hid (∀ i j o, IsCivil (stt K (idx K k m d)) i j o → idx K i j o = idx K k m d) := fun i j o h => idx_stt hK34 hN0 h
        have hlimb : lim K ≤ 4800 := by unfold lim; split <;> omega
        have HDF : Hid (dayB (stt K (idx K k m d)) = true) := dayB_iff.2 hsb
        have HDX := Lib.hid hdx
        clear hE hcA hcX HE
        generalize idx K k m d = N at *
        generalize idx K k' m' d' = Nx at *
        generalize stt K N = f at *
        by_cases hxA : x < f
        · have HP := Lib.hid (HWM.out 0 3 (.inl ⟨HLT.out hxA, rfl, rfl⟩))
          obtain ⟨y0, y1, _, _⟩ := HPF.out
          go_wp2_with (go_at_call 31; refine (isDay_any _ _).mono ?_; rintro e w' ⟨rfl, h'⟩; subst w')
          go_ret2
          exact ⟨_, _, rfl, HP.out, HB1.out⟩
        · have hxB : decide (x < f) = false := decide_eq_false hxA
          have hle := HGE.out hxA
          obtain ⟨x0, x1, x2⟩ := HS1.out
          obtain ⟨y0, y1, _, _⟩ := HPF.out
          go_wp2_with (go_at_call 31; refine (isDay_any _ _).mono ?_; rintro e w' ⟨rfl, h'⟩; subst w')
          refine (shapeOf_any K _ h1 h4).mono ?_
          rintro e w3 ⟨rfl, hb3⟩
          have HB3 := Lib.hid (HB1.out.trans (hb3.mono HB1.out.size))
          have HS3 := Lib.hid (HS1.out.below hb3)
          have HPF3 := Lib.hid (HPF.out.below hb3)
          clear hb3 x0 x1 x2 y0 y1 HS1 HPF HB1
          generalize w1.heap.size = g1 at *
          rcases hK34 with rfl | rfl
          · have hsh : shD 3 = 15 := rfl
            have hsp : shP 3 = 2 := rfl
            rw [hsh, hsp]
            have HB4 := Lib.hid (HB3.out.alloc HB3.out.size (.cells #[.int .i64 15, .int .i64 2] 56))
            have HS4 := Lib.hid (HS3.out.below ((Below.refl _ _).alloc (Nat.le_refl _) (.cells #[.int .i64 15, .int .i64 2] 56)))
            have HQ4 := Lib.hid (HPF3.out.below ((Below.refl _ _).alloc (Nat.le_refl _) (.cells #[.int .i64 15, .int .i64 2] 56)))
            obtain ⟨u0, u1, _, _⟩ := HPF3.out
            have hlB : g1 < w3.heap.size := rlt u0
            have c0 : (w3.alloc (.cells #[.int .i64 15, .int .i64 2] 56)).cell? ⟨w3.heap.size, 0, none⟩ = some (.int .i64 15) := by simp
            have c1 : (w3.alloc (.cells #[.int .i64 15, .int .i64 2] 56)).cell? ⟨w3.heap.size, 1, none⟩ = some (.int .i64 2) := by simp
            have hg : w3.heap.size < (w3.alloc (.cells #[.int .i64 15, .int .i64 2] 56)).heap.size := by simp
            have hg1 : g1 < (w3.alloc (.cells #[.int .i64 15, .int .i64 2] 56)).heap.size := by simp; omega
            obtain ⟨c2, _, _, _⟩ := HQ4.out
            have hdn : 0 ≤ x - f := by omega
            have hdq0 : 0 ≤ (x - f) / 15 := by omega
            have hdq1 : (x - f) / 15 ≤ 73048 := by omega
            go_wp2_with fail
            clear u0 u1
            generalize (w3.alloc (.cells #[.int .i64 15, .int .i64 2] 56)) = W at *
            generalize w3.heap.size = G at *
            go_region_held3 (fun w' => w'.cell? ⟨G, 0, none⟩ = some (.int .i64 15) ∧ w'.cell? ⟨G, 1, none⟩ = some (.int .i64 2) ∧ w'.cell? ⟨g1, 0, none⟩ = some (.int .i64 f)) (go_keep)
              (first
                | (have := HR1; go_at_call 35; refine (countHalf f _ HDF.out).mono ?_; rintro e w6 ⟨i, j, o, rfl, hc6, hb6⟩
                   have HB6 := Lib.hid (HB5.out.trans (hb6.mono HB5.out.size))
                   have hix : (12 * (i : Int) + (j : Int) - 1) * 2 + hf o = N := by rw [← idx3]; exact HIF.out i j o hc6
                   rw [hix]
                   clear hb6 hc6
                   have hwr : IntKind.i64.wrap (Nx - N) = Nx - N := by rw [IntKind.wrap_i64]; omega
                   have e0 : w6.cell? ⟨G, 0, none⟩ = some (.int .i64 15) := (HB6.out.cell (p := ⟨G, 0, none⟩) hg).trans c0
                   have e1 : w6.cell? ⟨G, 1, none⟩ = some (.int .i64 2) := (HB6.out.cell (p := ⟨G, 1, none⟩) hg).trans c1
                   have e2 : w6.cell? ⟨g1, 0, none⟩ = some (.int .i64 f) := (HB6.out.cell (p := ⟨g1, 0, none⟩) hg1).trans c2)
                | (go_at_call 35; refine (countHalf x _ HDX.out).mono ?_; rintro e w5 ⟨i, j, o, rfl, hc5, hb5⟩
                   have HB5 := Lib.hid (from_drew hb5)
                   have hix : (12 * (i : Int) + (j : Int) - 1) * 2 + hf o = Nx := by rw [← idx3]; exact HIX.out i j o hc5
                   rw [hix]
                   have HR1 := Lib.hid hc5.k1
                   clear hb5 hc5
                   have e0 : w5.cell? ⟨G, 0, none⟩ = some (.int .i64 15) := (HB5.out.cell (p := ⟨G, 0, none⟩) hg).trans c0
                   have e1 : w5.cell? ⟨G, 1, none⟩ = some (.int .i64 2) := (HB5.out.cell (p := ⟨G, 1, none⟩) hg).trans c1
                   have e2 : w5.cell? ⟨g1, 0, none⟩ = some (.int .i64 f) := (HB5.out.cell (p := ⟨g1, 0, none⟩) hg1).trans c2))
            all_goals have HB7 := Lib.hid (HB4.out.trans (HB6.out.mono HB4.out.size))
            all_goals obtain ⟨x0, x1, x2⟩ := HS4.out.below HB6.out
            all_goals go_wp2_with fail
            all_goals refine (At_any 3 A L (Nx - N) _).mono ?_
            all_goals rintro e w8 ⟨f8, t8, e8, rfl, hE8, hb8⟩
            all_goals have he8 := HATM.out f8 t8 e8 hle hE8
            all_goals have HB8 := Lib.hid ((HB7.out.trans (hb8.mono HB7.out.size)).alloc (Nat.le_trans HB7.out.size hb8.size) (.cells #[.int .i64 f8, .int .i64 t8] 29))
            all_goals clear hb8 hE8
            all_goals by_cases h5 : Nx - N < 5000
            all_goals first
              | (rw [if_pos h5] at he8
                 subst he8
                 have HP := Lib.hid (HWM.out (Nx - N) 0 (.inr ⟨⟨hle, .inr ⟨h5, rfl, rfl⟩⟩, by omega⟩))
                 go_wp2_with fail
                 go_ret2
                 exact ⟨_, _, rfl, HP.out, HB8.out⟩)
              | (rw [if_neg h5] at he8
                 subst he8
                 have HP := Lib.hid (HWM.out 0 3 (.inr ⟨⟨hle, .inl ⟨by omega, rfl, rfl⟩⟩, by omega⟩))
                 clear h5
                 go_wp2_with fail
                 go_ret2
                 exact ⟨_, _, rfl, HP.out, HB8.out⟩)
          · have hsh : shD 4 = 31 := rfl
            have hsp : shP 4 = 1 := rfl
            rw [hsh, hsp]
            have HB4 := Lib.hid (HB3.out.alloc HB3.out.size (.cells #[.int .i64 31, .int .i64 1] 56))
            have HS4 := Lib.hid (HS3.out.below ((Below.refl _ _).alloc (Nat.le_refl _) (.cells #[.int .i64 31, .int .i64 1] 56)))
            have HQ4 := Lib.hid (HPF3.out.below ((Below.refl _ _).alloc (Nat.le_refl _) (.cells #[.int .i64 31, .int .i64 1] 56)))
            obtain ⟨u0, u1, _, _⟩ := HPF3.out
            have hlB : g1 < w3.heap.size := rlt u0
            have c0 : (w3.alloc (.cells #[.int .i64 31, .int .i64 1] 56)).cell? ⟨w3.heap.size, 0, none⟩ = some (.int .i64 31) := by simp
            have c1 : (w3.alloc (.cells #[.int .i64 31, .int .i64 1] 56)).cell? ⟨w3.heap.size, 1, none⟩ = some (.int .i64 1) := by simp
            have hg : w3.heap.size < (w3.alloc (.cells #[.int .i64 31, .int .i64 1] 56)).heap.size := by simp
            have hg1 : g1 < (w3.alloc (.cells #[.int .i64 31, .int .i64 1] 56)).heap.size := by simp; omega
            obtain ⟨c2, _, _, _⟩ := HQ4.out
            have hdn : 0 ≤ x - f := by omega
            have hdq0 : 0 ≤ (x - f) / 31 := by omega
            have hdq1 : (x - f) / 31 ≤ 73048 := by omega
            go_wp2_with fail
            clear u0 u1
            generalize (w3.alloc (.cells #[.int .i64 31, .int .i64 1] 56)) = W at *
            generalize w3.heap.size = G at *
            go_region_held3 (fun w' => w'.cell? ⟨G, 0, none⟩ = some (.int .i64 31) ∧ w'.cell? ⟨G, 1, none⟩ = some (.int .i64 1) ∧ w'.cell? ⟨g1, 0, none⟩ = some (.int .i64 f)) (go_keep)
              (first
                | (have := HR1; go_at_call 35; refine (countMonth f _ HDF.out).mono ?_; rintro e w6 ⟨i, j, o, rfl, hc6, hb6⟩
                   have HB6 := Lib.hid (HB5.out.trans (hb6.mono HB5.out.size))
                   have hix : 12 * (i : Int) + (j : Int) - 1 = N := by rw [← idx4]; exact HIF.out i j o hc6
                   rw [hix]
                   clear hb6 hc6
                   have hwr : IntKind.i64.wrap (Nx - N) = Nx - N := by rw [IntKind.wrap_i64]; omega
                   have e0 : w6.cell? ⟨G, 0, none⟩ = some (.int .i64 31) := (HB6.out.cell (p := ⟨G, 0, none⟩) hg).trans c0
                   have e1 : w6.cell? ⟨G, 1, none⟩ = some (.int .i64 1) := (HB6.out.cell (p := ⟨G, 1, none⟩) hg).trans c1
                   have e2 : w6.cell? ⟨g1, 0, none⟩ = some (.int .i64 f) := (HB6.out.cell (p := ⟨g1, 0, none⟩) hg1).trans c2)
                | (go_at_call 35; refine (countMonth x _ HDX.out).mono ?_; rintro e w5 ⟨i, j, o, rfl, hc5, hb5⟩
                   have HB5 := Lib.hid (from_drew hb5)
                   have hix : 12 * (i : Int) + (j : Int) - 1 = Nx := by rw [← idx4]; exact HIX.out i j o hc5
                   rw [hix]
                   have HR1 := Lib.hid hc5.k1
                   clear hb5 hc5
                   have e0 : w5.cell? ⟨G, 0, none⟩ = some (.int .i64 31) := (HB5.out.cell (p := ⟨G, 0, none⟩) hg).trans c0
                   have e1 : w5.cell? ⟨G, 1, none⟩ = some (.int .i64 1) := (HB5.out.cell (p := ⟨G, 1, none⟩) hg).trans c1
                   have e2 : w5.cell? ⟨g1, 0, none⟩ = some (.int .i64 f) := (HB5.out.cell (p := ⟨g1, 0, none⟩) hg1).trans c2))
            all_goals have HB7 := Lib.hid (HB4.out.trans (HB6.out.mono HB4.out.size))
            all_goals obtain ⟨x0, x1, x2⟩ := HS4.out.below HB6.out
            all_goals go_wp2_with fail
            all_goals refine (At_any 4 A L (Nx - N) _).mono ?_
            all_goals rintro e w8 ⟨f8, t8, e8, rfl, hE8, hb8⟩
            all_goals have he8 := HATM.out f8 t8 e8 hle hE8
            all_goals have HB8 := Lib.hid ((HB7.out.trans (hb8.mono HB7.out.size)).alloc (Nat.le_trans HB7.out.size hb8.size) (.cells #[.int .i64 f8, .int .i64 t8] 29))
            all_goals clear hb8 hE8
            all_goals by_cases h5 : Nx - N < 5000
            all_goals first
              | (rw [if_pos h5] at he8
                 subst he8
                 have HP := Lib.hid (HWM.out (Nx - N) 0 (.inr ⟨⟨hle, .inr ⟨h5, rfl, rfl⟩⟩, by omega⟩))
                 go_wp2_with fail
                 go_ret2
                 exact ⟨_, _, rfl, HP.out, HB8.out⟩)
              | (rw [if_neg h5] at he8
                 subst he8
                 have HP := Lib.hid (HWM.out 0 3 (.inr ⟨⟨hle, .inl ⟨by omega, rfl, rfl⟩⟩, by omega⟩))
                 clear h5
                 go_wp2_with fail
                 go_ret2
                 exact ⟨_, _, rfl, HP.out, HB8.out⟩)
  · have hzB : decide (schedE K A L = 0) = false := decide_eq_false hz
    have hsb := schedE_bd K A L
    obtain rfl : er = schedE K A L := by
      rcases hE with ⟨_, _, _, h⟩ | ⟨h, _⟩
      · exact h
      · exact absurd h hz
    have HP : Hid (WhichIs K A L x 0 (schedE K A L)) := .inl ⟨hz, rfl, rfl⟩
    clear hE
    go_wp2_with fail
    go_ret2
    exact ⟨_, _, rfl, HP.out, HB1.out⟩
end Go.Proofs.Ytoaobblhmnikgaa
