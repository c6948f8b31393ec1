/-
  Promise C1: the walk of At.
-/
import Derived.Test.YtckealcgbjgfhaaDoorPAt
import Derived.Deep.RegionHeld3
namespace Go.Proofs.YtckealcgbjgfhaaDoor
open Go.RowKit

/-- The period of a right schedule. -/
def PerIs (K A k f t e : Int) : Prop := ((K = 1 ∨ K = 2) ∧ WeekP (7 * K) A k f t e) ∨ (K = 4 ∧ ∃ (k0 m0 : Nat) (d0 : Int), IsCivil A k0 m0 d0 ∧ MonP (12 * (k0 : Int) + (m0 : Int) - 1 + k) f t e) ∨ (K = 3 ∧ ∃ (k0 m0 : Nat) (d0 : Int), IsCivil A k0 m0 d0 ∧ HalfP ((12 * (k0 : Int) + (m0 : Int) - 1) * 2 + hf d0 + k) f t e)
/-- What At answers. -/
def AtIs (K A L k f t e : Int) : Prop := (schedE K A L ≠ 0 ∧ f = 0 ∧ t = 0 ∧ e = schedE K A L) ∨ (schedE K A L = 0 ∧ ((k < 0 ∨ 5000 ≤ k) ∧ f = 0 ∧ t = 0 ∧ e = 3 ∨ (0 ≤ k ∧ k < 5000) ∧ PerIs K A k f t e))

theorem ofHalf (N : Int) (w : World) (h0 : 0 ≤ N) (h1 : N ≤ 100000) : Calls Tryd.prog 26 #[.agg #[.int .i64 15, .int .i64 2], .int .i64 N] w fun e w' => ∃ f t er : Int, e = .returned (.tuple #[.agg #[.int .i64 f, .int .i64 t], .int .i64 er]) ∧ HalfP N f t er ∧ Below w.heap.size w w' := by
  rcases (show N % 2 = 0 ∨ N % 2 = 1 by omega) with h | h
  · exact ofHalf0 N w h0 h1 h
  · exact ofHalf1 N w h0 h1 h
theorem hf_bd (d : Int) : 0 ≤ hf d ∧ hf d ≤ 1 := by unfold hf; split <;> omega
/-- The schedule in its box, behind it one for a period. -/
def QBox (w : World) (b : Nat) (K A L : Int) : Prop := w.cell? ⟨b, 0, none⟩ = some (.int .i64 K) ∧ w.cell? ⟨b, 1, none⟩ = some (.int .i64 A) ∧ w.cell? ⟨b, 2, none⟩ = some (.int .i64 L) ∧ (∃ u, w.cell? ⟨b + 1, 0, none⟩ = some u) ∧ (∃ u, w.cell? ⟨b + 1, 1, none⟩ = some u) ∧ w.frozen? ⟨b + 1, 0, none⟩ = false ∧ w.frozen? ⟨b + 1, 1, none⟩ = false ∧ b + 1 < w.heap.size
theorem QBox.made (w : World) (K A L : Int) (T U : TypeId) : QBox ((w.alloc (.cells #[.int .i64 K, .int .i64 A, .int .i64 L] T)).alloc (.cells #[.int .i64 0, .int .i64 0] U)) w.heap.size K A L := by
  refine ⟨?_, ?_, ?_, ⟨.int .i64 0, ?_⟩, ⟨.int .i64 0, ?_⟩, ?_, ?_, ?_⟩ <;> simp
theorem QBox.below {w w' : World} {b : Nat} {K A L : Int} (h : QBox w b K A L) (hb : Below w.heap.size w w') : QBox w' b K A L := by
  obtain ⟨a0, a1, a2, ⟨u, hu⟩, ⟨v, hv⟩, f0, f1, hl⟩ := h
  exact ⟨(hb.cell (p := ⟨b, 0, none⟩) (by simp; omega)).trans a0, (hb.cell (p := ⟨b, 1, none⟩) (by simp; omega)).trans a1, (hb.cell (p := ⟨b, 2, none⟩) (by simp; omega)).trans a2, ⟨u, (hb.cell (p := ⟨b + 1, 0, none⟩) hl).trans hu⟩, ⟨v, (hb.cell (p := ⟨b + 1, 1, none⟩) hl).trans hv⟩, (hb.frozen (p := ⟨b + 1, 0, none⟩) hl).trans f0, (hb.frozen (p := ⟨b + 1, 1, none⟩) hl).trans f1, Nat.lt_of_lt_of_le hl hb.size⟩

set_option maxRecDepth 100000 in
set_option maxHeartbeats 2000000 in
theorem At_any (K A L k : Int) (w : World) : Calls Tryd.prog 13 #[.agg #[.int .i64 K, .int .i64 A, .int .i64 L], .int .i64 k] w fun e w' => ∃ f t er : Int, e = .returned (.tuple #[.agg #[.int .i64 f, .int .i64 t], .int .i64 er]) ∧ AtIs K A L k f t er ∧ Below w.heap.size w w' := by
  have HB0 := Lib.hid (((Below.refl w.heap.size w).alloc (Nat.le_refl _) (.cells #[.int .i64 K, .int .i64 A, .int .i64 L] 41)).alloc (by simp) (.cells #[.int .i64 0, .int .i64 0] 24))
  have HQ0 := Lib.hid (QBox.made w K A L 41 24)
  have hsb := schedE_bd K A L
  go_enter Tryd.func13, Tryd.ntmps13
  go_wp2_with fail
  refine (Check_any K A L _).mono ?_
  rintro e w1 ⟨rfl, hb1⟩
  have HBZ := Lib.hid (HB0.out.trans (hb1.mono HB0.out.size))
  have HQ1 := Lib.hid (HQ0.out.below hb1)
  clear hb1 HB0 HQ0
  by_cases hz : schedE K A L = 0
  · by_cases hk : k < 0 ∨ 5000 ≤ k
    · obtain ⟨x0, x1, x2, ⟨u, hu⟩, ⟨v, hv⟩, f0, f1, hl⟩ := HQ1.out
      have HP : Hid (AtIs K A L k 0 0 3) := .inr ⟨hz, .inl ⟨hk, rfl, rfl, rfl⟩⟩
      rcases hk with hk | hk
      · obtain ⟨t0, t1⟩ := put2 hu hv (.int .i64 0) (.int .i64 0)
        have HX := Lib.hid (put2_below HBZ.out (g := w.heap.size + 1) (by omega) (.int .i64 0) (.int .i64 0))
        go_wp2_with fail
        refine bodyPost_ret (v := .tuple #[.agg #[.int .i64 0, .int .i64 0], .int .i64 3]) (by simp [results, Tryd.results13, go_sem, t0, t1] <;> rfl) rfl ⟨_, _, _, rfl, HP.out, HX.out⟩
      · have hkB : decide (k < 0) = false := decide_eq_false (by omega)
        obtain ⟨t0, t1⟩ := put2 hu hv (.int .i64 0) (.int .i64 0)
        have HX := Lib.hid (put2_below HBZ.out (g := w.heap.size + 1) (by omega) (.int .i64 0) (.int .i64 0))
        go_wp2_with fail
        refine bodyPost_ret (v := .tuple #[.agg #[.int .i64 0, .int .i64 0], .int .i64 3]) (by simp [results, Tryd.results13, go_sem, t0, t1] <;> rfl) rfl ⟨_, _, _, rfl, HP.out, HX.out⟩
    · have hk0 : 0 ≤ k := by omega
      have hk1 : k < 5000 := by omega
      have hkB : decide (k < 0) = false := decide_eq_false (by omega)
      have hkB2 : decide (5000 ≤ k) = false := decide_eq_false (by omega)
      obtain ⟨h1, h4, hdA, _, _⟩ := schedE_ok hz
      obtain ⟨hA0, hA1⟩ := dayB_iff.1 hdA
      have HP : Hid (∀ f t e, PerIs K A k f t e → AtIs K A L k f t e) := fun f t e h => .inr ⟨hz, .inr ⟨⟨hk0, hk1⟩, h⟩⟩
      clear hk hsb
      obtain ⟨x0, x1, x2, ⟨u, hu⟩, ⟨v, hv⟩, f0, f1, hl⟩ := HQ1.out
      go_wp2_with fail
      refine (shapeOf_any K _ h1 h4).mono ?_
      rintro e w2 ⟨rfl, hb2⟩
      have HB2 := Lib.hid (HBZ.out.trans (hb2.mono HBZ.out.size))
      have HQ2 := Lib.hid (HQ1.out.below hb2)
      clear hb2 HBZ HQ1 x0 x1 x2 hu hv f0 f1 hl u v
      have hK : K = 1 ∨ K = 2 ∨ K = 3 ∨ K = 4 := by omega
      rcases hK with rfl | rfl | rfl | rfl
      · have hsh : shD 1 = 7 := rfl
        have hsp : shP 1 = 0 := rfl
        rw [hsh, hsp]
        have HB3 := Lib.hid (HB2.out.alloc HB2.out.size (.cells #[.int .i64 7, .int .i64 0] 52))
        have HQ3 := Lib.hid (HQ2.out.below ((Below.refl _ _).alloc (Nat.le_refl _) (.cells #[.int .i64 7, .int .i64 0] 52)))
        obtain ⟨x0, x1, x2, ⟨u, hu⟩, ⟨v, hv⟩, f0, f1, hl⟩ := HQ3.out
        obtain ⟨z0, z1, z2, _, _, _, _, hl2⟩ := HQ2.out
        have hl3 : w.heap.size < w2.heap.size := by omega
        go_wp2_with fail
        refine (ofWeek A k _ hA0 hA1 hk0 (by omega)).mono ?_
        rintro e w4 ⟨f, t, er, rfl, hW, hb4⟩
        have HBZ := Lib.hid (HB3.out.trans (hb4.mono HB3.out.size))
        have HQ4 := Lib.hid (HQ3.out.below hb4)
        have HPX := Lib.hid (HP.out f t er (.inl ⟨by omega, hW⟩))
        clear hb4 hW x0 x1 x2 hu hv f0 f1 hl u v z0 z1 z2 hl2 hl3
        obtain ⟨x0, x1, x2, ⟨u, hu⟩, ⟨v, hv⟩, f0, f1, hl⟩ := HQ4.out
        obtain ⟨t0, t1⟩ := put2 hu hv (.int .i64 f) (.int .i64 t)
        have HX := Lib.hid (put2_below HBZ.out (g := w.heap.size + 1) (by omega) (.int .i64 f) (.int .i64 t))
        go_wp2_with fail
        refine bodyPost_ret (v := .tuple #[.agg #[.int .i64 f, .int .i64 t], .int .i64 er]) (by simp [results, Tryd.results13, go_sem, t0, t1] <;> rfl) rfl ⟨_, _, _, rfl, HPX.out, HX.out⟩
      · have hsh : shD 2 = 14 := rfl
        have hsp : shP 2 = 0 := rfl
        rw [hsh, hsp]
        have HB3 := Lib.hid (HB2.out.alloc HB2.out.size (.cells #[.int .i64 14, .int .i64 0] 52))
        have HQ3 := Lib.hid (HQ2.out.below ((Below.refl _ _).alloc (Nat.le_refl _) (.cells #[.int .i64 14, .int .i64 0] 52)))
        obtain ⟨x0, x1, x2, ⟨u, hu⟩, ⟨v, hv⟩, f0, f1, hl⟩ := HQ3.out
        obtain ⟨z0, z1, z2, _, _, _, _, hl2⟩ := HQ2.out
        have hl3 : w.heap.size < w2.heap.size := by omega
        go_wp2_with fail
        refine (ofTwo A k _ hA0 hA1 hk0 (by omega)).mono ?_
        rintro e w4 ⟨f, t, er, rfl, hW, hb4⟩
        have HBZ := Lib.hid (HB3.out.trans (hb4.mono HB3.out.size))
        have HQ4 := Lib.hid (HQ3.out.below hb4)
        have HPX := Lib.hid (HP.out f t er (.inl ⟨by omega, hW⟩))
        clear hb4 hW x0 x1 x2 hu hv f0 f1 hl u v z0 z1 z2 hl2 hl3
        obtain ⟨x0, x1, x2, ⟨u, hu⟩, ⟨v, hv⟩, f0, f1, hl⟩ := HQ4.out
        obtain ⟨t0, t1⟩ := put2 hu hv (.int .i64 f) (.int .i64 t)
        have HX := Lib.hid (put2_below HBZ.out (g := w.heap.size + 1) (by omega) (.int .i64 f) (.int .i64 t))
        go_wp2_with fail
        refine bodyPost_ret (v := .tuple #[.agg #[.int .i64 f, .int .i64 t], .int .i64 er]) (by simp [results, Tryd.results13, go_sem, t0, t1] <;> rfl) rfl ⟨_, _, _, rfl, HPX.out, HX.out⟩
      · have hsh : shD 3 = 15 := rfl
        have hsp : shP 3 = 2 := rfl
        rw [hsh, hsp]
        have HB3 := Lib.hid (HB2.out.alloc HB2.out.size (.cells #[.int .i64 15, .int .i64 2] 52))
        have HQ3 := Lib.hid (HQ2.out.below ((Below.refl _ _).alloc (Nat.le_refl _) (.cells #[.int .i64 15, .int .i64 2] 52)))
        have c0 : (w2.alloc (.cells #[.int .i64 15, .int .i64 2] 52)).cell? ⟨w2.heap.size, 0, none⟩ = some (.int .i64 15) := by simp
        have c1 : (w2.alloc (.cells #[.int .i64 15, .int .i64 2] 52)).cell? ⟨w2.heap.size, 1, none⟩ = some (.int .i64 2) := by simp
        have hg : w2.heap.size < (w2.alloc (.cells #[.int .i64 15, .int .i64 2] 52)).heap.size := by simp
        obtain ⟨x0, x1, x2, ⟨u, hu⟩, ⟨v, hv⟩, f0, f1, hl⟩ := HQ3.out
        obtain ⟨_, _, _, _, _, _, _, hl2⟩ := HQ2.out
        have hne : ¬ (w.heap.size + 1 = w2.heap.size) := by omega
        have hne2 : ¬ (w2.heap.size = w.heap.size + 1) := by omega
        go_wp2_with fail
        generalize (w2.alloc (.cells #[.int .i64 15, .int .i64 2] 52)) = W at *
        generalize w2.heap.size = G at *
        have hbW : w.heap.size < W.heap.size := by omega
        clear hu hv f0 f1 u v x0 x2
        go_region_held3 (fun w' => w'.cell? ⟨G, 0, none⟩ = some (.int .i64 15) ∧ w'.cell? ⟨G, 1, none⟩ = some (.int .i64 2) ∧ w'.cell? ⟨w.heap.size, 1, none⟩ = some (.int .i64 A)) (go_keep)
          (first
            | (go_at_call 27; refine (countHalf A _ hdA).mono ?_; rintro e w4 ⟨k0, m0, d0, rfl, hc0, hb4⟩
               have HB4 := Lib.hid (from_drew hb4)
               have HC0 := Lib.hid hc0
               have hk0' := hc0.k1
               have hm0' := hc0.m1
               have hm1' := hc0.m2
               have hhf := hf_bd d0
               clear hb4 hc0
               have hwr : IntKind.i64.wrap ((12 * (k0 : Int) + (m0 : Int) - 1) * 2 + hf d0 + k) = (12 * (k0 : Int) + (m0 : Int) - 1) * 2 + hf d0 + k := by rw [IntKind.wrap_i64]; omega
               have e0 : w4.cell? ⟨G, 0, none⟩ = some (.int .i64 15) := (HB4.out.cell (p := ⟨G, 0, none⟩) hg).trans c0
               have e1 : w4.cell? ⟨G, 1, none⟩ = some (.int .i64 2) := (HB4.out.cell (p := ⟨G, 1, none⟩) hg).trans c1
               have e2 : w4.cell? ⟨w.heap.size, 1, none⟩ = some (.int .i64 A) := (HB4.out.cell (p := ⟨w.heap.size, 1, none⟩) hbW).trans x1)
            | (go_at_call 26; refine (ofHalf ((12 * (k0 : Int) + (m0 : Int) - 1) * 2 + hf d0 + k) _ ?_ ?_).mono ?_; omega; omega; rintro e w5 ⟨f, t, er, rfl, hP, hb5⟩
               have HB5 := Lib.hid (HB4.out.trans (hb5.mono HB4.out.size))
               have HPX := Lib.hid (HP.out f t er (.inr (.inr ⟨rfl, k0, m0, d0, HC0.out, hP⟩)))
               clear hb5 hP
               have g0 : w5.cell? ⟨G, 0, none⟩ = some (.int .i64 15) := (HB5.out.cell (p := ⟨G, 0, none⟩) hg).trans c0
               have g1 : w5.cell? ⟨G, 1, none⟩ = some (.int .i64 2) := (HB5.out.cell (p := ⟨G, 1, none⟩) hg).trans c1
               have g2 : w5.cell? ⟨w.heap.size, 1, none⟩ = some (.int .i64 A) := (HB5.out.cell (p := ⟨w.heap.size, 1, none⟩) hbW).trans x1
               obtain ⟨_, _, _, ⟨u, hu⟩, ⟨v, hv⟩, f0, f1, hl5⟩ := HQ3.out.below HB5.out
               have k0' : ((w5.setCell ⟨w.heap.size + 1, 0, none⟩ (.int .i64 f)).setCell ⟨w.heap.size + 1, 1, none⟩ (.int .i64 t)).cell? ⟨G, 0, none⟩ = some (.int .i64 15) := by
                 rw [World.cell?_setCell_other (h := fun e => hne (congrArg Addr.block e)), World.cell?_setCell_other (h := fun e => hne (congrArg Addr.block e))]; exact g0
               have k1' : ((w5.setCell ⟨w.heap.size + 1, 0, none⟩ (.int .i64 f)).setCell ⟨w.heap.size + 1, 1, none⟩ (.int .i64 t)).cell? ⟨G, 1, none⟩ = some (.int .i64 2) := by
                 rw [World.cell?_setCell_other (h := fun e => hne (congrArg Addr.block e)), World.cell?_setCell_other (h := fun e => hne (congrArg Addr.block e))]; exact g1))
        all_goals have HBZ := Lib.hid (HB3.out.trans (HB5.out.mono HB3.out.size))
        all_goals obtain ⟨t0, t1⟩ := put2 hu hv (.int .i64 f) (.int .i64 t)
        all_goals have HX := Lib.hid (put2_below HBZ.out (g := w.heap.size + 1) (by omega) (.int .i64 f) (.int .i64 t))
        all_goals go_wp2_with fail
        all_goals refine bodyPost_ret (v := .tuple #[.agg #[.int .i64 f, .int .i64 t], .int .i64 er]) (by simp [results, Tryd.results13, go_sem, t0, t1] <;> rfl) rfl ⟨_, _, _, rfl, HPX.out, HX.out⟩
      · have hsh : shD 4 = 31 := rfl
        have hsp : shP 4 = 1 := rfl
        rw [hsh, hsp]
        have HB3 := Lib.hid (HB2.out.alloc HB2.out.size (.cells #[.int .i64 31, .int .i64 1] 52))
        have HQ3 := Lib.hid (HQ2.out.below ((Below.refl _ _).alloc (Nat.le_refl _) (.cells #[.int .i64 31, .int .i64 1] 52)))
        have c0 : (w2.alloc (.cells #[.int .i64 31, .int .i64 1] 52)).cell? ⟨w2.heap.size, 0, none⟩ = some (.int .i64 31) := by simp
        have c1 : (w2.alloc (.cells #[.int .i64 31, .int .i64 1] 52)).cell? ⟨w2.heap.size, 1, none⟩ = some (.int .i64 1) := by simp
        have hg : w2.heap.size < (w2.alloc (.cells #[.int .i64 31, .int .i64 1] 52)).heap.size := by simp
        obtain ⟨x0, x1, x2, ⟨u, hu⟩, ⟨v, hv⟩, f0, f1, hl⟩ := HQ3.out
        obtain ⟨_, _, _, _, _, _, _, hl2⟩ := HQ2.out
        have hne : ¬ (w.heap.size + 1 = w2.heap.size) := by omega
        have hne2 : ¬ (w2.heap.size = w.heap.size + 1) := by omega
        go_wp2_with fail
        generalize (w2.alloc (.cells #[.int .i64 31, .int .i64 1] 52)) = W at *
        generalize w2.heap.size = G at *
        have hbW : w.heap.size < W.heap.size := by omega
        clear hu hv f0 f1 u v x0 x2
        go_region_held3 (fun w' => w'.cell? ⟨G, 0, none⟩ = some (.int .i64 31) ∧ w'.cell? ⟨G, 1, none⟩ = some (.int .i64 1) ∧ w'.cell? ⟨w.heap.size, 1, none⟩ = some (.int .i64 A)) (go_keep)
          (first
            | (go_at_call 27; refine (countMonth A _ hdA).mono ?_; rintro e w4 ⟨k0, m0, d0, rfl, hc0, hb4⟩
               have HB4 := Lib.hid (from_drew hb4)
               have HC0 := Lib.hid hc0
               have hk0' := hc0.k1
               have hm0' := hc0.m1
               have hm1' := hc0.m2
               have hhf := hf_bd d0
               clear hb4 hc0
               have hwr : IntKind.i64.wrap (12 * (k0 : Int) + (m0 : Int) - 1 + k) = 12 * (k0 : Int) + (m0 : Int) - 1 + k := by rw [IntKind.wrap_i64]; omega
               have e0 : w4.cell? ⟨G, 0, none⟩ = some (.int .i64 31) := (HB4.out.cell (p := ⟨G, 0, none⟩) hg).trans c0
               have e1 : w4.cell? ⟨G, 1, none⟩ = some (.int .i64 1) := (HB4.out.cell (p := ⟨G, 1, none⟩) hg).trans c1
               have e2 : w4.cell? ⟨w.heap.size, 1, none⟩ = some (.int .i64 A) := (HB4.out.cell (p := ⟨w.heap.size, 1, none⟩) hbW).trans x1)
            | (go_at_call 26; refine (ofMonth (12 * (k0 : Int) + (m0 : Int) - 1 + k) _ ?_ ?_).mono ?_; omega; omega; rintro e w5 ⟨f, t, er, rfl, hP, hb5⟩
               have HB5 := Lib.hid (HB4.out.trans (hb5.mono HB4.out.size))
               have HPX := Lib.hid (HP.out f t er (.inr (.inl ⟨rfl, k0, m0, d0, HC0.out, hP⟩)))
               clear hb5 hP
               have g0 : w5.cell? ⟨G, 0, none⟩ = some (.int .i64 31) := (HB5.out.cell (p := ⟨G, 0, none⟩) hg).trans c0
               have g1 : w5.cell? ⟨G, 1, none⟩ = some (.int .i64 1) := (HB5.out.cell (p := ⟨G, 1, none⟩) hg).trans c1
               have g2 : w5.cell? ⟨w.heap.size, 1, none⟩ = some (.int .i64 A) := (HB5.out.cell (p := ⟨w.heap.size, 1, none⟩) hbW).trans x1
               obtain ⟨_, _, _, ⟨u, hu⟩, ⟨v, hv⟩, f0, f1, hl5⟩ := HQ3.out.below HB5.out
               have k0' : ((w5.setCell ⟨w.heap.size + 1, 0, none⟩ (.int .i64 f)).setCell ⟨w.heap.size + 1, 1, none⟩ (.int .i64 t)).cell? ⟨G, 0, none⟩ = some (.int .i64 31) := by
                 rw [World.cell?_setCell_other (h := fun e => hne (congrArg Addr.block e)), World.cell?_setCell_other (h := fun e => hne (congrArg Addr.block e))]; exact g0
               have k1' : ((w5.setCell ⟨w.heap.size + 1, 0, none⟩ (.int .i64 f)).setCell ⟨w.heap.size + 1, 1, none⟩ (.int .i64 t)).cell? ⟨G, 1, none⟩ = some (.int .i64 1) := by
                 rw [World.cell?_setCell_other (h := fun e => hne (congrArg Addr.block e)), World.cell?_setCell_other (h := fun e => hne (congrArg Addr.block e))]; exact g1))
        all_goals have HBZ := Lib.hid (HB3.out.trans (HB5.out.mono HB3.out.size))
        all_goals obtain ⟨t0, t1⟩ := put2 hu hv (.int .i64 f) (.int .i64 t)
        all_goals have HX := Lib.hid (put2_below HBZ.out (g := w.heap.size + 1) (by omega) (.int .i64 f) (.int .i64 t))
        all_goals go_wp2_with fail
        all_goals refine bodyPost_ret (v := .tuple #[.agg #[.int .i64 f, .int .i64 t], .int .i64 er]) (by simp [results, Tryd.results13, go_sem, t0, t1] <;> rfl) rfl ⟨_, _, _, rfl, HPX.out, HX.out⟩
  · have hzB : decide (schedE K A L = 0) = false := decide_eq_false hz
    obtain ⟨x0, x1, x2, ⟨u, hu⟩, ⟨v, hv⟩, f0, f1, hl⟩ := HQ1.out
    have HP : Hid (AtIs K A L k 0 0 (schedE K A L)) := .inl ⟨hz, rfl, rfl, rfl⟩
    obtain ⟨t0, t1⟩ := put2 hu hv (.int .i64 0) (.int .i64 0)
    have HX := Lib.hid (put2_below HBZ.out (g := w.heap.size + 1) (by omega) (.int .i64 0) (.int .i64 0))
    go_wp2_with fail
    refine bodyPost_ret (v := .tuple #[.agg #[.int .i64 0, .int .i64 0], .int .i64 (schedE K A L)]) (by simp [results, Tryd.results13, go_sem, t0, t1] <;> rfl) rfl ⟨_, _, _, rfl, HP.out, HX.out⟩
end Go.Proofs.YtckealcgbjgfhaaDoor
