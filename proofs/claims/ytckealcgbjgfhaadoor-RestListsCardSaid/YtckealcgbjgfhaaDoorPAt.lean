/-
  Promise C1: the period with a number; walks of countMonthly, ofMonths, ofDays and At.
-/
import Derived.Test.YtckealcgbjgfhaaDoorPBase
import Derived.Test.YtckealcgbjgfhaaDoorCMonths
namespace Go.Proofs.YtckealcgbjgfhaaDoor
open Go.RowKit

theorem rlt {W : World} {p : Addr} {v : Value} (h : W.cell? p = some v) : p.block < W.heap.size := lt_of_cell h
theorem civil_first : IsCivil 0 0 1 1 := ⟨by omega, by omega, by omega, by omega, by decide, by decide⟩
theorem civil_last : IsCivil 30 0 1 31 := ⟨by omega, by omega, by omega, by omega, by decide, by decide⟩
theorem mon_from {x : Int} {d : Int} (hc : IsCivil x 0 1 d) {n r e : Int} (h0 : 0 ≤ n) (h : MonE x n r e) : (2400 ≤ n ∧ r = 0 ∧ e = 3) ∨ (n < 2400 ∧ r = mDay n d ∧ e = 0) := by
  rcases h with ⟨a, b, c⟩ | ⟨_, _, k, m, d', hc', hr⟩
  · left
    refine ⟨?_, b, c⟩
    rcases a with a | a | a
    · rw [civil_dayB hc] at a; cases a
    · omega
    · omega
  · obtain ⟨rfl, rfl, rfl⟩ := hc'.unique hc
    have e1 : mIdx 0 1 n = n := by unfold mIdx; omega
    rw [e1] at hr
    rcases hr with ⟨p, q, s⟩ | ⟨p, p', q, s⟩
    · left; exact ⟨by omega, q, s⟩
    · right; exact ⟨p', q, s⟩
theorem mDay_bd {M d : Int} (h0 : 0 ≤ M) (h1 : M < 2400) (hd : 1 ≤ d) : 0 ≤ mDay M d ∧ mDay M d ≤ 73048 := by
  have := (civil_of_date (mDay_date h0 h1 hd)).day
  exact this

/-- Is a day of a month in its second half? -/
def hf (d : Int) : Int := if 16 ≤ d then 1 else 0
/-- The period with N months, or halves, ahead of it. -/
def MonP (M f t e : Int) : Prop := (2400 ≤ M ∧ f = 0 ∧ t = 0 ∧ e = 3) ∨ (M < 2400 ∧ f = mDay M 1 ∧ t = mDay M 31 ∧ e = 0)
def HalfP (N f t e : Int) : Prop := (4800 ≤ N ∧ f = 0 ∧ t = 0 ∧ e = 3) ∨ (N < 4800 ∧ N % 2 = 0 ∧ f = mDay (N / 2) 1 ∧ t = mDay (N / 2) 1 + 14 ∧ e = 0) ∨ (N < 4800 ∧ N % 2 = 1 ∧ f = mDay (N / 2) 1 + 15 ∧ t = mDay (N / 2) 31 ∧ e = 0)

set_option maxRecDepth 100000 in
set_option maxHeartbeats 1000000 in
theorem countHalf (x : Int) (w : World) (hx : dayB x = true) : Calls Tryd.prog 27 #[.agg #[.int .i64 15, .int .i64 2], .int .i64 x] w fun e w' => ∃ (k m : Nat) (d : Int), e = .returned (.int .i64 ((12 * (k : Int) + (m : Int) - 1) * 2 + hf d)) ∧ IsCivil x k m d ∧ Below w.heap.size w w' := by
  have HB0 := Lib.hid ((Below.refl w.heap.size w).alloc (Nat.le_refl _) (.cells #[.int .i64 15, .int .i64 2] 52))
  go_enter Tryd.func27, Tryd.ntmps27
  go_wp2_with fail
  refine (Civil_ok x _ hx).mono ?_
  rintro e w1 ⟨k, m, d, rfl, hc, hb1⟩
  have HC := Lib.hid hc
  have hk := hc.k1
  have hm1 := hc.m1
  have hm2 := hc.m2
  have hd1 := hc.d1
  have hd31 : d ≤ 31 := by have := hc.d2; have := md_bd (2000 + (k : Int)) m; omega
  have hs1 : (2000 + (k : Int) - 2000) = (k : Int) := by omega
  have HB1 := Lib.hid ((HB0.out.trans (hb1.mono HB0.out.size)).alloc (Nat.le_trans HB0.out.size hb1.size) (.cells #[.int .i64 (2000 + (k : Int)), .int .i64 (m : Int), .int .i64 d] 66))
  have x0 : w1.cell? ⟨w.heap.size, 0, none⟩ = some (.int .i64 15) := (hb1.cell (p := ⟨w.heap.size, 0, none⟩) (by simp)).trans (by simp)
  have x1 : w1.cell? ⟨w.heap.size, 1, none⟩ = some (.int .i64 2) := (hb1.cell (p := ⟨w.heap.size, 1, none⟩) (by simp)).trans (by simp)
  have hlt : w.heap.size < w1.heap.size := rlt x0
  clear hb1 hc
  have hq2 : (d - 1) / 15 ≤ 2 := by omega
  have hq0 : 0 ≤ (d - 1) / 15 := by omega
  have hw1 : IntKind.i64.wrap ((d - 1) / 15) = (d - 1) / 15 := by rw [IntKind.wrap_i64]; omega
  have HH : Hid (hf d = if 16 ≤ d then 1 else 0) := rfl
  go_wp2_with fail
  go_quiet (fail)
  go_wp2_with fail
  all_goals go_ret
  all_goals exact ⟨k, m, d, cret_int (by try rw [HH.out]
                                         try split
                                         all_goals omega), HC.out, below_dN HB1.out _⟩
set_option maxRecDepth 100000 in
set_option maxHeartbeats 1000000 in
theorem countMonth (x : Int) (w : World) (hx : dayB x = true) : Calls Tryd.prog 27 #[.agg #[.int .i64 31, .int .i64 1], .int .i64 x] w fun e w' => ∃ (k m : Nat) (d : Int), e = .returned (.int .i64 (12 * (k : Int) + (m : Int) - 1)) ∧ IsCivil x k m d ∧ Below w.heap.size w w' := by
  have HB0 := Lib.hid ((Below.refl w.heap.size w).alloc (Nat.le_refl _) (.cells #[.int .i64 31, .int .i64 1] 52))
  go_enter Tryd.func27, Tryd.ntmps27
  go_wp2_with fail
  refine (Civil_ok x _ hx).mono ?_
  rintro e w1 ⟨k, m, d, rfl, hc, hb1⟩
  have HC := Lib.hid hc
  have hk := hc.k1
  have hm1 := hc.m1
  have hm2 := hc.m2
  have hd1 := hc.d1
  have hd31 : d ≤ 31 := by have := hc.d2; have := md_bd (2000 + (k : Int)) m; omega
  have hs1 : (2000 + (k : Int) - 2000) = (k : Int) := by omega
  have HB1 := Lib.hid ((HB0.out.trans (hb1.mono HB0.out.size)).alloc (Nat.le_trans HB0.out.size hb1.size) (.cells #[.int .i64 (2000 + (k : Int)), .int .i64 (m : Int), .int .i64 d] 66))
  have x0 : w1.cell? ⟨w.heap.size, 0, none⟩ = some (.int .i64 31) := (hb1.cell (p := ⟨w.heap.size, 0, none⟩) (by simp)).trans (by simp)
  have x1 : w1.cell? ⟨w.heap.size, 1, none⟩ = some (.int .i64 1) := (hb1.cell (p := ⟨w.heap.size, 1, none⟩) (by simp)).trans (by simp)
  have hlt : w.heap.size < w1.heap.size := rlt x0
  clear hb1 hc
  have hq2 : (d - 1) / 31 ≤ 2 := by omega
  have hq0 : 0 ≤ (d - 1) / 31 := by omega
  have hw1 : IntKind.i64.wrap ((d - 1) / 31) = (d - 1) / 31 := by rw [IntKind.wrap_i64]; omega
  have HH : Hid (hf d = if 16 ≤ d then 1 else 0) := rfl
  go_wp2_with fail
  go_quiet (fail)
  go_wp2_with fail
  all_goals go_ret
  all_goals exact ⟨k, m, d, cret_int (by try rw [HH.out]
                                         try split
                                         all_goals omega), HC.out, below_dN HB1.out _⟩

/-- A shape in its box, and behind it a box for a period. -/
def SBox (w : World) (b : Nat) (D P : Int) : Prop := w.cell? ⟨b, 0, none⟩ = some (.int .i64 D) ∧ w.cell? ⟨b, 1, none⟩ = some (.int .i64 P) ∧ (∃ u, w.cell? ⟨b + 1, 0, none⟩ = some u) ∧ (∃ u, w.cell? ⟨b + 1, 1, none⟩ = some u) ∧ w.frozen? ⟨b + 1, 0, none⟩ = false ∧ w.frozen? ⟨b + 1, 1, none⟩ = false ∧ b + 1 < w.heap.size
theorem SBox.made (w : World) (D P : Int) (T U : TypeId) : SBox ((w.alloc (.cells #[.int .i64 D, .int .i64 P] T)).alloc (.cells #[.int .i64 0, .int .i64 0] U)) w.heap.size D P := by
  refine ⟨?_, ?_, ⟨.int .i64 0, ?_⟩, ⟨.int .i64 0, ?_⟩, ?_, ?_, ?_⟩ <;> simp
theorem SBox.below {w w' : World} {b : Nat} {D P : Int} (h : SBox w b D P) (hb : Below w.heap.size w w') : SBox w' b D P := by
  obtain ⟨a0, a1, ⟨u, hu⟩, ⟨v, hv⟩, f0, f1, hl⟩ := h
  exact ⟨(hb.cell (p := ⟨b, 0, none⟩) (by simp; omega)).trans a0, (hb.cell (p := ⟨b, 1, none⟩) (by simp; omega)).trans a1, ⟨u, (hb.cell (p := ⟨b + 1, 0, none⟩) hl).trans hu⟩, ⟨v, (hb.cell (p := ⟨b + 1, 1, none⟩) hl).trans hv⟩, (hb.frozen (p := ⟨b + 1, 0, none⟩) hl).trans f0, (hb.frozen (p := ⟨b + 1, 1, none⟩) hl).trans f1, Nat.lt_of_lt_of_le hl hb.size⟩
theorem SBox.drewN {w : World} {b : Nat} {D P : Int} (h : SBox w b D P) (k : Nat) : SBox (w.drewN k) b D P := h
theorem put2 {w : World} {g : Nat} {u v : Value} (hu : w.cell? ⟨g, 0, none⟩ = some u) (hv : w.cell? ⟨g, 1, none⟩ = some v) (x y : Value) : ((w.setCell ⟨g, 0, none⟩ x).setCell ⟨g, 1, none⟩ y).cell? ⟨g, 0, none⟩ = some x ∧ ((w.setCell ⟨g, 0, none⟩ x).setCell ⟨g, 1, none⟩ y).cell? ⟨g, 1, none⟩ = some y := by
  have n01 : (⟨g, 0, none⟩ : Addr) ≠ ⟨g, 1, none⟩ := by simp
  constructor
  · rw [World.cell?_setCell_other (h := n01.symm)]
    exact World.cell?_setCell_same _ _ _ hu
  · exact World.cell?_setCell_same _ _ _ ((World.cell?_setCell_other _ _ _ _ n01).trans hv)
theorem put2_below {B : Nat} {a w : World} (h : Below B a w) {g : Nat} (hg : B ≤ g) (x y : Value) : Below B a ((w.setCell ⟨g, 0, none⟩ x).setCell ⟨g, 1, none⟩ y) := (h.setCell (p := ⟨g, 0, none⟩) hg x).setCell (p := ⟨g, 1, none⟩) hg y

theorem put2_alloc {w : World} {g : Nat} {u v : Value} (hu : w.cell? ⟨g, 0, none⟩ = some u) (hv : w.cell? ⟨g, 1, none⟩ = some v) (x y : Value) (o : Obj) : (((w.setCell ⟨g, 0, none⟩ x).setCell ⟨g, 1, none⟩ y).alloc o).cell? ⟨g, 0, none⟩ = some x ∧ (((w.setCell ⟨g, 0, none⟩ x).setCell ⟨g, 1, none⟩ y).alloc o).cell? ⟨g, 1, none⟩ = some y := by
  obtain ⟨h0, h1⟩ := put2 hu hv x y
  have hg := rlt h0
  rw [World.cell?_alloc_past (w := (w.setCell ⟨g, 0, none⟩ x).setCell ⟨g, 1, none⟩ y) o g 0 hg, World.cell?_alloc_past (w := (w.setCell ⟨g, 0, none⟩ x).setCell ⟨g, 1, none⟩ y) o g 1 hg]
  exact ⟨h0, h1⟩
set_option maxRecDepth 100000 in
set_option maxHeartbeats 1000000 in
theorem ofMonth (M : Int) (w : World) (h0 : 0 ≤ M) (h1 : M ≤ 100000) : Calls Tryd.prog 26 #[.agg #[.int .i64 31, .int .i64 1], .int .i64 M] w fun e w' => ∃ f t er : Int, e = .returned (.tuple #[.agg #[.int .i64 f, .int .i64 t], .int .i64 er]) ∧ MonP M f t er ∧ Below w.heap.size w w' := by
  have HB0 := Lib.hid (((Below.refl w.heap.size w).alloc (Nat.le_refl _) (.cells #[.int .i64 31, .int .i64 1] 52)).alloc (by simp) (.cells #[.int .i64 0, .int .i64 0] 24))
  have HS0 := Lib.hid (SBox.made w 31 1 52 24)
  have hm0 : 0 ≤ M := by omega
  go_enter Tryd.func26, Tryd.ntmps26
  go_wp2_with fail
  go_quiet (fail)
  go_wp2_with fail
  refine (Months_any 0 (M) _).mono ?_
  rintro e w1 ⟨r1, e1, rfl, hE1, hb1⟩
  have HB1 := Lib.hid ((below_dN HB0.out _).trans (hb1.mono (below_dN HB0.out _).size))
  have HS1 := Lib.hid ((HS0.out.drewN _).below hb1)
  clear hb1
  obtain ⟨x0, x1, ⟨u, hu⟩, ⟨v, hv⟩, f0, f1, hl⟩ := HS1.out
  rcases mon_from civil_first hm0 hE1 with ⟨hM, rfl, rfl⟩ | ⟨hM, rfl, rfl⟩
  · obtain ⟨t0, t1⟩ := put2 hu hv (.int .i64 0) (.int .i64 0)
    have HX := Lib.hid (put2_below HB1.out (g := w.heap.size + 1) (by omega) (.int .i64 0) (.int .i64 0))
    go_wp2_with fail
    refine bodyPost_ret (v := .tuple #[.agg #[.int .i64 0, .int .i64 0], .int .i64 3]) (by simp [results, Tryd.results26, go_sem, t0, t1] <;> rfl) rfl ⟨0, 0, 3, rfl, .inl ⟨by omega, rfl, rfl, rfl⟩, HX.out⟩
  · go_wp2_with fail
    refine (Months_any 30 (M) _).mono ?_
    rintro e w2 ⟨r2, e2, rfl, hE2, hb2⟩
    have HB2 := Lib.hid (HB1.out.trans (hb2.mono HB1.out.size))
    have HS2 := Lib.hid (HS1.out.below hb2)
    clear hb2 x0 x1 hu hv f0 f1 hl u v
    obtain ⟨rfl, rfl⟩ : r2 = mDay (M) 31 ∧ e2 = 0 := by
      rcases mon_from civil_last hm0 hE2 with ⟨h, _, _⟩ | ⟨_, h, h'⟩
      · omega
      · exact ⟨h, h'⟩
    have hb1' := mDay_bd (d := 1) hm0 hM (by omega)
    have hb2' := mDay_bd (d := 31) hm0 hM (by omega)
    have HP : Hid (MonP M (mDay M 1) (mDay M 31) 0) := .inr ⟨hM, rfl, rfl, rfl⟩
    generalize mDay (M) 1 = F at *
    generalize mDay (M) 31 = T at *
    obtain ⟨x0, x1, ⟨u, hu⟩, ⟨v, hv⟩, f0, f1, hl⟩ := HS2.out
    have HT := Lib.hid (fun x y o => put2_alloc hu hv x y o)
    have hX := fun x y => put2_below HB2.out (g := w.heap.size + 1) (by omega) x y
    have HX := Lib.hid (fun x y o => (hX x y).alloc (hX x y).size o)
    clear hX
    have hl0 : w.heap.size < w2.heap.size := by omega
    go_wp2_with fail
    refine bodyPost_ret (v := .tuple #[.agg #[.int .i64 F, .int .i64 T], .int .i64 0]) (by simp [results, Tryd.results26, go_sem, (HT.out _ _ _).1, (HT.out _ _ _).2] <;> rfl) rfl ⟨_, _, 0, rfl, HP.out, HX.out _ _ _⟩
set_option maxRecDepth 100000 in
set_option maxHeartbeats 1000000 in
theorem ofHalf0 (N : Int) (w : World) (h0 : 0 ≤ N) (h1 : N ≤ 100000)(hp : N % 2 = 0) : Calls Tryd.prog 26 #[.agg #[.int .i64 15, .int .i64 2], .int .i64 N] w fun e w' => ∃ f t er : Int, e = .returned (.tuple #[.agg #[.int .i64 f, .int .i64 t], .int .i64 er]) ∧ HalfP N f t er ∧ Below w.heap.size w w' := by
  have HB0 := Lib.hid (((Below.refl w.heap.size w).alloc (Nat.le_refl _) (.cells #[.int .i64 15, .int .i64 2] 52)).alloc (by simp) (.cells #[.int .i64 0, .int .i64 0] 24))
  have HS0 := Lib.hid (SBox.made w 15 2 52 24)
  have hm0 : 0 ≤ N / 2 := by omega
  go_enter Tryd.func26, Tryd.ntmps26
  go_wp2_with fail
  go_quiet (fail)
  go_wp2_with fail
  refine (Months_any 0 (N / 2) _).mono ?_
  rintro e w1 ⟨r1, e1, rfl, hE1, hb1⟩
  have HB1 := Lib.hid ((below_dN HB0.out _).trans (hb1.mono (below_dN HB0.out _).size))
  have HS1 := Lib.hid ((HS0.out.drewN _).below hb1)
  clear hb1
  obtain ⟨x0, x1, ⟨u, hu⟩, ⟨v, hv⟩, f0, f1, hl⟩ := HS1.out
  rcases mon_from civil_first hm0 hE1 with ⟨hM, rfl, rfl⟩ | ⟨hM, rfl, rfl⟩
  · obtain ⟨t0, t1⟩ := put2 hu hv (.int .i64 0) (.int .i64 0)
    have HX := Lib.hid (put2_below HB1.out (g := w.heap.size + 1) (by omega) (.int .i64 0) (.int .i64 0))
    go_wp2_with fail
    refine bodyPost_ret (v := .tuple #[.agg #[.int .i64 0, .int .i64 0], .int .i64 3]) (by simp [results, Tryd.results26, go_sem, t0, t1] <;> rfl) rfl ⟨0, 0, 3, rfl, .inl ⟨by omega, rfl, rfl, rfl⟩, HX.out⟩
  · go_wp2_with fail
    refine (Months_any 30 (N / 2) _).mono ?_
    rintro e w2 ⟨r2, e2, rfl, hE2, hb2⟩
    have HB2 := Lib.hid (HB1.out.trans (hb2.mono HB1.out.size))
    have HS2 := Lib.hid (HS1.out.below hb2)
    clear hb2 x0 x1 hu hv f0 f1 hl u v
    obtain ⟨rfl, rfl⟩ : r2 = mDay (N / 2) 31 ∧ e2 = 0 := by
      rcases mon_from civil_last hm0 hE2 with ⟨h, _, _⟩ | ⟨_, h, h'⟩
      · omega
      · exact ⟨h, h'⟩
    have hb1' := mDay_bd (d := 1) hm0 hM (by omega)
    have hb2' := mDay_bd (d := 31) hm0 hM (by omega)
    have HP : Hid (HalfP N (mDay (N / 2) 1) (mDay (N / 2) 1 + 15 - 1) 0) := .inr (.inl ⟨by omega, hp, rfl, by omega, rfl⟩)
    generalize mDay (N / 2) 1 = F at *
    generalize mDay (N / 2) 31 = T at *
    obtain ⟨x0, x1, ⟨u, hu⟩, ⟨v, hv⟩, f0, f1, hl⟩ := HS2.out
    have HT := Lib.hid (fun x y o => put2_alloc hu hv x y o)
    have hX := fun x y => put2_below HB2.out (g := w.heap.size + 1) (by omega) x y
    have HX := Lib.hid (fun x y o => (hX x y).alloc (hX x y).size o)
    clear hX
    have hl0 : w.heap.size < w2.heap.size := by omega
    go_wp2_with fail
    refine bodyPost_ret (v := .tuple #[.agg #[.int .i64 F, .int .i64 (F + 15 - 1)], .int .i64 0]) (by simp [results, Tryd.results26, go_sem, (HT.out _ _ _).1, (HT.out _ _ _).2] <;> rfl) rfl ⟨_, _, 0, rfl, HP.out, HX.out _ _ _⟩
set_option maxRecDepth 100000 in
set_option maxHeartbeats 1000000 in
theorem ofHalf1 (N : Int) (w : World) (h0 : 0 ≤ N) (h1 : N ≤ 100000)(hp : N % 2 = 1) : Calls Tryd.prog 26 #[.agg #[.int .i64 15, .int .i64 2], .int .i64 N] w fun e w' => ∃ f t er : Int, e = .returned (.tuple #[.agg #[.int .i64 f, .int .i64 t], .int .i64 er]) ∧ HalfP N f t er ∧ Below w.heap.size w w' := by
  have HB0 := Lib.hid (((Below.refl w.heap.size w).alloc (Nat.le_refl _) (.cells #[.int .i64 15, .int .i64 2] 52)).alloc (by simp) (.cells #[.int .i64 0, .int .i64 0] 24))
  have HS0 := Lib.hid (SBox.made w 15 2 52 24)
  have hm0 : 0 ≤ N / 2 := by omega
  go_enter Tryd.func26, Tryd.ntmps26
  go_wp2_with fail
  go_quiet (fail)
  go_wp2_with fail
  refine (Months_any 0 (N / 2) _).mono ?_
  rintro e w1 ⟨r1, e1, rfl, hE1, hb1⟩
  have HB1 := Lib.hid ((below_dN HB0.out _).trans (hb1.mono (below_dN HB0.out _).size))
  have HS1 := Lib.hid ((HS0.out.drewN _).below hb1)
  clear hb1
  obtain ⟨x0, x1, ⟨u, hu⟩, ⟨v, hv⟩, f0, f1, hl⟩ := HS1.out
  rcases mon_from civil_first hm0 hE1 with ⟨hM, rfl, rfl⟩ | ⟨hM, rfl, rfl⟩
  · obtain ⟨t0, t1⟩ := put2 hu hv (.int .i64 0) (.int .i64 0)
    have HX := Lib.hid (put2_below HB1.out (g := w.heap.size + 1) (by omega) (.int .i64 0) (.int .i64 0))
    go_wp2_with fail
    refine bodyPost_ret (v := .tuple #[.agg #[.int .i64 0, .int .i64 0], .int .i64 3]) (by simp [results, Tryd.results26, go_sem, t0, t1] <;> rfl) rfl ⟨0, 0, 3, rfl, .inl ⟨by omega, rfl, rfl, rfl⟩, HX.out⟩
  · go_wp2_with fail
    refine (Months_any 30 (N / 2) _).mono ?_
    rintro e w2 ⟨r2, e2, rfl, hE2, hb2⟩
    have HB2 := Lib.hid (HB1.out.trans (hb2.mono HB1.out.size))
    have HS2 := Lib.hid (HS1.out.below hb2)
    clear hb2 x0 x1 hu hv f0 f1 hl u v
    obtain ⟨rfl, rfl⟩ : r2 = mDay (N / 2) 31 ∧ e2 = 0 := by
      rcases mon_from civil_last hm0 hE2 with ⟨h, _, _⟩ | ⟨_, h, h'⟩
      · omega
      · exact ⟨h, h'⟩
    have hb1' := mDay_bd (d := 1) hm0 hM (by omega)
    have hb2' := mDay_bd (d := 31) hm0 hM (by omega)
    have HP : Hid (HalfP N (mDay (N / 2) 1 + 15) (mDay (N / 2) 31) 0) := .inr (.inr ⟨by omega, hp, rfl, rfl, rfl⟩)
    generalize mDay (N / 2) 1 = F at *
    generalize mDay (N / 2) 31 = T at *
    obtain ⟨x0, x1, ⟨u, hu⟩, ⟨v, hv⟩, f0, f1, hl⟩ := HS2.out
    have HT := Lib.hid (fun x y o => put2_alloc hu hv x y o)
    have hX := fun x y => put2_below HB2.out (g := w.heap.size + 1) (by omega) x y
    have HX := Lib.hid (fun x y o => (hX x y).alloc (hX x y).size o)
    clear hX
    have hl0 : w.heap.size < w2.heap.size := by omega
    go_wp2_with fail
    refine bodyPost_ret (v := .tuple #[.agg #[.int .i64 (F + 15), .int .i64 T], .int .i64 0]) (by simp [results, Tryd.results26, go_sem, (HT.out _ _ _).1, (HT.out _ _ _).2] <;> rfl) rfl ⟨_, _, 0, rfl, HP.out, HX.out _ _ _⟩
/-- A period of weeks: n days from A + n * k on. -/
def WeekP (n A k f t e : Int) : Prop := (73048 < A + n * k + n - 1 ∧ f = 0 ∧ t = 0 ∧ e = 3) ∨ (A + n * k + n - 1 ≤ 73048 ∧ f = A + n * k ∧ t = A + n * k + n - 1 ∧ e = 0)
theorem third_cell (w : World) (o1 o2 : Obj) (cs : Array Value) (T : TypeId) (j : Nat) (v : Value) (h : cs[j]? = some v) : (((w.alloc o1).alloc o2).alloc (.cells cs T)).cell? ⟨w.heap.size + 1 + 1, j, none⟩ = some v := by
  have e : w.heap.size + 1 + 1 = ((w.alloc o1).alloc o2).heap.size := by simp
  rw [e, World.cell?_alloc_at (w := (w.alloc o1).alloc o2) _ _ _ _ rfl]
  exact h
set_option maxRecDepth 100000 in
set_option maxHeartbeats 1000000 in
theorem ofWeek (A k : Int) (w : World) (h0 : 0 ≤ A) (h1 : A ≤ 73048) (hk0 : 0 ≤ k) (hk1 : k ≤ 5000) : Calls Tryd.prog 28 #[.agg #[.int .i64 7, .int .i64 0], .int .i64 A, .int .i64 k] w fun e w' => ∃ f t er : Int, e = .returned (.tuple #[.agg #[.int .i64 f, .int .i64 t], .int .i64 er]) ∧ WeekP 7 A k f t er ∧ Below w.heap.size w w' := by
  have HB0 := Lib.hid (((Below.refl w.heap.size w).alloc (Nat.le_refl _) (.cells #[.int .i64 7, .int .i64 0] 52)).alloc (by simp) (.cells #[.int .i64 0, .int .i64 0] 24))
  have HS0 := Lib.hid (SBox.made w 7 0 52 24)
  have HB1 := Lib.hid (HB0.out.alloc HB0.out.size (.cells #[.int .i64 (A + k * 7), .int .i64 (A + k * 7 + 7 - 1)] 24))
  have HS1 := Lib.hid (HS0.out.below ((Below.refl _ _).alloc (Nat.le_refl _) (.cells #[.int .i64 (A + k * 7), .int .i64 (A + k * 7 + 7 - 1)] 24)))
  go_enter Tryd.func28, Tryd.ntmps28
  go_wp2_with fail
  refine (hasDays_any (A + k * 7) (A + k * 7 + 7 - 1) _).mono ?_
  rintro e w1 ⟨rfl, hb1⟩
  have HB2 := Lib.hid (HB1.out.trans (hb1.mono HB1.out.size))
  have HS2 := Lib.hid (HS1.out.below hb1)
  have y0 : w1.cell? ⟨w.heap.size + 1 + 1, 0, none⟩ = some (.int .i64 (A + k * 7)) := (hb1.cell (p := ⟨w.heap.size + 1 + 1, 0, none⟩) (by simp)).trans (third_cell w _ _ _ _ 0 _ rfl)
  have y1 : w1.cell? ⟨w.heap.size + 1 + 1, 1, none⟩ = some (.int .i64 (A + k * 7 + 7 - 1)) := (hb1.cell (p := ⟨w.heap.size + 1 + 1, 1, none⟩) (by simp)).trans (third_cell w _ _ _ _ 1 _ rfl)
  clear hb1
  obtain ⟨x0, x1, ⟨u, hu⟩, ⟨v, hv⟩, f0, f1, hl⟩ := HS2.out
  cases hp : perB (A + k * 7) (A + k * 7 + 7 - 1)
  · have hbad : 73048 < A + 7 * k + 7 - 1 := by
      have : ¬ (0 ≤ A + k * 7 ∧ A + k * 7 ≤ A + k * 7 + 7 - 1 ∧ A + k * 7 + 7 - 1 ≤ 73048) := fun h => by rw [perB_iff.2 h] at hp; cases hp
      omega
    obtain ⟨t0, t1⟩ := put2 hu hv (.int .i64 0) (.int .i64 0)
    have HX := Lib.hid (put2_below HB2.out (g := w.heap.size + 1) (by omega) (.int .i64 0) (.int .i64 0))
    go_wp2_with fail
    refine bodyPost_ret (v := .tuple #[.agg #[.int .i64 0, .int .i64 0], .int .i64 3]) (by simp [results, Tryd.results28, go_sem, t0, t1] <;> rfl) rfl ⟨0, 0, 3, rfl, .inl ⟨hbad, rfl, rfl, rfl⟩, HX.out⟩
  · obtain ⟨_, _, hok⟩ := perB_iff.1 hp
    have HP : Hid (WeekP 7 A k (A + k * 7) (A + k * 7 + 7 - 1) 0) := .inr ⟨by omega, by omega, by omega, rfl⟩
    obtain ⟨t0, t1⟩ := put2 hu hv (.int .i64 (A + k * 7)) (.int .i64 (A + k * 7 + 7 - 1))
    have HX := Lib.hid (put2_below HB2.out (g := w.heap.size + 1) (by omega) (.int .i64 (A + k * 7)) (.int .i64 (A + k * 7 + 7 - 1)))
    go_wp2_with fail
    refine bodyPost_ret (v := .tuple #[.agg #[.int .i64 (A + k * 7), .int .i64 (A + k * 7 + 7 - 1)], .int .i64 0]) (by simp [results, Tryd.results28, go_sem, t0, t1] <;> rfl) rfl ⟨_, _, 0, rfl, HP.out, HX.out⟩
set_option maxRecDepth 100000 in
set_option maxHeartbeats 1000000 in
theorem ofTwo (A k : Int) (w : World) (h0 : 0 ≤ A) (h1 : A ≤ 73048) (hk0 : 0 ≤ k) (hk1 : k ≤ 5000) : Calls Tryd.prog 28 #[.agg #[.int .i64 14, .int .i64 0], .int .i64 A, .int .i64 k] w fun e w' => ∃ f t er : Int, e = .returned (.tuple #[.agg #[.int .i64 f, .int .i64 t], .int .i64 er]) ∧ WeekP 14 A k f t er ∧ Below w.heap.size w w' := by
  have HB0 := Lib.hid (((Below.refl w.heap.size w).alloc (Nat.le_refl _) (.cells #[.int .i64 14, .int .i64 0] 52)).alloc (by simp) (.cells #[.int .i64 0, .int .i64 0] 24))
  have HS0 := Lib.hid (SBox.made w 14 0 52 24)
  have HB1 := Lib.hid (HB0.out.alloc HB0.out.size (.cells #[.int .i64 (A + k * 14), .int .i64 (A + k * 14 + 14 - 1)] 24))
  have HS1 := Lib.hid (HS0.out.below ((Below.refl _ _).alloc (Nat.le_refl _) (.cells #[.int .i64 (A + k * 14), .int .i64 (A + k * 14 + 14 - 1)] 24)))
  go_enter Tryd.func28, Tryd.ntmps28
  go_wp2_with fail
  refine (hasDays_any (A + k * 14) (A + k * 14 + 14 - 1) _).mono ?_
  rintro e w1 ⟨rfl, hb1⟩
  have HB2 := Lib.hid (HB1.out.trans (hb1.mono HB1.out.size))
  have HS2 := Lib.hid (HS1.out.below hb1)
  have y0 : w1.cell? ⟨w.heap.size + 1 + 1, 0, none⟩ = some (.int .i64 (A + k * 14)) := (hb1.cell (p := ⟨w.heap.size + 1 + 1, 0, none⟩) (by simp)).trans (third_cell w _ _ _ _ 0 _ rfl)
  have y1 : w1.cell? ⟨w.heap.size + 1 + 1, 1, none⟩ = some (.int .i64 (A + k * 14 + 14 - 1)) := (hb1.cell (p := ⟨w.heap.size + 1 + 1, 1, none⟩) (by simp)).trans (third_cell w _ _ _ _ 1 _ rfl)
  clear hb1
  obtain ⟨x0, x1, ⟨u, hu⟩, ⟨v, hv⟩, f0, f1, hl⟩ := HS2.out
  cases hp : perB (A + k * 14) (A + k * 14 + 14 - 1)
  · have hbad : 73048 < A + 14 * k + 14 - 1 := by
      have : ¬ (0 ≤ A + k * 14 ∧ A + k * 14 ≤ A + k * 14 + 14 - 1 ∧ A + k * 14 + 14 - 1 ≤ 73048) := fun h => by rw [perB_iff.2 h] at hp; cases hp
      omega
    obtain ⟨t0, t1⟩ := put2 hu hv (.int .i64 0) (.int .i64 0)
    have HX := Lib.hid (put2_below HB2.out (g := w.heap.size + 1) (by omega) (.int .i64 0) (.int .i64 0))
    go_wp2_with fail
    refine bodyPost_ret (v := .tuple #[.agg #[.int .i64 0, .int .i64 0], .int .i64 3]) (by simp [results, Tryd.results28, go_sem, t0, t1] <;> rfl) rfl ⟨0, 0, 3, rfl, .inl ⟨hbad, rfl, rfl, rfl⟩, HX.out⟩
  · obtain ⟨_, _, hok⟩ := perB_iff.1 hp
    have HP : Hid (WeekP 14 A k (A + k * 14) (A + k * 14 + 14 - 1) 0) := .inr ⟨by omega, by omega, by omega, rfl⟩
    obtain ⟨t0, t1⟩ := put2 hu hv (.int .i64 (A + k * 14)) (.int .i64 (A + k * 14 + 14 - 1))
    have HX := Lib.hid (put2_below HB2.out (g := w.heap.size + 1) (by omega) (.int .i64 (A + k * 14)) (.int .i64 (A + k * 14 + 14 - 1)))
    go_wp2_with fail
    refine bodyPost_ret (v := .tuple #[.agg #[.int .i64 (A + k * 14), .int .i64 (A + k * 14 + 14 - 1)], .int .i64 0]) (by simp [results, Tryd.results28, go_sem, t0, t1] <;> rfl) rfl ⟨_, _, 0, rfl, HP.out, HX.out⟩
end Go.Proofs.YtckealcgbjgfhaaDoor
