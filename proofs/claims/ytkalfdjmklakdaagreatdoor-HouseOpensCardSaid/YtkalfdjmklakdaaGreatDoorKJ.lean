/-
  Promise C1: the walk of the reference's PeriodAt.
  Promise C1: the walk of the reference's PeriodAt.
-/
import Derived.Test.YtkalfdjmklakdaaGreatDoorKI
namespace Go.Proofs.YtkalfdjmklakdaaGreatDoor.Cal
open Go.RowKit
def PBx (w : World) (g : Nat) (f t : Int) : Prop := w.cell? ⟨g, 0, none⟩ = some (.int .i64 f) ∧ w.cell? ⟨g, 1, none⟩ = some (.int .i64 t) ∧ w.frozen? ⟨g, 0, none⟩ = false ∧ w.frozen? ⟨g, 1, none⟩ = false
theorem PBx.made (w : World) (f t : Int) (T : TypeId) : PBx (w.alloc (.cells #[.int .i64 f, .int .i64 t] T)) w.heap.size f t := by
 refine ⟨?_, ?_, ?_, ?_⟩ <;> simp
theorem PBx.below {w w' : World} {g : Nat} {f t : Int} (h : PBx w g f t) (hb : Below w.heap.size w w') : PBx w' g f t := by
 obtain ⟨a0, a1, b0, b1⟩ := h
 have hg := rlt a0
 exact ⟨(hb.cell (p := ⟨g, 0, none⟩) hg).trans a0, (hb.cell (p := ⟨g, 1, none⟩) hg).trans a1, (hb.frozen (p := ⟨g, 0, none⟩) hg).trans b0, (hb.frozen (p := ⟨g, 1, none⟩) hg).trans b1⟩
theorem PBx.setF {w : World} {g : Nat} {f t : Int} (h : PBx w g f t) (x : Int) : PBx (w.setCell ⟨g, 0, none⟩ (.int .i64 x)) g x t := by
 obtain ⟨a0, a1, b0, b1⟩ := h
 have n01 : (⟨g, 0, none⟩ : Addr) ≠ ⟨g, 1, none⟩ := by simp
 exact ⟨World.cell?_setCell_same _ _ _ a0, (World.cell?_setCell_other _ _ _ _ n01).trans a1, by rw [World.frozen?_setCell]; exact b0, by rw [World.frozen?_setCell]; exact b1⟩
theorem PBx.setT {w : World} {g : Nat} {f t : Int} (h : PBx w g f t) (x : Int) : PBx (w.setCell ⟨g, 1, none⟩ (.int .i64 x)) g f x := by
 obtain ⟨a0, a1, b0, b1⟩ := h
 have n01 : (⟨g, 1, none⟩ : Addr) ≠ ⟨g, 0, none⟩ := by simp
 exact ⟨(World.cell?_setCell_other _ _ _ _ n01).trans a0, World.cell?_setCell_same _ _ _ a1, by rw [World.frozen?_setCell]; exact b0, by rw [World.frozen?_setCell]; exact b1⟩
theorem QBox.other {w : World} {b g : Nat} {K A L : Int} (h : QBox w b K A L) (hg : g ≠ b ∧ g ≠ b + 1) (j : Nat) (x : Value) : QBox (w.setCell ⟨g, j, none⟩ x) b K A L := by
 obtain ⟨a0, a1, a2, ⟨u, hu⟩, ⟨v, hv⟩, f0, f1, hl⟩ := h
 have n0 : ∀ i, (⟨g, j, none⟩ : Addr) ≠ ⟨b, i, none⟩ := fun i e => hg.1 (congrArg Addr.block e)
 have n1 : ∀ i, (⟨g, j, none⟩ : Addr) ≠ ⟨b + 1, i, none⟩ := fun i e => hg.2 (congrArg Addr.block e)
 refine ⟨(World.cell?_setCell_other _ _ _ _ (n0 0)).trans a0, (World.cell?_setCell_other _ _ _ _ (n0 1)).trans a1, (World.cell?_setCell_other _ _ _ _ (n0 2)).trans a2, ⟨u, (World.cell?_setCell_other _ _ _ _ (n1 0)).trans hu⟩, ⟨v, (World.cell?_setCell_other _ _ _ _ (n1 1)).trans hv⟩, by rw [World.frozen?_setCell]; exact f0, by rw [World.frozen?_setCell]; exact f1, by simpa [World.setCell] using hl⟩
theorem PBx.other {w : World} {g h : Nat} {f t : Int} (hp : PBx w g f t) (hg : h ≠ g) (j : Nat) (x : Value) : PBx (w.setCell ⟨h, j, none⟩ x) g f t := by
 obtain ⟨a0, a1, b0, b1⟩ := hp
 have n : ∀ i, (⟨h, j, none⟩ : Addr) ≠ ⟨g, i, none⟩ := fun i e => hg (congrArg Addr.block e)
 exact ⟨(World.cell?_setCell_other _ _ _ _ (n 0)).trans a0, (World.cell?_setCell_other _ _ _ _ (n 1)).trans a1, by rw [World.frozen?_setCell]; exact b0, by rw [World.frozen?_setCell]; exact b1⟩
theorem civil_fm {A : Int} {k0 m0 : Nat} {d0 : Int} (h : IsCivil A k0 m0 d0) : A = fm (12 * (k0 : Int) + (m0 : Int) - 1) + (d0 - 1) ∧ 0 ≤ 12 * (k0 : Int) + (m0 : Int) - 1 ∧ 12 * (k0 : Int) + (m0 : Int) - 1 < 2400 ∧ d0 ≤ md (2000 + (12 * (k0 : Int) + (m0 : Int) - 1) / 12) ((12 * (k0 : Int) + (m0 : Int) - 1) % 12 + 1) := by
 have hk := h.k1
 have hm1 := h.m1
 have hm2 := h.m2
 have he := h.eq
 have hd := h.d2
 have e1 : (12 * (k0 : Int) + (m0 : Int) - 1) / 12 = (k0 : Int) := by omega
 have e2 : (12 * (k0 : Int) + (m0 : Int) - 1) % 12 = (m0 : Int) - 1 := by omega
 refine ⟨?_, by omega, by omega, ?_⟩
 ·unfold fm
  rw [e1, e2, show ((k0 : Int)).toNat = k0 from by omega, show ((m0 : Int) - 1).toNat = m0 - 1 from by omega]
  omega
 ·rw [e1, e2, show (m0 : Int) - 1 + 1 = m0 from by omega]
  exact hd
def offB (K d0 : Int) : Int := if K = 3 ∧ 16 ≤ d0 then 15 else 0
theorem off_beg {K d0 j : Int} (h1 : offB K d0 ≤ j) (h2 : j ≤ d0 - 1) : begB K (j + 1) = decide (j = offB K d0) := by
 unfold offB at h1 ⊢
 unfold begB
 rw [Bool.eq_iff_iff]
 simp only [Bool.or_eq_true, Bool.and_eq_true, decide_eq_true_eq]
 split at h1 <;> rename_i hc
 ·rw [if_pos hc]; omega
 ·rw [if_neg hc]; omega
theorem off_stt {K d0 M0 : Int} (hK : K = 3 ∨ K = 4) : fm M0 + offB K d0 = stt K (if K = 3 then M0 * 2 + hf d0 else M0) := by
 unfold offB hf
 rcases hK with rfl | rfl
 ·rw [if_pos rfl, stt3]
  by_cases h : 16 ≤ d0
  ·rw [if_pos ⟨rfl, h⟩, if_pos h, show (M0 * 2 + 1) / 2 = M0 from by omega]; omega
  ·rw [if_neg (by omega), if_neg h, show (M0 * 2 + 0) / 2 = M0 from by omega]; omega
 ·rw [if_neg (by omega), if_neg (by omega), stt4]; omega
end Go.Proofs.YtkalfdjmklakdaaGreatDoor.Cal
namespace Go.Proofs.YtkalfdjmklakdaaGreatDoor.Cal
open Go.RowKit
def fromOf (w : World) (g : Nat) : Nat := match w.cell? ⟨g, 0, none⟩ with
 | some (.int _ x) => x.toNat
 | _ => 0
theorem fromOf_eq {w : World} {g : Nat} {x : Int} (h : w.cell? ⟨g, 0, none⟩ = some (.int .i64 x)) : fromOf w g = x.toNat := by unfold fromOf; rw [h]
theorem civil_ex {x : Int} (h : dayB x = true) : ∃ (k m : Nat) (d : Int), IsCivil x k m d := by
 obtain ⟨h0, h1⟩ := dayB_iff.1 h
 -- the year
 have hy : ∀ K : Nat, K ≤ 200 → x < ys K → ∃ k, k < K ∧ ys k ≤ x ∧ x < ys (k + 1) := by
  intro K
  induction K with
  | zero => intro _ hx; exact absurd hx (by show ¬ x < 0; omega)
  | succ K ih =>
    intro hK hx
    by_cases h : x < ys K
    ·obtain ⟨k, a, b, c⟩ := ih (by omega) h
     exact ⟨k, by omega, b, c⟩
    ·exact ⟨K, by omega, by omega, hx⟩
 obtain ⟨k, hk, hk0, hk1⟩ := hy 200 (by omega) (by rw [ys_200]; omega)
 have hys : ys (k + 1) = ys k + yd (2000 + k) := rfl
 -- the month
 have hm : ∀ m : Nat, m ≤ 12 → x - ys k < cumN (2000 + k) m → ∃ i, i < m ∧ cumN (2000 + k) i ≤ x - ys k ∧ x - ys k < cumN (2000 + k) (i + 1) := by
  intro m
  induction m with
  | zero => intro _ hx; exact absurd hx (by show ¬ x - ys k < 0; omega)
  | succ m ih =>
    intro hm hx
    by_cases h : x - ys k < cumN (2000 + k) m
    ·obtain ⟨i, a, b, c⟩ := ih (by omega) h
     exact ⟨i, by omega, b, c⟩
    ·exact ⟨m, by omega, by omega, hx⟩
 obtain ⟨i, hi, hi0, hi1⟩ := hm 12 (by omega) (by rw [cumN_12]; omega)
 rw [cumN] at hi1
 refine ⟨k, i + 1, x - ys k - cumN (2000 + k) i + 1, ⟨hk, by omega, by omega, by omega, ?_, ?_⟩⟩
 ·rw [show ((i + 1 : Nat) : Int) = (i : Int) + 1 from by omega]; omega
 ·rw [Nat.add_sub_cancel]; omega
set_option maxRecDepth 100000 in
set_option maxHeartbeats 4000000 in
theorem periodAt_ref (K A L k : Int) (w : World) : Calls Tryz.prog 11 #[.agg #[.int .i64 K, .int .i64 A, .int .i64 L], .int .i64 k] w fun e w' => ∃ f t er : Int, e = .returned (.tuple #[.agg #[.int .i64 f, .int .i64 t], .int .i64 er]) ∧ AtIs K A L k f t er ∧ Below w.heap.size w w' := by
 have HB0 := Lib.hid (((Below.refl w.heap.size w).alloc (Nat.le_refl _) (.cells #[.int .i64 K, .int .i64 A, .int .i64 L] 23)).alloc (by simp) (.cells #[.int .i64 0, .int .i64 0] 41))
 have HQ0 := Lib.hid (QBox.made w K A L 23 41)
 have hsb := schedE_bd K A L
 go_enter Tryz.func11, Tryz.ntmps11
 go_wp2_with fail
 refine (check_ref K A L _).mono ?_
 rintro e w1 ⟨rfl, hb1⟩
 have HB1 := Lib.hid (HB0.out.trans (hb1.mono HB0.out.size))
 have HQ1 := Lib.hid (HQ0.out.below hb1)
 clear hb1 HB0 HQ0
 obtain ⟨x0, x1, x2, ⟨u, hu⟩, ⟨v, hv⟩, f0, f1, hl⟩ := HQ1.out
 by_cases hz : schedE K A L = 0
 ·by_cases hk : k < 0 ∨ 5000 ≤ k
  ·have HP : Hid (AtIs K A L k 0 0 3) := .inr ⟨hz, .inl ⟨hk, rfl, rfl, rfl⟩⟩
   rcases hk with hk | hk
   ·obtain ⟨t0, t1⟩ := put2 hu hv (.int .i64 0) (.int .i64 0)
    have HX := Lib.hid (put2_below HB1.out (g := w.heap.size + 1) (by omega) (.int .i64 0) (.int .i64 0))
    go_wp2_with fail
    refine bodyPost_ret (v := .tuple #[.agg #[.int .i64 0, .int .i64 0], .int .i64 3]) (by simp [results, Tryz.results11, go_sem, t0, t1] <;> rfl) rfl ⟨_, _, _, rfl, HP.out, HX.out⟩
   ·have hkB : decide (k < 0) = false := decide_eq_false (by omega)
    obtain ⟨t0, t1⟩ := put2 hu hv (.int .i64 0) (.int .i64 0)
    have HX := Lib.hid (put2_below HB1.out (g := w.heap.size + 1) (by omega) (.int .i64 0) (.int .i64 0))
    go_wp2_with fail
    refine bodyPost_ret (v := .tuple #[.agg #[.int .i64 0, .int .i64 0], .int .i64 3]) (by simp [results, Tryz.results11, go_sem, t0, t1] <;> rfl) rfl ⟨_, _, _, rfl, HP.out, HX.out⟩
  ·have hk0 : 0 ≤ k := by omega
   have hk1 : k < 5000 := by omega
   have hkB : decide (k < 0) = false := decide_eq_false (by omega)
   have hkB2 : decide (5000 ≤ k) = false := decide_eq_false (by omega)
   obtain ⟨h1, h4, hdA, _, _⟩ := schedE_ok hz
   obtain ⟨hA0, hA1⟩ := dayB_iff.1 hdA
   have HP : Hid (∀ f t e, PerIs K A k f t e → AtIs K A L k f t e) := fun f t e h => .inr ⟨hz, .inr ⟨⟨hk0, hk1⟩, h⟩⟩
   clear hk hsb
   have hne1 : ¬ (w1.heap.size = w.heap.size) := by omega
   have hne2 : ¬ (w1.heap.size = w.heap.size + 1) := by omega
   have hne3 : ¬ (w.heap.size + 1 = w1.heap.size) := by omega
   have hl0 : w.heap.size < w1.heap.size := by omega
   by_cases hK2 : K ≤ 2
   ·have hKK : K = 1 ∨ K = 2 := by omega
    have HBA := Lib.hid (fun o => HB1.out.alloc HB1.out.size o)
    have HQA := Lib.hid (fun o => HQ1.out.below ((Below.refl w1.heap.size w1).alloc (Nat.le_refl _) o))
    clear HBA HQA
    rcases hKK with rfl | rfl
    ·go_wp2_with fail
     refine (isDay_ref _ _).mono ?_
     rintro e w2 ⟨rfl, h2⟩
     subst w2
     have HT := Lib.hid (fun x y o => put2_alloc hu hv x y o)
     have hX := fun x y => put2_below HB1.out (g := w.heap.size + 1) (by omega) x y
     have HX := Lib.hid (fun x y o => (hX x y).alloc (hX x y).size o)
     clear hX
     cases hd : dayB (A + 7 * k + 7 - 1)
     ·have hbad : 73048 < A + 7 * k + 7 - 1 := by have := dayB_not.1 hd; omega
      have HPX := Lib.hid (HP.out 0 0 3 (.inl ⟨by omega, .inl ⟨hbad, rfl, rfl, rfl⟩⟩))
      go_wp2_with fail
      refine bodyPost_ret (v := .tuple #[.agg #[.int .i64 0, .int .i64 0], .int .i64 3]) (by simp [results, Tryz.results11, go_sem, (HT.out _ _ _).1, (HT.out _ _ _).2] <;> rfl) rfl ⟨_, _, _, rfl, HPX.out, HX.out _ _ _⟩
     ·have hok : A + 7 * k + 7 - 1 ≤ 73048 := (dayB_iff.1 hd).2
      have HPX := Lib.hid (HP.out (A + 7 * k) (A + 7 * k + 7 - 1) 0 (.inl ⟨by omega, .inr ⟨hok, rfl, rfl, rfl⟩⟩))
      go_wp2_with fail
      refine bodyPost_ret (v := .tuple #[.agg #[.int .i64 (A + 7 * k), .int .i64 (A + 7 * k + 7 - 1)], .int .i64 0]) (by simp [results, Tryz.results11, go_sem, (HT.out _ _ _).1, (HT.out _ _ _).2] <;> rfl) rfl ⟨_, _, _, rfl, HPX.out, HX.out _ _ _⟩
    ·go_wp2_with fail
     refine (isDay_ref _ _).mono ?_
     rintro e w2 ⟨rfl, h2⟩
     subst w2
     have HT := Lib.hid (fun x y o => put2_alloc hu hv x y o)
     have hX := fun x y => put2_below HB1.out (g := w.heap.size + 1) (by omega) x y
     have HX := Lib.hid (fun x y o => (hX x y).alloc (hX x y).size o)
     clear hX
     cases hd : dayB (A + 14 * k + 14 - 1)
     ·have hbad : 73048 < A + 14 * k + 14 - 1 := by have := dayB_not.1 hd; omega
      have HPX := Lib.hid (HP.out 0 0 3 (.inl ⟨by omega, .inl ⟨hbad, rfl, rfl, rfl⟩⟩))
      go_wp2_with fail
      refine bodyPost_ret (v := .tuple #[.agg #[.int .i64 0, .int .i64 0], .int .i64 3]) (by simp [results, Tryz.results11, go_sem, (HT.out _ _ _).1, (HT.out _ _ _).2] <;> rfl) rfl ⟨_, _, _, rfl, HPX.out, HX.out _ _ _⟩
     ·have hok : A + 14 * k + 14 - 1 ≤ 73048 := (dayB_iff.1 hd).2
      have HPX := Lib.hid (HP.out (A + 14 * k) (A + 14 * k + 14 - 1) 0 (.inl ⟨by omega, .inr ⟨hok, rfl, rfl, rfl⟩⟩))
      go_wp2_with fail
      refine bodyPost_ret (v := .tuple #[.agg #[.int .i64 (A + 14 * k), .int .i64 (A + 14 * k + 14 - 1)], .int .i64 0]) (by simp [results, Tryz.results11, go_sem, (HT.out _ _ _).1, (HT.out _ _ _).2] <;> rfl) rfl ⟨_, _, _, rfl, HPX.out, HX.out _ _ _⟩
   ·have hK34 : K = 3 ∨ K = 4 := by omega
    have hK2B : decide (K ≤ 2) = false := decide_eq_false hK2
    have HK34 := Lib.hid hK34
    obtain ⟨k0, m0, d0, hcA⟩ := civil_ex hdA
    obtain ⟨hAe, hM0, hM1, hdM⟩ := civil_fm hcA
    have hd1 := hcA.d1
    have HAE := Lib.hid hAe
    clear hAe
    have hN : ∃ N0 : Int, N0 = if K = 3 then (12 * (k0 : Int) + (m0 : Int) - 1) * 2 + hf d0 else 12 * (k0 : Int) + (m0 : Int) - 1 := ⟨_, rfl⟩
    obtain ⟨N0, hN0⟩ := hN
    have HPER := Lib.hid (fun f t e h => HP.out f t e (per_of_stt (f := f) (t := t) (e := e) hK34 hcA hN0 hk0 h))
    have HST : Hid (fm (12 * (k0 : Int) + (m0 : Int) - 1) + offB K d0 = stt K N0) := by unfold Hid; rw [hN0]; exact off_stt hK34
    have HNB : Hid (0 ≤ N0 ∧ N0 < lim K) := by
     unfold Hid
     have := hf_bd d0
     rcases hK34 with rfl | rfl
     ·rw [if_pos rfl] at hN0; show 0 ≤ N0 ∧ N0 < 4800; omega
     ·rw [if_neg (by omega)] at hN0; show 0 ≤ N0 ∧ N0 < 2400; omega
    have HCV := Lib.hid (fun j => civil_at (M := 12 * (k0 : Int) + (m0 : Int) - 1) (j := j) hM0 hM1)
    clear hN0 hcA
    generalize 12 * (k0 : Int) + (m0 : Int) - 1 = M0 at *
    have hof : 0 ≤ offB K d0 ∧ offB K d0 ≤ d0 - 1 := by unfold offB; split <;> omega
    obtain ⟨hfb1, hfb2⟩ := fm_bd (M := M0) hM0 (by omega)
    have hmd31 := (md_bd (2000 + M0 / 12) (M0 % 12 + 1)).2
    have hd31 : d0 ≤ 31 := by omega
    have HB2 := Lib.hid (HB1.out.alloc HB1.out.size (.cells #[.int .i64 A, .int .i64 0] 41))
    have HQ2 := Lib.hid (HQ1.out.below ((Below.refl w1.heap.size w1).alloc (Nat.le_refl _) (.cells #[.int .i64 A, .int .i64 0] 41)))
    have HP2 := Lib.hid (PBx.made w1 A 0 41)
    clear hK34
    go_wp2_with fail
    clear x0 x1 x2 hu hv f0 f1
    generalize w1.heap.size = G at *
    go_loopw [54] (fun _ wr => ∃ j : Int, offB K d0 ≤ j ∧ j ≤ d0 - 1 ∧ PBx wr G (fm M0 + j) 0 ∧ QBox wr w.heap.size K A L ∧ Below w.heap.size w wr) (fun _ wr => fromOf wr G)
    case atStart => exact ⟨d0 - 1, hof.2, Int.le_refl _, by rw [← HAE.out]; exact HP2.out, HQ2.out, HB2.out⟩
    case round =>
     obtain ⟨j, hj0, hj1, hpb, hqb, hb⟩ := hrel
     have HPB := Lib.hid hpb
     have HQB := Lib.hid hqb
     have HB := Lib.hid hb
     obtain ⟨y0, y1, g0, g1⟩ := hpb
     obtain ⟨x0, x1, x2, ⟨u', hu⟩, ⟨v', hv⟩, f0, f1, hl'⟩ := hqb
     clear hb
     have hcj := HCV.out j (by omega) (by omega)
     have hdj := civil_dayB hcj
     have HBG := Lib.hid (fun w => begins_ref K A L (fm M0 + j) w hdj HK34.out)
     have HEQ : Hid (∀ k' m' d', IsCivil (fm M0 + j) k' m' d' → begB K d' = decide (j = offB K d0)) := fun k' m' d' hc => by rw [(hc.unique hcj).2.2]; exact off_beg hj0 hj1
     clear hcj hdj
     go_wp2_with fail
     refine (HBG.out _).mono ?_
     rintro e w3 ⟨k', m', d', rfl, hc3, hb3⟩
     rw [HEQ.out _ _ _ hc3]
     have HB3 := Lib.hid (HB.out.trans (hb3.mono HB.out.size))
     have HPB3 := Lib.hid (HPB.out.below hb3)
     have HQB3 := Lib.hid (HQB.out.below hb3)
     clear hb3 hc3 HBG HEQ y1 g1 x0 x1 x2 hu hv f0 f1 hl'
     obtain ⟨z0, z1, g2, g3⟩ := HPB3.out
     have HF0 := Lib.hid (fromOf_eq y0)
     by_cases hjo : j = offB K d0
     ·have hjB : decide (j = offB K d0) = true := decide_eq_true hjo
      rw [hjB]
      have hxe : fm M0 + j = stt K N0 := by rw [hjo]; exact HST.out
      rw [hxe] at HPB3
      clear y0 g0 z0 z1 g2 g3 HF0 hxe HPB HQB HB
      go_wp2_with fail
      go_loopw [1] (fun kv wr => ∃ q : Int, kv = .int .i64 q ∧ 0 ≤ q ∧ q ≤ k ∧ N0 + (k - q) < lim K ∧ PBx wr G (stt K (N0 + (k - q))) 0 ∧ QBox wr w.heap.size K A L ∧ Below w.heap.size w wr) (fun kv _ => (intOf kv).toNat)
      case atStart => exact ⟨k, rfl, hk0, Int.le_refl _, by have := HNB.out; omega, by rw [show N0 + (k - k) = N0 from by omega]; exact HPB3.out, HQB3.out, HB3.out⟩
      case round =>
       obtain ⟨q, rfl, hq0, hq1, hq2, hpb, hqb, hb⟩ := hrel
       have HPB := Lib.hid hpb
       have HQB := Lib.hid hqb
       have HB := Lib.hid hb
       obtain ⟨y0, y1, g0, g1⟩ := hpb
       obtain ⟨x0, x1, x2, ⟨u', hu⟩, ⟨v', hv⟩, f0, f1, hl'⟩ := hqb
       clear hb
       have hn0 := HNB.out.1
       have HAF := Lib.hid (fun w => after_ref K A L (N0 + (k - q)) w HK34.out (by omega) hq2)
       have hsb := stt_bd HK34.out (N := N0 + (k - q)) (by omega) hq2
       have HSE := Lib.hid (stt_end HK34.out)
       have HSB := Lib.hid (fun h => stt_bd HK34.out (N := N0 + (k - q) + 1) (by omega) h)
       have hs1 : 0 ≤ stt K (N0 + (k - q) + 1) ∧ stt K (N0 + (k - q) + 1) ≤ 73049 := by
        by_cases h : N0 + (k - q) + 1 < lim K
        ·have := HSB.out h; omega
        ·rw [show N0 + (k - q) + 1 = lim K from by omega, HSE.out]; omega
       by_cases hq : 0 < q
       ·go_wp2_with fail
        refine (HAF.out _).mono ?_
        rintro e w4 ⟨rfl, hb4⟩
        have HB4 := Lib.hid (HB.out.trans (hb4.mono HB.out.size))
        have HPB4 := Lib.hid (HPB.out.below hb4)
        have HQB4 := Lib.hid (HQB.out.below hb4)
        clear hb4 y0 y1 g0 g1 x0 x1 x2 hu hv f0 f1 hl' HAF
        obtain ⟨y0, y1, g0, g1⟩ := HPB4.out
        have s1 := HPB4.out.setF (stt K (N0 + (k - q) + 1))
        have HS := Lib.hid s1
        obtain ⟨z0, _, _, _⟩ := s1
        have HQS := Lib.hid (HQB4.out.other (g := G) ⟨by omega, by omega⟩ 0 (.int .i64 (stt K (N0 + (k - q) + 1))))
        have HBS := Lib.hid (HB4.out.setCell (p := ⟨G, 0, none⟩) (by simp; omega) (.int .i64 (stt K (N0 + (k - q) + 1))))
        obtain ⟨_, _, _, ⟨u4, hu⟩, ⟨v4, hv⟩, f0, f1, hl4⟩ := HQS.out
        by_cases hlim : N0 + (k - q) + 1 < lim K
        ·have hdy : dayB (stt K (N0 + (k - q) + 1)) = true := dayB_iff.2 (HSB.out hlim)
         have HREL : Hid (PBx (w4.setCell ⟨G, 0, none⟩ (.int .i64 (stt K (N0 + (k - q) + 1)))) G (stt K (N0 + (k - (q - 1)))) 0) := by
          unfold Hid; rw [show N0 + (k - (q - 1)) = N0 + (k - q) + 1 from by omega]; exact HS.out
         generalize stt K (N0 + (k - q) + 1) = y at *
         go_wp2_with (go_at_call 37; refine (isDay_ref _ _).mono ?_; rintro e w' ⟨rfl, h'⟩; subst w'; rw [hdy])
         go_roundw
         case rel => exact ⟨q - 1, by go_num, by omega, by omega, by omega, HREL.out, HQS.out, HBS.out⟩
         case measure => simp [intOf] <;> omega
        ·have hdy : dayB (stt K (N0 + (k - q) + 1)) = false := by rw [show N0 + (k - q) + 1 = lim K from by omega, HSE.out]; rfl
         have HPX := Lib.hid (HPER.out 0 0 3 (.inl ⟨by omega, rfl, rfl, rfl⟩))
         obtain ⟨t0, t1⟩ := put2 hu hv (.int .i64 0) (.int .i64 0)
         have HX := Lib.hid (put2_below HBS.out (g := w.heap.size + 1) (by omega) (.int .i64 0) (.int .i64 0))
         generalize stt K (N0 + (k - q) + 1) = y at *
         go_wp2_with (go_at_call 37; refine (isDay_ref _ _).mono ?_; rintro e w' ⟨rfl, h'⟩; subst w'; rw [hdy])
         refine bodyPost_ret (v := .tuple #[.agg #[.int .i64 0, .int .i64 0], .int .i64 3]) (by simp [results, Tryz.results11, go_sem, t0, t1] <;> rfl) rfl ⟨_, _, _, rfl, HPX.out, HX.out⟩
       ·have hqB : decide (0 < q) = false := decide_eq_false hq
        obtain rfl : q = 0 := by omega
        rw [show N0 + (k - 0) = N0 + k from by omega] at *
        go_wp2_with fail
        refine (HAF.out _).mono ?_
        rintro e w4 ⟨rfl, hb4⟩
        have HB4 := Lib.hid (HB.out.trans (hb4.mono HB.out.size))
        have HPB4 := Lib.hid (HPB.out.below hb4)
        have HQB4 := Lib.hid (HQB.out.below hb4)
        clear hb4 y0 y1 g0 g1 x0 x1 x2 hu hv f0 f1 hl' HAF
        obtain ⟨y0, y1, g0, g1⟩ := HPB4.out
        have HPX := Lib.hid (HPER.out (stt K (N0 + k)) (stt K (N0 + k + 1) - 1) 0 (.inr ⟨hq2, rfl, rfl, rfl⟩))
        generalize stt K (N0 + k + 1) = y at *
        generalize stt K (N0 + k) = x at *
        by_cases hy : y - 1 < 73048
        ·have hmn : min (73048 : Int) (y - 1) = y - 1 := by omega
         have s1 := HPB4.out.setT ((y - 1))
         obtain ⟨z0, z1, _, _⟩ := s1
         have HQS := Lib.hid (HQB4.out.other (g := G) ⟨by omega, by omega⟩ 1 (.int .i64 ((y - 1))))
         have HBS := Lib.hid (HB4.out.setCell (p := ⟨G, 1, none⟩) (by simp; omega) (.int .i64 ((y - 1))))
         obtain ⟨_, _, _, ⟨u4, hu⟩, ⟨v4, hv⟩, f0, f1, hl4⟩ := HQS.out
         obtain ⟨t0, t1⟩ := put2 hu hv (.int .i64 x) (.int .i64 ((y - 1)))
         have HX := Lib.hid (put2_below HBS.out (g := w.heap.size + 1) (by omega) (.int .i64 x) (.int .i64 ((y - 1))))
         go_wp2_with fail
         refine bodyPost_ret (v := .tuple #[.agg #[.int .i64 x, .int .i64 ((y - 1))], .int .i64 0]) (by simp [results, Tryz.results11, go_sem, t0, t1] <;> rfl) rfl ⟨_, _, _, rfl, HPX.out, HX.out⟩
        ·have hyB : decide (y - 1 < 73048) = false := decide_eq_false hy
         rw [show y - 1 = 73048 from by omega] at HPX
         have hmn : min (73048 : Int) (y - 1) = 73048 := by omega
         have s1 := HPB4.out.setT (73048)
         obtain ⟨z0, z1, _, _⟩ := s1
         have HQS := Lib.hid (HQB4.out.other (g := G) ⟨by omega, by omega⟩ 1 (.int .i64 (73048)))
         have HBS := Lib.hid (HB4.out.setCell (p := ⟨G, 1, none⟩) (by simp; omega) (.int .i64 (73048)))
         obtain ⟨_, _, _, ⟨u4, hu⟩, ⟨v4, hv⟩, f0, f1, hl4⟩ := HQS.out
         obtain ⟨t0, t1⟩ := put2 hu hv (.int .i64 x) (.int .i64 (73048))
         have HX := Lib.hid (put2_below HBS.out (g := w.heap.size + 1) (by omega) (.int .i64 x) (.int .i64 (73048)))
         go_wp2_with fail
         refine bodyPost_ret (v := .tuple #[.agg #[.int .i64 x, .int .i64 (73048)], .int .i64 0]) (by simp [results, Tryz.results11, go_sem, t0, t1] <;> rfl) rfl ⟨_, _, _, rfl, HPX.out, HX.out⟩
     ·have hjB : decide (j = offB K d0) = false := decide_eq_false hjo
      rw [hjB]
      have s1 := HPB3.out.setF (fm M0 + j - 1)
      have HS := Lib.hid s1
      have HQS := Lib.hid (HQB3.out.other (g := G) ⟨by omega, by omega⟩ 0 (.int .i64 (fm M0 + j - 1)))
      have HBS := Lib.hid (HB3.out.setCell (p := ⟨G, 0, none⟩) (by simp; omega) (.int .i64 (fm M0 + j - 1)))
      have HF1 := Lib.hid (fromOf_eq s1.1)
      clear s1
      go_wp2_with fail
      go_roundw
      case rel => exact ⟨j - 1, by omega, by omega, by rw [show fm M0 + (j - 1) = fm M0 + j - 1 from by omega]; exact HS.out, HQS.out, HBS.out⟩
      case measure => rw [HF0.out, HF1.out]; omega
 ·have hzB : decide (schedE K A L = 0) = false := decide_eq_false hz
  have HP : Hid (AtIs K A L k 0 0 (schedE K A L)) := .inl ⟨hz, rfl, rfl, rfl⟩
  obtain ⟨t0, t1⟩ := put2 hu hv (.int .i64 0) (.int .i64 0)
  have HX := Lib.hid (put2_below HB1.out (g := w.heap.size + 1) (by omega) (.int .i64 0) (.int .i64 0))
  go_wp2_with fail
  refine bodyPost_ret (v := .tuple #[.agg #[.int .i64 0, .int .i64 0], .int .i64 (schedE K A L)]) (by simp [results, Tryz.results11, go_sem, t0, t1] <;> rfl) rfl ⟨_, _, _, rfl, HP.out, HX.out⟩
end Go.Proofs.YtkalfdjmklakdaaGreatDoor.Cal
