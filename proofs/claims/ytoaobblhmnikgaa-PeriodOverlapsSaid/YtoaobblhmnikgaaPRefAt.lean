/-
  Promise C1: the walk of the reference's PeriodAt.
-/
import Derived.Test.YtoaobblhmnikgaaPRef
namespace Go.Proofs.Ytoaobblhmnikgaa
open Go.RowKit

/-- A period in a box of the call's own. -/
def PBx (w : World) (g : Nat) (f t : Int) : Prop := w.cell? ⟨g, 0, none⟩ = some (.int .i64 f) ∧ w.cell? ⟨g, 1, none⟩ = some (.int .i64 t) ∧ w.frozen? ⟨g, 0, none⟩ = false ∧ w.frozen? ⟨g, 1, none⟩ = false
theorem PBx.made (w : World) (f t : Int) (T : TypeId) : PBx (w.alloc (.cells #[.int .i64 f, .int .i64 t] T)) w.heap.size f t := by
  refine ⟨?_, ?_, ?_, ?_⟩ <;> simp
theorem PBx.below {w w' : World} {g : Nat} {f t : Int} (h : PBx w g f t) (hb : Below w.heap.size w w') : PBx w' g f t := by
  obtain ⟨a0, a1, b0, b1⟩ := h
  have hg := rlt a0
  exact ⟨(hb.cell (p := ⟨g, 0, none⟩) hg).trans a0, (hb.cell (p := ⟨g, 1, none⟩) hg).trans a1, (hb.frozen (p := ⟨g, 0, none⟩) hg).trans b0, (hb.frozen (p := ⟨g, 1, none⟩) hg).trans b1⟩
theorem PBx.setF {w : World} {g : Nat} {f t : Int} (h : PBx w g f t) (x : Int) : PBx (w.setCell ⟨g, 0, none⟩ (.int .i64 x)) g x t := by
  obtain ⟨a0, a1, b0, b1⟩ := h
  have n01 : (⟨g, 0, none⟩ : Addr) ≠ ⟨g, 1, none⟩ := by simp
  exact ⟨World.cell?_setCell_same _ _ _ a0, (World.cell?_setCell_other _ _ _ _ n01).trans a1, by rw [World.frozen?_setCell]; exact b0, by rw [World.frozen?_setCell]; exact b1⟩
theorem PBx.setT {w : World} {g : Nat} {f t : Int} (h : PBx w g f t) (x : Int) : PBx (w.setCell ⟨g, 1, none⟩ (.int .i64 x)) g f x := by
  obtain ⟨a0, a1, b0, b1⟩ := h
  have n01 : (⟨g, 1, none⟩ : Addr) ≠ ⟨g, 0, none⟩ := by simp
  exact ⟨(World.cell?_setCell_other _ _ _ _ n01).trans a0, World.cell?_setCell_same _ _ _ a1, by rw [World.frozen?_setCell]; exact b0, by rw [World.frozen?_setCell]; exact b1⟩
theorem QBox.other {w : World} {b g : Nat} {K A L : Int} (h : QBox w b K A L) (hg : g ≠ b ∧ g ≠ b + 1) (j : Nat) (x : Value) : QBox (w.setCell ⟨g, j, none⟩ x) b K A L := by
  obtain ⟨a0, a1, a2, ⟨u, hu⟩, ⟨v, hv⟩, f0, f1, hl⟩ := h
  have n0 : ∀ i, (⟨g, j, none⟩ : Addr) ≠ ⟨b, i, none⟩ := fun i e => hg.1 (congrArg Addr.block e)
  have n1 : ∀ i, (⟨g, j, none⟩ : Addr) ≠ ⟨b + 1, i, none⟩ := fun i e => hg.2 (congrArg Addr.block e)
  refine ⟨(World.cell?_setCell_other _ _ _ _ (n0 0)).trans a0, (World.cell?_setCell_other _ _ _ _ (n0 1)).trans a1, (World.cell?_setCell_other _ _ _ _ (n0 2)).trans a2, ⟨u, (World.cell?_setCell_other _ _ _ _ (n1 0)).trans hu⟩, ⟨v, (World.cell?_setCell_other _ _ _ _ (n1 1)).trans hv⟩, by rw [World.frozen?_setCell]; exact f0, by rw [World.frozen?_setCell]; exact f1, by simpa [World.setCell] using hl⟩
theorem PBx.other {w : World} {g h : Nat} {f t : Int} (hp : PBx w g f t) (hg : h ≠ g) (j : Nat) (x : Value) : PBx (w.setCell ⟨h, j, none⟩ x) g f t := by
  obtain ⟨a0, a1, b0, b1⟩ := hp
  have n : ∀ i, (⟨h, j, none⟩ : Addr) ≠ ⟨g, i, none⟩ := fun i e => hg (congrArg Addr.block e)
  exact ⟨(World.cell?_setCell_other _ _ _ _ (n 0)).trans a0, (World.cell?_setCell_other _ _ _ _ (n 1)).trans a1, by rw [World.frozen?_setCell]; exact b0, by rw [World.frozen?_setCell]; exact b1⟩

theorem civil_fm {A : Int} {k0 m0 : Nat} {d0 : Int} (h : IsCivil A k0 m0 d0) : A = fm (12 * (k0 : Int) + (m0 : Int) - 1) + (d0 - 1) ∧ 0 ≤ 12 * (k0 : Int) + (m0 : Int) - 1 ∧ 12 * (k0 : Int) + (m0 : Int) - 1 < 2400 ∧ d0 ≤ md (2000 + (12 * (k0 : Int) + (m0 : Int) - 1) / 12) ((12 * (k0 : Int) + (m0 : Int) - 1) % 12 + 1) := by
  have hk := h.k1
  have hm1 := h.m1
  have hm2 := h.m2
  have he := h.eq
  have hd := h.d2
  have e1 : (12 * (k0 : Int) + (m0 : Int) - 1) / 12 = (k0 : Int) := by omega
  have e2 : (12 * (k0 : Int) + (m0 : Int) - 1) % 12 = (m0 : Int) - 1 := by omega
  refine ⟨?_, by omega, by omega, ?_⟩
  · unfold fm
    rw [e1, e2, show ((k0 : Int)).toNat = k0 from by omega, show ((m0 : Int) - 1).toNat = m0 - 1 from by omega]
    omega
  · rw [e1, e2, show (m0 : Int) - 1 + 1 = m0 from by omega]
    exact hd
/-- How far from the month's first day a period begins. -/
def offB (K d0 : Int) : Int := if K = 3 ∧ 16 ≤ d0 then 15 else 0
theorem off_beg {K d0 j : Int} (h1 : offB K d0 ≤ j) (h2 : j ≤ d0 - 1) : begB K (j + 1) = decide (j = offB K d0) := by
  unfold offB at h1 ⊢
  unfold begB
  rw [Bool.eq_iff_iff]
  simp only [Bool.or_eq_true, Bool.and_eq_true, decide_eq_true_eq]
  split at h1 <;> rename_i hc
  · rw [if_pos hc]; omega
  · rw [if_neg hc]; omega
theorem off_stt {K d0 M0 : Int} (hK : K = 3 ∨ K = 4) : fm M0 + offB K d0 = stt K (if K = 3 then M0 * 2 + hf d0 else M0) := by
  unfold offB hf
  rcases hK with rfl | rfl
  · rw [if_pos rfl, stt3]
    by_cases h : 16 ≤ d0
    · rw [if_pos ⟨rfl, h⟩, if_pos h, show (M0 * 2 + 1) / 2 = M0 from by omega]; omega
    · rw [if_neg (by omega), if_neg h, show (M0 * 2 + 0) / 2 = M0 from by omega]; omega
  · rw [if_neg (by omega), if_neg (by omega), stt4]; omega
end Go.Proofs.Ytoaobblhmnikgaa
