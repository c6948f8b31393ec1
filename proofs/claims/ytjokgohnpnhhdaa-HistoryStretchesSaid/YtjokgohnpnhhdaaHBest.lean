/-
  Promise D2: what holds at a day, as known at another one; walks of check, holds, At and of the reference's Holds and HistoryAt.
-/
import Derived.Test.YtjokgohnpnhhdaaHCheck
namespace Go.Proofs.Ytjokgohnpnhhdaa
open Go.RowKit

/-- The row that holds, of the first k. -/
def best (l : List Rw) (d s : Int) : Nat → Rw
  | 0 => ⟨-1, 0, 0, true⟩
  | k + 1 => if (rnth l k).seen ≤ s ∧ (rnth l k).frm ≤ d ∧ (best l d s k).frm ≤ (rnth l k).frm then rnth l k else best l d s k
theorem best_yes {l : List Rw} {d s : Int} {k : Nat} (h1 : (rnth l k).seen ≤ s) (h2 : (rnth l k).frm ≤ d) (h3 : (best l d s k).frm ≤ (rnth l k).frm) : best l d s (k + 1) = rnth l k := if_pos ⟨h1, h2, h3⟩
theorem best_no {l : List Rw} {d s : Int} {k : Nat} (h : ¬ ((rnth l k).seen ≤ s ∧ (rnth l k).frm ≤ d ∧ (best l d s k).frm ≤ (rnth l k).frm)) : best l d s (k + 1) = best l d s k := if_neg h
/-- The value at a day, and whether there is one. -/
def atV (r : Rw) : Int := if r.gone = true then 0 else r.val
def atS (r : Rw) : Bool := !r.gone

/-- A row in a box of the call's own. -/
def RBox (w : World) (g : Nat) (r : Rw) : Prop := RowIs w g 0 r ∧ w.frozen? ⟨g, 0, none⟩ = false ∧ w.frozen? ⟨g, 1, none⟩ = false ∧ w.frozen? ⟨g, 2, none⟩ = false ∧ w.frozen? ⟨g, 3, none⟩ = false
theorem RBox.lt {w : World} {g : Nat} {r : Rw} (h : RBox w g r) : g < w.heap.size := rlt_of_cell h.1.1
theorem RBox.made (w : World) (f s v : Int) (b : Bool) (t : TypeId) : RBox (w.alloc (.cells #[.int .i64 f, .int .i64 s, .int .i64 v, .bool b] t)) w.heap.size ⟨f, s, v, b⟩ := by
  refine ⟨⟨?_, ?_, ?_, ?_⟩, ?_, ?_, ?_, ?_⟩ <;> simp
theorem RBox.alloc {w : World} {g : Nat} {r : Rw} (h : RBox w g r) (o : Obj) : RBox (w.alloc o) g r := by
  have hg := h.lt
  obtain ⟨⟨a0, a1, a2, a3⟩, b0, b1, b2, b3⟩ := h
  refine ⟨⟨?_, ?_, ?_, ?_⟩, ?_, ?_, ?_, ?_⟩
  · rw [World.cell?_alloc_past (w := w) o g _ hg]; exact a0
  · rw [World.cell?_alloc_past (w := w) o g _ hg]; exact a1
  · rw [World.cell?_alloc_past (w := w) o g _ hg]; exact a2
  · rw [World.cell?_alloc_past (w := w) o g _ hg]; exact a3
  · rw [World.frozen?_alloc_past (w := w) o g _ hg]; exact b0
  · rw [World.frozen?_alloc_past (w := w) o g _ hg]; exact b1
  · rw [World.frozen?_alloc_past (w := w) o g _ hg]; exact b2
  · rw [World.frozen?_alloc_past (w := w) o g _ hg]; exact b3
theorem RBox.set {w : World} {g : Nat} {r : Rw} (h : RBox w g r) (f s v : Int) (b : Bool) : RBox ((((w.setCell ⟨g, 0, none⟩ (.int .i64 f)).setCell ⟨g, 1, none⟩ (.int .i64 s)).setCell ⟨g, 2, none⟩ (.int .i64 v)).setCell ⟨g, 3, none⟩ (.bool b)) g ⟨f, s, v, b⟩ := by
  obtain ⟨⟨a0, a1, a2, a3⟩, b0, b1, b2, b3⟩ := h
  simp only [Nat.zero_add] at a1 a2 a3
  have n01 : (⟨g, 0, none⟩ : Addr) ≠ ⟨g, 1, none⟩ := by simp
  have n02 : (⟨g, 0, none⟩ : Addr) ≠ ⟨g, 2, none⟩ := by simp
  have n03 : (⟨g, 0, none⟩ : Addr) ≠ ⟨g, 3, none⟩ := by simp
  have n12 : (⟨g, 1, none⟩ : Addr) ≠ ⟨g, 2, none⟩ := by simp
  have n13 : (⟨g, 1, none⟩ : Addr) ≠ ⟨g, 3, none⟩ := by simp
  have n23 : (⟨g, 2, none⟩ : Addr) ≠ ⟨g, 3, none⟩ := by simp
  refine ⟨⟨?_, ?_, ?_, ?_⟩, ?_, ?_, ?_, ?_⟩
  · rw [World.cell?_setCell_other (h := n03.symm), World.cell?_setCell_other (h := n02.symm), World.cell?_setCell_other (h := n01.symm)]
    exact World.cell?_setCell_same _ _ _ a0
  · rw [Nat.zero_add, World.cell?_setCell_other (h := n13.symm), World.cell?_setCell_other (h := n12.symm)]
    exact World.cell?_setCell_same _ _ _ ((World.cell?_setCell_other _ _ _ _ n01).trans a1)
  · rw [Nat.zero_add, World.cell?_setCell_other (h := n23.symm)]
    exact World.cell?_setCell_same _ _ _ ((World.cell?_setCell_other _ _ _ _ n12).trans ((World.cell?_setCell_other _ _ _ _ n02).trans a2))
  · rw [Nat.zero_add]
    exact World.cell?_setCell_same _ _ _ ((World.cell?_setCell_other _ _ _ _ n23).trans ((World.cell?_setCell_other _ _ _ _ n13).trans ((World.cell?_setCell_other _ _ _ _ n03).trans a3)))
  · simp only [World.frozen?_setCell]; exact b0
  · simp only [World.frozen?_setCell]; exact b1
  · simp only [World.frozen?_setCell]; exact b2
  · simp only [World.frozen?_setCell]; exact b3
/-- Two cells of the call's own. -/
def HBox (w : World) (g : Nat) : Prop := (∃ u, w.cell? ⟨g, 0, none⟩ = some u) ∧ (∃ u, w.cell? ⟨g, 1, none⟩ = some u) ∧ w.frozen? ⟨g, 0, none⟩ = false ∧ w.frozen? ⟨g, 1, none⟩ = false
theorem HBox.lt {w : World} {g : Nat} (h : HBox w g) : g < w.heap.size := by obtain ⟨⟨u, hu⟩, _⟩ := h; exact rlt_of_cell hu
theorem HBox.made (w : World) (u v : Value) (t : TypeId) : HBox (w.alloc (.cells #[u, v] t)) w.heap.size := by
  refine ⟨⟨u, ?_⟩, ⟨v, ?_⟩, ?_, ?_⟩ <;> simp
theorem HBox.alloc {w : World} {g : Nat} (h : HBox w g) (o : Obj) : HBox (w.alloc o) g := by
  have hg := h.lt
  obtain ⟨⟨u, hu⟩, ⟨v, hv⟩, b0, b1⟩ := h
  refine ⟨⟨u, ?_⟩, ⟨v, ?_⟩, ?_, ?_⟩
  · rw [World.cell?_alloc_past (w := w) o g _ hg]; exact hu
  · rw [World.cell?_alloc_past (w := w) o g _ hg]; exact hv
  · rw [World.frozen?_alloc_past (w := w) o g _ hg]; exact b0
  · rw [World.frozen?_alloc_past (w := w) o g _ hg]; exact b1
theorem HBox.other {w : World} {g : Nat} (h : HBox w g) {p : Addr} (hp : p.block ≠ g) (x : Value) : HBox (w.setCell p x) g := by
  obtain ⟨⟨u, hu⟩, ⟨v, hv⟩, b0, b1⟩ := h
  have n : ∀ j, p ≠ ⟨g, j, none⟩ := fun j e => hp (congrArg Addr.block e)
  refine ⟨⟨u, ?_⟩, ⟨v, ?_⟩, ?_, ?_⟩
  · rw [World.cell?_setCell_other (h := n 0)]; exact hu
  · rw [World.cell?_setCell_other (h := n 1)]; exact hv
  · rw [World.frozen?_setCell]; exact b0
  · rw [World.frozen?_setCell]; exact b1

theorem HBox.put {w : World} {g : Nat} (h : HBox w g) (x y : Value) : ((w.setCell ⟨g, 0, none⟩ x).setCell ⟨g, 1, none⟩ y).cell? ⟨g, 0, none⟩ = some x ∧ ((w.setCell ⟨g, 0, none⟩ x).setCell ⟨g, 1, none⟩ y).cell? ⟨g, 1, none⟩ = some y := by
  obtain ⟨⟨u, hu⟩, ⟨v, hv⟩, b0, b1⟩ := h
  have n01 : (⟨g, 0, none⟩ : Addr) ≠ ⟨g, 1, none⟩ := by simp
  constructor
  · rw [World.cell?_setCell_other (h := n01.symm)]
    exact World.cell?_setCell_same _ _ _ hu
  · exact World.cell?_setCell_same _ _ _ ((World.cell?_setCell_other _ _ _ _ n01).trans hv)
end Go.Proofs.Ytjokgohnpnhhdaa
