/-
  Lists of ints in memory: what it is that a slice holds a list, that it stays so behind what turns only later blocks; and the walks of the reference's Same. No condition beyond those of each theorem.
-/
import Derived.Test.YtdnngcibmkdhhaaProg
import Derived.WalkKit
import Derived.WalkSpells
import Derived.WalkLawsBesides
import Derived.Deep.QuietTactic
import Derived.BigQuiet
import Derived.Outline
namespace Go.Proofs.Ytdnngcibmkdhhaa
open Go.RowKit

/-- The j-th number of a list. -/
def nth (l : List Int) (j : Nat) : Int := l.getD j 0
/-- In the world w the cells from (b, off) on hold the numbers l. -/
def At (w : World) (b off : Nat) (l : List Int) : Prop := b < w.heap.size ∧ ∀ j, j < l.length → w.cell? ⟨b, off + j, none⟩ = some (.int .i64 (nth l j))

theorem At.cell {w : World} {b off : Nat} {l : List Int} (h : At w b off l) {j : Nat} (hj : j < l.length) : w.cell? ⟨b, off + j, none⟩ = some (.int .i64 (nth l j)) := h.2 j hj
theorem At.below {B : Nat} {w w' : World} {b off : Nat} {l : List Int} (h : At w b off l) (hb : Below B w w') (hB : b < B) : At w' b off l :=
  ⟨Nat.lt_of_lt_of_le h.1 hb.size, fun j hj => (hb.cell (p := ⟨b, off + j, none⟩) hB).trans (h.2 j hj)⟩
theorem At.drewN {w : World} {b off : Nat} {l : List Int} (h : At w b off l) (k : Nat) : At (w.drewN k) b off l := h

theorem nth_ext {a b : List Int} (h : a.length = b.length) (k : ∀ j, j < a.length → nth a j = nth b j) : a = b := by
  apply List.ext_getElem h
  intro j h1 h2
  have := k j h1
  simpa [nth, List.getD_eq_getElem?_getD, h1, h2] using this

theorem nth_set {l : List Int} {i j : Nat} {v : Int} (hi : i < l.length) : nth (l.set i v) j = if j = i then v else nth l j := by
  unfold nth
  rw [List.getD_eq_getElem?_getD, List.getD_eq_getElem?_getD, List.getElem?_set]
  by_cases h : i = j
  · subst h; simp [hi]
  · have h' : ¬ j = i := fun e => h e.symm
    simp [h, h']

/-- A row of the call's own: its cells hold the numbers l, and may be written. -/
def Own (w : World) (b : Nat) (l : List Int) : Prop := b < w.heap.size ∧ ∀ j, j < l.length → w.cell? ⟨b, j, none⟩ = some (.int .i64 (nth l j)) ∧ w.frozen? ⟨b, j, none⟩ = false

theorem Own.cell {w : World} {b : Nat} {l : List Int} (h : Own w b l) {j : Nat} (hj : j < l.length) : w.cell? ⟨b, j, none⟩ = some (.int .i64 (nth l j)) := (h.2 j hj).1
theorem Own.free {w : World} {b : Nat} {l : List Int} (h : Own w b l) {j : Nat} (hj : j < l.length) : w.frozen? ⟨b, j, none⟩ = false := (h.2 j hj).2
theorem Own.at {w : World} {b : Nat} {l : List Int} (h : Own w b l) : At w b 0 l := ⟨h.1, fun j hj => by rw [Nat.zero_add]; exact h.cell hj⟩
theorem Own.drewN {w : World} {b : Nat} {l : List Int} (h : Own w b l) (k : Nat) : Own (w.drewN k) b l := h
theorem Own.alloc {w : World} {b : Nat} {l : List Int} (h : Own w b l) (o : Obj) : Own (w.alloc o) b l :=
  ⟨by have := h.1; simp; omega, fun j hj => by
    rw [World.cell?_alloc_past (w := w) o b j h.1, World.frozen?_alloc_past (w := w) o b j h.1]; exact h.2 j hj⟩
theorem Own.set {w : World} {b : Nat} {l : List Int} (h : Own w b l) {j : Nat} (hj : j < l.length) (v : Int) : Own (w.setCell ⟨b, j, none⟩ (.int .i64 v)) b (l.set j v) := by
  refine ⟨by have := h.1; simpa [World.setCell] using this, fun i hi => ?_⟩
  rw [List.length_set] at hi
  rw [World.frozen?_setCell, nth_set hj]
  refine ⟨?_, h.free hi⟩
  by_cases e : i = j
  · subst e; rw [if_pos rfl]; exact World.cell?_setCell_same w _ _ (h.cell hi)
  · rw [if_neg e, World.cell?_setCell_other (w := w) (h := fun x => e (congrArg Addr.off x).symm)]; exact h.cell hi
theorem Own.other {w : World} {b b' : Nat} {l : List Int} (h : Own w b l) (hb : b ≠ b') (j : Nat) (v : Value) : Own (w.setCell ⟨b', j, none⟩ v) b l := by
  refine ⟨by have := h.1; simpa [World.setCell] using this, fun i hi => ?_⟩
  rw [World.frozen?_setCell, World.cell?_setCell_other (w := w) (h := fun x => hb (congrArg Addr.block x).symm)]
  exact h.2 i hi
theorem nth_replicate (n j : Nat) : nth (List.replicate n 0) j = 0 := by
  unfold nth
  rw [List.getD_eq_getElem?_getD, List.getElem?_replicate]
  split <;> rfl
theorem Own.made (w : World) (n : Nat) (t : TypeId) : Own (w.alloc (.cells (madeCells #[.int .i64 0] n) t)) w.heap.size (List.replicate n 0) := by
  refine ⟨by simp, fun j hj => ?_⟩
  rw [List.length_replicate] at hj
  rw [World.cell?_alloc_at (w := w) _ _ _ _ rfl, World.frozen?_alloc_at (w := w) _ _ _ _ rfl, nth_replicate]
  refine ⟨?_, rfl⟩
  have := toList_madeCells_one (.int .i64 0) n
  rw [← Array.getElem?_toList, this, List.getElem?_replicate, if_pos hj]

end Go.Proofs.Ytdnngcibmkdhhaa
