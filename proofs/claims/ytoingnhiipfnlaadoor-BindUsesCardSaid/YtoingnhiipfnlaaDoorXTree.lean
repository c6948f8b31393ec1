/-
  Expressions as trees, and how they lie in memory; lines.
-/
import Derived.Test.YtoingnhiipfnlaaDoorNAmt
namespace Go.Proofs.YtoingnhiipfnlaaDoor
open Go.RowKit

/-- An expression: its kind, its number, its name, how many Kids it has, and they. -/
inductive Ex where
  | no
  | mk (k n : Int) (s : ByteArray) (m : Nat) (kid : Nat → Ex)
def Ex.k : Ex → Int | .no => 0 | .mk k _ _ _ _ => k
def Ex.n : Ex → Int | .no => 0 | .mk _ n _ _ _ => n
def Ex.s : Ex → ByteArray | .no => ⟨#[]⟩ | .mk _ _ s _ _ => s
def Ex.m : Ex → Nat | .no => 0 | .mk _ _ _ m _ => m
def Ex.kid : Ex → Nat → Ex | .no => fun _ => .no | .mk _ _ _ _ f => f
/-- The four cells of an expression, but for what its Kids are. -/
def XCells (w : World) (b o : Nat) (x : Ex) (a : Option Addr) (c : Nat) : Prop := w.cell? ⟨b, o, none⟩ = some (.int .i64 x.k) ∧ w.cell? ⟨b, o + 1, none⟩ = some (.int .i64 x.n) ∧ w.cell? ⟨b, o + 2, none⟩ = some (.string x.s) ∧ w.cell? ⟨b, o + 3, none⟩ = some (.slice a x.m c)
theorem XCells.below {B : Nat} {w w' : World} {b o : Nat} {x : Ex} {a : Option Addr} {c : Nat} (h : XCells w b o x a c) (hb : Below B w w') (hB : b < B) : XCells w' b o x a c :=
  ⟨(hb.cell (p := ⟨b, o, none⟩) hB).trans h.1, (hb.cell (p := ⟨b, o + 1, none⟩) hB).trans h.2.1, (hb.cell (p := ⟨b, o + 2, none⟩) hB).trans h.2.2.1, (hb.cell (p := ⟨b, o + 3, none⟩) hB).trans h.2.2.2⟩
/-- In the world w the Kids of an expression lie from the address on, each with its own Kids. -/
def KidsAt (w : World) : Ex → Option Addr → Prop
  | .no, _ => False
  | .mk _ _ s m kid, a => s.size ≤ maxLen ∧ m ≤ maxLen ∧ (m = 0 ∨ ∃ b off, a = some ⟨b, off, none⟩ ∧ b < w.heap.size ∧ ∀ j, j < m → ∃ (aj : Option Addr) (cj : Nat), XCells w b (off + j * 4) (kid j) aj cj ∧ KidsAt w (kid j) aj)
theorem KidsAt.below {w w' : World} (hb : Below w.heap.size w w') : ∀ {x : Ex} {a : Option Addr}, KidsAt w x a → KidsAt w' x a := by
  intro x
  induction x with
  | no => intro a h; exact h.elim
  | mk k n s m kid ih =>
    intro a h
    obtain ⟨hs, hm, h⟩ := h
    refine ⟨hs, hm, ?_⟩
    rcases h with h | ⟨b, off, rfl, hB, h⟩
    · exact .inl h
    · refine .inr ⟨b, off, rfl, Nat.lt_of_lt_of_le hB hb.size, fun j hj => ?_⟩
      obtain ⟨aj, cj, h1, h2⟩ := h j hj
      exact ⟨aj, cj, h1.below hb hB, ih j h2⟩
theorem KidsAt.name {w : World} {x : Ex} {a : Option Addr} (h : KidsAt w x a) : x.s.size ≤ maxLen := by
  cases x with
  | no => exact h.elim
  | mk => exact h.1
theorem KidsAt.many {w : World} {x : Ex} {a : Option Addr} (h : KidsAt w x a) : x.m ≤ maxLen := by
  cases x with
  | no => exact h.elim
  | mk => exact h.2.1
theorem KidsAt.open {w : World} {x : Ex} {a : Option Addr} (h : KidsAt w x a) (h0 : 0 < x.m) : ∃ b off, a = some ⟨b, off, none⟩ ∧ ∀ w', Below w.heap.size w w' → ∀ j, j < x.m → ∃ (aj : Option Addr) (cj : Nat), XCells w' b (off + j * 4) (x.kid j) aj cj ∧ KidsAt w' (x.kid j) aj := by
  cases x with
  | no => exact h.elim
  | mk k n s m kid =>
    obtain ⟨_, _, h | ⟨b, off, rfl, hB, h⟩⟩ := h
    · exact absurd h (by simp [Ex.m] at h0; omega)
    · refine ⟨b, off, rfl, fun w' hb j hj => ?_⟩
      obtain ⟨aj, cj, h1, h2⟩ := h j hj
      exact ⟨aj, cj, h1.below hb hB, h2.below hb⟩
/-- A line. -/
structure Ln where
  kind : Int
  name : ByteArray
  ex : Ex
def lnth (l : List Ln) (j : Nat) : Ln := l.getD j ⟨0, ⟨#[]⟩, .no⟩
end Go.Proofs.YtoingnhiipfnlaaDoor
