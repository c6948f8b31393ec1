/-
  Brackets of a table: how they lie in memory, how a list of them that came in is opened; a table in its box.
-/
import Derived.Test.YtoingnhiipfnlaaDoorMRoundU
import Derived.Lib.Hide
import Derived.Deep.Slices
import Derived.ChangeSame
namespace Go.Proofs.YtoingnhiipfnlaaDoor
open Go.RowKit

/-- A bracket. -/
structure Bk where
  frm : Int
  rate : Int
def bnth (l : List Bk) (j : Nat) : Bk := l.getD j ⟨0, 0⟩
/-- In the world w the cells from (b, off) on hold the brackets l, two cells a bracket. -/
def BAt (w : World) (b off : Nat) (l : List Bk) : Prop := b < w.heap.size ∧ ∀ j, j < l.length → w.cell? ⟨b, off + j * 2, none⟩ = some (.int .i64 (bnth l j).frm) ∧ w.cell? ⟨b, off + j * 2 + 1, none⟩ = some (.int .i64 (bnth l j).rate)
theorem BAt.below {B : Nat} {w w' : World} {b off : Nat} {l : List Bk} (h : BAt w b off l) (hb : Below B w w') (hB : b < B) : BAt w' b off l :=
  ⟨Nat.lt_of_lt_of_le h.1 hb.size, fun j hj => ⟨(hb.cell (p := ⟨b, off + j * 2, none⟩) hB).trans (h.2 j hj).1, (hb.cell (p := ⟨b, off + j * 2 + 1, none⟩) hB).trans (h.2 j hj).2⟩⟩
/-- A slice of brackets that came in. -/
def CameB (w : World) (a : Option Addr) (l : List Bk) : Prop := l.length = 0 ∨ ∃ b off, a = some ⟨b, off, none⟩ ∧ BAt w b off l
theorem CameB.below {w w' : World} {a : Option Addr} {l : List Bk} (h : CameB w a l) (hb : Below w.heap.size w w') : CameB w' a l := by
  rcases h with h | ⟨b, off, rfl, h⟩
  · exact .inl h
  · exact .inr ⟨b, off, rfl, h.below hb h.1⟩
theorem blt_of_cell {W : World} {p : Addr} {v : Value} (h : W.cell? p = some v) : p.block < W.heap.size := by
  by_cases hb : p.block < W.heap.size
  · exact hb
  · have : W.heap[p.block]? = none := Array.getElem?_eq_none (by omega)
    simp [World.cell?, this] at h
theorem kcells_bk : Tryd.prog.cellsOf 114 = 2 := by kernel_rfl
theorem kcells_int : Tryd.prog.cellsOf 3 = 1 := by kernel_rfl
set_option maxRecDepth 100000 in
theorem open_bks {H : Type} {enc : TypeId × Value → H} {W : World} {fuel : Nat} {v : Value} {x : DataW H × List MemPlace}
    (h : DataW.trod enc Tryd.prog W 0 (fun _ => true) true fuel 57 [v] = some x) :
    ∃ (a : Option Addr) (len cap : Nat) (l : List Bk), v = .slice a len cap ∧ CameB W a l ∧ l.length = len ∧ len ≤ maxLen := by
  rcases Deep.open_slice Tryd.underlying57 h with ⟨hcs, _⟩ | ⟨a', len, cap, m, n, D, Pl, hcs, hb, hl, hm, hmm, _, hx⟩
  · simp at hcs
    exact ⟨none, 0, 0, [], hcs, .inl rfl, rfl, Nat.zero_le _⟩
  simp at hcs
  subst hcs
  have hmc : m = cap := by rw [hmm]; simp
  subst hmc
  have each : ∀ i, i < m → ∃ r : Bk, W.cell? (a'.add (i * 2)) = some (.int .i64 r.frm) ∧ W.cell? (a'.add (i * 2 + 1)) = some (.int .i64 r.rate) := by
    intro i hi
    obtain ⟨cs', h1, h2⟩ := hx i hi
    rw [kcells_bk] at h1
    obtain ⟨_, hlen, hcell⟩ := World.cells?_some h1
    obtain ⟨xs, k, hk, hxy, _, hxl, hf⟩ := DataW.trod_struct Tryd.underlying114 h2
    match xs, hxl, cs', hlen with
    | [y0, y1], _, [v0, v1], _ =>
      have g0 := hf 0 _ rfl
      have g1 := hf 1 _ rfl
      simp [kcells_int] at g0 g1
      obtain ⟨n0, q0, _, w0⟩ := DataW.trod_int Tryd.underlying3 g0
      obtain ⟨n1, q1, _, w1⟩ := DataW.trod_int Tryd.underlying3 g1
      simp at q0 q1
      subst q0 q1
      have e0 := hcell 0 (by omega)
      have e1 := hcell 1 (by omega)
      rw [Deep.add_add] at e0 e1
      exact ⟨⟨n0, n1⟩, by simpa using e0, by simpa using e1⟩
  haveI : Inhabited Bk := ⟨⟨0, 0⟩⟩
  obtain ⟨q, hq⟩ := Deep.choose_lt each
  have hnth : ∀ j, j < len → bnth ((List.range len).map q) j = q j := by
    intro j hj
    simp [bnth, List.getD_eq_getElem?_getD, hj]
  refine ⟨some a', len, m, (List.range len).map q, rfl, ?_, by simp, by omega⟩
  by_cases h0 : len = 0
  · exact .inl (by simp [h0])
  · obtain ⟨b, off, spot⟩ := a'
    have hc := (hq 0 (by omega)).1
    have hspot : spot = none := by simpa [Addr.add] using World.cell?_spot hc
    subst hspot
    refine .inr ⟨b, off, rfl, blt_of_cell hc, fun j hj => ?_⟩
    have hj' : j < len := by simpa using hj
    have := hq j (by omega)
    simp only [Addr.add_lit] at this
    rw [hnth j hj']
    simpa [Nat.add_assoc] using this
/-- A bracket's two cells. -/
def BkIs (w : World) (b o : Nat) (r : Bk) : Prop := w.cell? ⟨b, o, none⟩ = some (.int .i64 r.frm) ∧ w.cell? ⟨b, o + 1, none⟩ = some (.int .i64 r.rate)
theorem BkIs.below {B : Nat} {w w' : World} {b o : Nat} {r : Bk} (h : BkIs w b o r) (hb : Below B w w') (hB : b < B) : BkIs w' b o r :=
  ⟨(hb.cell (p := ⟨b, o, none⟩) hB).trans h.1, (hb.cell (p := ⟨b, o + 1, none⟩) hB).trans h.2⟩
theorem CameB.open {w : World} {a : Option Addr} {l : List Bk} (h : CameB w a l) {n : Nat} (hn : l.length = n) (h0 : 0 < n) : ∃ b off, a = some ⟨b, off, none⟩ ∧ ∀ w', Below w.heap.size w w' → ∀ k, k < n → BkIs w' b (off + k * 2) (bnth l k) := by
  rcases h with h | ⟨b, off, rfl, h⟩
  · omega
  · exact ⟨b, off, rfl, fun w' hb k hk => BkIs.below (h.2 k (by omega)) hb h.1⟩
/-- A table in its box. -/
def TIs (w : World) (b : Nat) (s : ByteArray) (a : Option Addr) (n cap : Nat) : Prop := b < w.heap.size ∧ w.cell? ⟨b, 0, none⟩ = some (.string s) ∧ w.cell? ⟨b, 1, none⟩ = some (.slice a n cap)
theorem TIs.made (w : World) (s : ByteArray) (a : Option Addr) (n cap : Nat) (T : TypeId) : TIs (w.alloc (.cells #[.string s, .slice a n cap] T)) w.heap.size s a n cap := by
  refine ⟨?_, ?_, ?_⟩ <;> simp
theorem TIs.below {B : Nat} {w w' : World} {b : Nat} {s : ByteArray} {a : Option Addr} {n cap : Nat} (h : TIs w b s a n cap) (hb : Below B w w') (hB : b < B) : TIs w' b s a n cap :=
  ⟨Nat.lt_of_lt_of_le h.1 hb.size, (hb.cell (p := ⟨b, 0, none⟩) hB).trans h.2.1, (hb.cell (p := ⟨b, 1, none⟩) hB).trans h.2.2⟩
theorem kbelow_box (w : World) (o : Obj) : Below w.heap.size w (w.alloc o) := (Below.refl w.heap.size w).alloc (Nat.le_refl _) o
end Go.Proofs.YtoingnhiipfnlaaDoor
