/-
  Rows of a history: how they lie in memory, how a list of them that came in is opened; when a history is right.
-/
import Derived.Test.YtjokgohnpnhhdaaMInts
import Derived.Lib.Hide
import Derived.Deep.Slices
import Derived.ChangeSame
namespace Go.Proofs.Ytjokgohnpnhhdaa
open Go.RowKit

theorem cret_bool {a b : Bool} (h : a = b) : Ending.returned (.bool a) = .returned (.bool b) := by rw [h]
theorem cret_int {k : IntKind} {a b : Int} (h : a = b) : Ending.returned (.int k a) = .returned (.int k b) := by rw [h]

/-- A row. -/
structure Rw where
  frm : Int
  seen : Int
  val : Int
  gone : Bool
def rnth (l : List Rw) (j : Nat) : Rw := l.getD j ⟨0, 0, 0, false⟩
/-- In the world w the cells from (b, off) on hold the rows l, four cells a row. -/
def RAt (w : World) (b off : Nat) (l : List Rw) : Prop := b < w.heap.size ∧ ∀ j, j < l.length → w.cell? ⟨b, off + j * 4, none⟩ = some (.int .i64 (rnth l j).frm) ∧ w.cell? ⟨b, off + j * 4 + 1, none⟩ = some (.int .i64 (rnth l j).seen) ∧ w.cell? ⟨b, off + j * 4 + 2, none⟩ = some (.int .i64 (rnth l j).val) ∧ w.cell? ⟨b, off + j * 4 + 3, none⟩ = some (.bool (rnth l j).gone)
theorem RAt.below {B : Nat} {w w' : World} {b off : Nat} {l : List Rw} (h : RAt w b off l) (hb : Below B w w') (hB : b < B) : RAt w' b off l :=
  ⟨Nat.lt_of_lt_of_le h.1 hb.size, fun j hj => ⟨(hb.cell (p := ⟨b, off + j * 4, none⟩) hB).trans (h.2 j hj).1, (hb.cell (p := ⟨b, off + j * 4 + 1, none⟩) hB).trans (h.2 j hj).2.1, (hb.cell (p := ⟨b, off + j * 4 + 2, none⟩) hB).trans (h.2 j hj).2.2.1, (hb.cell (p := ⟨b, off + j * 4 + 3, none⟩) hB).trans (h.2 j hj).2.2.2⟩⟩
/-- A slice of rows that came in. -/
def CameR (w : World) (a : Option Addr) (l : List Rw) : Prop := l.length = 0 ∨ ∃ b off, a = some ⟨b, off, none⟩ ∧ RAt w b off l
theorem CameR.below {w w' : World} {a : Option Addr} {l : List Rw} (h : CameR w a l) (hb : Below w.heap.size w w') : CameR w' a l := by
  rcases h with h | ⟨b, off, rfl, h⟩
  · exact .inl h
  · exact .inr ⟨b, off, rfl, h.below hb h.1⟩
theorem rlt_of_cell {W : World} {p : Addr} {v : Value} (h : W.cell? p = some v) : p.block < W.heap.size := by
  by_cases hb : p.block < W.heap.size
  · exact hb
  · have : W.heap[p.block]? = none := Array.getElem?_eq_none (by omega)
    simp [World.cell?, this] at h
def RowWf (r : Rw) : Prop := (Lit.int .i64 r.frm).wf = true ∧ (Lit.int .i64 r.seen).wf = true ∧ (Lit.int .i64 r.val).wf = true

theorem cells_row : Try.prog.cellsOf 24 = 4 := by kernel_rfl
theorem cells_int : Try.prog.cellsOf 3 = 1 := by kernel_rfl
theorem cells_bool : Try.prog.cellsOf 4 = 1 := by kernel_rfl
theorem open_rows {H : Type} {enc : TypeId × Value → H} {W : World} {fuel : Nat} {a : Option Addr} {len cap : Nat} {x : DataW H × List MemPlace}
    (h : DataW.trod enc Try.prog W 0 (fun _ => true) true fuel 22 [.slice a len cap] = some x) :
    ∃ l : List Rw, CameR W a l ∧ l.length = len ∧ len ≤ maxLen ∧ ∀ r ∈ l, RowWf r := by
  rcases Deep.open_slice Try.underlying22 h with ⟨hcs, _⟩ | ⟨a', len', cap', m, n, D, Pl, hcs, hb, hl, hm, hmm, _, hx⟩
  · simp at hcs
    obtain ⟨rfl, rfl, rfl⟩ := hcs
    exact ⟨[], .inl rfl, rfl, Nat.zero_le _, by simp⟩
  simp at hcs
  obtain ⟨rfl, rfl, rfl⟩ := hcs
  have hmc : m = cap := by rw [hmm]; simp
  subst hmc
  have each : ∀ i, i < m → ∃ r : Rw, RowWf r ∧ W.cell? (a'.add (i * 4)) = some (.int .i64 r.frm) ∧ W.cell? (a'.add (i * 4 + 1)) = some (.int .i64 r.seen) ∧ W.cell? (a'.add (i * 4 + 2)) = some (.int .i64 r.val) ∧ W.cell? (a'.add (i * 4 + 3)) = some (.bool r.gone) := by
    intro i hi
    obtain ⟨cs', h1, h2⟩ := hx i hi
    rw [cells_row] at h1
    obtain ⟨_, hlen, hcell⟩ := World.cells?_some h1
    obtain ⟨xs, k, hk, hxy, _, hxl, hf⟩ := DataW.trod_struct Try.underlying24 h2
    match xs, hxl, cs', hlen with
    | [y0, y1, y2, y3], _, [v0, v1, v2, v3], _ =>
      have g0 := hf 0 _ rfl
      have g1 := hf 1 _ rfl
      have g2 := hf 2 _ rfl
      have g3 := hf 3 _ rfl
      simp [cells_int, cells_bool] at g0 g1 g2 g3
      obtain ⟨n0, q0, _, w0⟩ := DataW.trod_int Try.underlying3 g0
      obtain ⟨n1, q1, _, w1⟩ := DataW.trod_int Try.underlying3 g1
      obtain ⟨n2, q2, _, w2⟩ := DataW.trod_int Try.underlying3 g2
      obtain ⟨n3, q3, _⟩ := DataW.trod_bool Try.underlying4 g3
      simp at q0 q1 q2 q3
      subst q0 q1 q2 q3
      have e0 := hcell 0 (by omega)
      have e1 := hcell 1 (by omega)
      have e2 := hcell 2 (by omega)
      have e3 := hcell 3 (by omega)
      rw [Deep.add_add] at e0 e1 e2 e3
      exact ⟨⟨n0, n1, n2, n3⟩, ⟨w0, w1, w2⟩, by simpa using e0, by simpa using e1, by simpa using e2, by simpa using e3⟩
  haveI : Inhabited Rw := ⟨⟨0, 0, 0, false⟩⟩
  obtain ⟨q, hq⟩ := Deep.choose_lt each
  have hnth : ∀ j, j < len → rnth ((List.range len).map q) j = q j := by
    intro j hj
    simp [rnth, List.getD_eq_getElem?_getD, hj]
  refine ⟨(List.range len).map q, ?_, by simp, by omega, ?_⟩
  · by_cases h0 : len = 0
    · exact .inl (by simp [h0])
    · obtain ⟨b, off, spot⟩ := a'
      have hc := (hq 0 (by omega)).2.1
      have hspot : spot = none := by simpa [Addr.add] using World.cell?_spot hc
      subst hspot
      refine .inr ⟨b, off, rfl, rlt_of_cell hc, fun j hj => ?_⟩
      have hj' : j < len := by simpa using hj
      have := (hq j (by omega)).2
      simp only [Addr.add_lit] at this
      rw [hnth j hj']
      simpa [Nat.add_assoc] using this
  · intro r hr
    obtain ⟨j, hj, rfl⟩ := List.mem_map.1 hr
    exact (hq j (by have := List.mem_range.1 hj; omega)).1
end Go.Proofs.Ytjokgohnpnhhdaa
