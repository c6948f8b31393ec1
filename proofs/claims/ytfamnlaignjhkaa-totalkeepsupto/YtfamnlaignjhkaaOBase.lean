/-
  Promise M: totals: how they lie in memory, how a list of them that came in is opened; which are right, and how two of them stand.
-/
import Derived.Test.YtfamnlaignjhkaaMPart
import Derived.Test.YtfamnlaignjhkaaTIsName
import Derived.Lib.Hide
import Derived.Deep.Slices
import Derived.ChangeSame
namespace Go.Proofs.Ytfamnlaignjhkaa
open Go.RowKit

/-- A total. -/
structure Tt where
  per : Int
  nam : ByteArray
  yr : Int
  mon : Int
def onth (l : List Tt) (j : Nat) : Tt := l.getD j ⟨0, ⟨#[]⟩, 0, 0⟩
/-- A total's four cells. -/
def TtIs (w : World) (b o : Nat) (r : Tt) : Prop := w.cell? ⟨b, o, none⟩ = some (.int .i64 r.per) ∧ w.cell? ⟨b, o + 1, none⟩ = some (.string r.nam) ∧ w.cell? ⟨b, o + 2, none⟩ = some (.int .i64 r.yr) ∧ w.cell? ⟨b, o + 3, none⟩ = some (.int .i64 r.mon)
theorem TtIs.below {B : Nat} {w w' : World} {b o : Nat} {r : Tt} (h : TtIs w b o r) (hb : Below B w w') (hB : b < B) : TtIs w' b o r :=
  ⟨(hb.cell (p := ⟨b, o, none⟩) hB).trans h.1, (hb.cell (p := ⟨b, o + 1, none⟩) hB).trans h.2.1, (hb.cell (p := ⟨b, o + 2, none⟩) hB).trans h.2.2.1, (hb.cell (p := ⟨b, o + 3, none⟩) hB).trans h.2.2.2⟩
/-- In the world w the cells from (b, off) on hold the totals l. -/
def OAt (w : World) (b off : Nat) (l : List Tt) : Prop := b < w.heap.size ∧ ∀ j, j < l.length → TtIs w b (off + j * 4) (onth l j)
theorem OAt.below {B : Nat} {w w' : World} {b off : Nat} {l : List Tt} (h : OAt w b off l) (hb : Below B w w') (hB : b < B) : OAt w' b off l :=
  ⟨Nat.lt_of_lt_of_le h.1 hb.size, fun j hj => (h.2 j hj).below hb hB⟩
/-- A slice of totals. -/
def CameO (w : World) (a : Option Addr) (l : List Tt) : Prop := l.length = 0 ∨ ∃ b off, a = some ⟨b, off, none⟩ ∧ OAt w b off l
theorem CameO.below {w w' : World} {a : Option Addr} {l : List Tt} (h : CameO w a l) (hb : Below w.heap.size w w') : CameO w' a l := by
  rcases h with h | ⟨b, off, rfl, h⟩
  · exact .inl h
  · exact .inr ⟨b, off, rfl, h.below hb h.1⟩
theorem CameO.open {w : World} {a : Option Addr} {l : List Tt} (h : CameO w a l) {n : Nat} (hn : l.length = n) (h0 : 0 < n) : ∃ b off, a = some ⟨b, off, none⟩ ∧ ∀ w', Below w.heap.size w w' → ∀ k, k < n → TtIs w' b (off + k * 4) (onth l k) := by
  rcases h with h | ⟨b, off, rfl, h⟩
  · omega
  · exact ⟨b, off, rfl, fun w' hb k hk => TtIs.below (h.2 k (by omega)) hb h.1⟩
theorem onth_mem {l : List Tt} {j : Nat} (hj : j < l.length) : onth l j ∈ l := by
  unfold onth
  rw [List.getD_eq_getElem?_getD, List.getElem?_eq_getElem hj]
  exact List.getElem_mem hj
theorem mem_onth {l : List Tt} {x : Tt} (hx : x ∈ l) : ∃ j, j < l.length ∧ onth l j = x := by
  obtain ⟨j, hj, rfl⟩ := List.mem_iff_getElem.1 hx
  exact ⟨j, hj, by simp [onth, List.getD_eq_getElem?_getD, hj]⟩
/-- Names are no longer than a text may be. -/
def NFit (l : List Tt) : Prop := ∀ j, j < l.length → (onth l j).nam.size ≤ maxLen
theorem oblt_of_cell {W : World} {p : Addr} {v : Value} (h : W.cell? p = some v) : p.block < W.heap.size := by
  by_cases hb : p.block < W.heap.size
  · exact hb
  · have : W.heap[p.block]? = none := Array.getElem?_eq_none (by omega)
    simp [World.cell?, this] at h
theorem ocells_tt : Try.prog.cellsOf 50 = 4 := by kernel_rfl
theorem ocells_int : Try.prog.cellsOf 3 = 1 := by kernel_rfl
theorem ocells_str : Try.prog.cellsOf 9 = 1 := by kernel_rfl
set_option maxRecDepth 100000 in
theorem open_tts {H : Type} {enc : TypeId × Value → H} {W : World} {fuel : Nat} {v : Value} {x : DataW H × List MemPlace}
    (h : DataW.trod enc Try.prog W 0 (fun _ => true) true fuel 22 [v] = some x) :
    ∃ (a : Option Addr) (len cap : Nat) (l : List Tt), v = .slice a len cap ∧ CameO W a l ∧ l.length = len ∧ len ≤ maxLen ∧ NFit l := by
  rcases Deep.open_slice Try.underlying22 h with ⟨hcs, _⟩ | ⟨a', len, cap, m, n, D, Pl, hcs, hb, hl, hm, hmm, _, hx⟩
  · simp at hcs
    exact ⟨none, 0, 0, [], hcs, .inl rfl, rfl, Nat.zero_le _, fun j hj => by simp at hj⟩
  simp at hcs
  subst hcs
  have hmc : m = cap := by rw [hmm]; simp
  subst hmc
  have each : ∀ i, i < m → ∃ r : Tt, W.cell? (a'.add (i * 4)) = some (.int .i64 r.per) ∧ W.cell? (a'.add (i * 4 + 1)) = some (.string r.nam) ∧ W.cell? (a'.add (i * 4 + 2)) = some (.int .i64 r.yr) ∧ W.cell? (a'.add (i * 4 + 3)) = some (.int .i64 r.mon) ∧ r.nam.size ≤ maxLen := by
    intro i hi
    obtain ⟨cs', h1, h2⟩ := hx i hi
    rw [ocells_tt] at h1
    obtain ⟨_, hlen, hcell⟩ := World.cells?_some h1
    obtain ⟨xs, k, hk, hxy, _, hxl, hf⟩ := DataW.trod_struct Try.underlying50 h2
    match xs, hxl, cs', hlen with
    | [y0, y1, y2, y3], _, [v0, v1, v2, v3], _ =>
      have g0 := hf 0 _ rfl
      have g1 := hf 1 _ rfl
      have g2 := hf 2 _ rfl
      have g3 := hf 3 _ rfl
      simp [ocells_int, ocells_str] at g0 g1 g2 g3
      obtain ⟨n0, q0, _, w0⟩ := DataW.trod_int Try.underlying3 g0
      obtain ⟨n1, q1, _, w1⟩ := DataW.trod_string Try.underlying9 g1
      obtain ⟨n2, q2, _, w2⟩ := DataW.trod_int Try.underlying3 g2
      obtain ⟨n3, q3, _, w3⟩ := DataW.trod_int Try.underlying3 g3
      simp at q0 q1 q2 q3
      subst q0 q1 q2 q3
      have e0 := hcell 0 (by omega)
      have e1 := hcell 1 (by omega)
      have e2 := hcell 2 (by omega)
      have e3 := hcell 3 (by omega)
      rw [Deep.add_add] at e0 e1 e2 e3
      exact ⟨⟨n0, n1, n2, n3⟩, by simpa using e0, by simpa using e1, by simpa using e2, by simpa using e3, w1⟩
  haveI : Inhabited Tt := ⟨⟨0, ⟨#[]⟩, 0, 0⟩⟩
  obtain ⟨q, hq⟩ := Deep.choose_lt each
  have hnth : ∀ j, j < len → onth ((List.range len).map q) j = q j := by
    intro j hj
    simp [onth, List.getD_eq_getElem?_getD, hj]
  refine ⟨some a', len, m, (List.range len).map q, rfl, ?_, by simp, by omega, fun j hj => ?_⟩
  · by_cases h0 : len = 0
    · exact .inl (by simp [h0])
    · obtain ⟨b, off, spot⟩ := a'
      have hc := (hq 0 (by omega)).1
      have hspot : spot = none := by simpa [Addr.add] using World.cell?_spot hc
      subst hspot
      refine .inr ⟨b, off, rfl, oblt_of_cell hc, fun j hj => ?_⟩
      have hj' : j < len := by simpa using hj
      obtain ⟨c0, c1, c2, c3, _⟩ := hq j (by omega)
      simp only [Addr.add_lit] at c0 c1 c2 c3
      rw [hnth j hj']
      exact ⟨by simpa [Nat.add_assoc] using c0, by simpa [Nat.add_assoc] using c1, by simpa [Nat.add_assoc] using c2, by simpa [Nat.add_assoc] using c3⟩
  · have hj' : j < len := by simpa using hj
    rw [hnth j hj']
    exact (hq j (by omega)).2.2.2.2
theorem obelow_box (w : World) (o : Obj) : Below w.heap.size w (w.alloc o) := (Below.refl w.heap.size w).alloc (Nat.le_refl _) o
theorem oret_bool {a b : Bool} (h : a = b) : Ending.returned (.bool a) = .returned (.bool b) := by rw [h]
theorem oret_int {k : IntKind} {a b : Int} (h : a = b) : Ending.returned (.int k a) = .returned (.int k b) := by rw [h]
theorem obelow_dN {B : Nat} {a w : World} (h : Below B a w) (k : Nat) : Below B a (w.drewN k) := h.trans ⟨rfl, rfl, rfl, Nat.le_refl _, fun _ _ => rfl⟩
instance (s : ByteArray) : Decidable (NameP s) := by unfold NameP; infer_instance
/-- Persons, years, names; money that is not 0. -/
def perB (n : Int) : Bool := decide (1 ≤ n ∧ n ≤ 999)
def yrB (n : Int) : Bool := decide (2000 ≤ n ∧ n ≤ 2199)
def namB (s : ByteArray) : Bool := decide (NameP s)
def someB (n : Int) : Bool := !(n == 0) && monB n
end Go.Proofs.Ytfamnlaignjhkaa
