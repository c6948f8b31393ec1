/-
  Amounts with names, and postings: how they lie in memory, how lists of them that came in are opened; which are right.
-/
import Derived.Test.YtmchanddfodhaaaDoorMPart
import Derived.Test.YtmchanddfodhaaaDoorTIsName
import Derived.Lib.Hide
import Derived.Deep.Slices
import Derived.ChangeSame
namespace Go.Proofs.YtmchanddfodhaaaDoor
open Go.RowKit

/-- An amount with a name. -/
structure Am where
  name : ByteArray
  mon : Int
def anth (l : List Am) (j : Nat) : Am := l.getD j ⟨⟨#[]⟩, 0⟩
/-- An amount's two cells. -/
def AmIs (w : World) (b o : Nat) (r : Am) : Prop := w.cell? ⟨b, o, none⟩ = some (.string r.name) ∧ w.cell? ⟨b, o + 1, none⟩ = some (.int .i64 r.mon)
theorem AmIs.below {B : Nat} {w w' : World} {b o : Nat} {r : Am} (h : AmIs w b o r) (hb : Below B w w') (hB : b < B) : AmIs w' b o r :=
  ⟨(hb.cell (p := ⟨b, o, none⟩) hB).trans h.1, (hb.cell (p := ⟨b, o + 1, none⟩) hB).trans h.2⟩
/-- In the world w the cells from (b, off) on hold the amounts l. -/
def AAt (w : World) (b off : Nat) (l : List Am) : Prop := b < w.heap.size ∧ ∀ j, j < l.length → AmIs w b (off + j * 2) (anth l j)
theorem AAt.below {B : Nat} {w w' : World} {b off : Nat} {l : List Am} (h : AAt w b off l) (hb : Below B w w') (hB : b < B) : AAt w' b off l :=
  ⟨Nat.lt_of_lt_of_le h.1 hb.size, fun j hj => (h.2 j hj).below hb hB⟩
/-- A slice of amounts that came in. -/
def CameA (w : World) (a : Option Addr) (l : List Am) : Prop := l.length = 0 ∨ ∃ b off, a = some ⟨b, off, none⟩ ∧ AAt w b off l
theorem CameA.below {w w' : World} {a : Option Addr} {l : List Am} (h : CameA w a l) (hb : Below w.heap.size w w') : CameA w' a l := by
  rcases h with h | ⟨b, off, rfl, h⟩
  · exact .inl h
  · exact .inr ⟨b, off, rfl, h.below hb h.1⟩
theorem CameA.open {w : World} {a : Option Addr} {l : List Am} (h : CameA w a l) {n : Nat} (hn : l.length = n) (h0 : 0 < n) : ∃ b off, a = some ⟨b, off, none⟩ ∧ ∀ w', Below w.heap.size w w' → ∀ k, k < n → AmIs w' b (off + k * 2) (anth l k) := by
  rcases h with h | ⟨b, off, rfl, h⟩
  · omega
  · exact ⟨b, off, rfl, fun w' hb k hk => AmIs.below (h.2 k (by omega)) hb h.1⟩
theorem anth_mem {l : List Am} {j : Nat} (hj : j < l.length) : anth l j ∈ l := by
  unfold anth
  rw [List.getD_eq_getElem?_getD, List.getElem?_eq_getElem hj]
  exact List.getElem_mem hj
theorem all_nth {P : Am → Bool} {l : List Am} (h : l.all P = true) {j : Nat} (hj : j < l.length) : P (anth l j) = true := List.all_eq_true.1 h _ (anth_mem hj)
theorem all_of {P : Am → Bool} {l : List Am} (h : ∀ j, j < l.length → P (anth l j) = true) : l.all P = true := by
  rw [List.all_eq_true]
  intro x hx
  obtain ⟨j, hj, rfl⟩ := List.mem_iff_getElem.1 hx
  have := h j hj
  simpa [anth, List.getD_eq_getElem?_getD, hj] using this
theorem all_not {P : Am → Bool} {l : List Am} {j : Nat} (hj : j < l.length) (h : P (anth l j) = false) : l.all P = false := by
  rw [Bool.eq_false_iff]
  intro e
  rw [all_nth e hj] at h
  cases h
theorem oblt_of_cell {W : World} {p : Addr} {v : Value} (h : W.cell? p = some v) : p.block < W.heap.size := by
  by_cases hb : p.block < W.heap.size
  · exact hb
  · have : W.heap[p.block]? = none := Array.getElem?_eq_none (by omega)
    simp [World.cell?, this] at h
theorem ocells_int : Tryd.prog.cellsOf 3 = 1 := by kernel_rfl
theorem ocells_str : Tryd.prog.cellsOf 9 = 1 := by kernel_rfl
theorem kbelow_box (w : World) (o : Obj) : Below w.heap.size w (w.alloc o) := (Below.refl w.heap.size w).alloc (Nat.le_refl _) o
theorem kret_bool {a b : Bool} (h : a = b) : Ending.returned (.bool a) = .returned (.bool b) := by rw [h]
theorem kret_int {k : IntKind} {a b : Int} (h : a = b) : Ending.returned (.int k a) = .returned (.int k b) := by rw [h]
theorem kbelow_dN {B : Nat} {a w : World} (h : Below B a w) (k : Nat) : Below B a (w.drewN k) := h.trans ⟨rfl, rfl, rfl, Nat.le_refl _, fun _ _ => rfl⟩
instance (s : ByteArray) : Decidable (NameP s) := by unfold NameP; infer_instance
def namB (s : ByteArray) : Bool := decide (NameP s)
def perB (n : Int) : Bool := decide (1 ≤ n ∧ n ≤ 999)
def dayB (n : Int) : Bool := decide (0 ≤ n ∧ n ≤ 73048)
def someB (n : Int) : Bool := !(n == 0) && monB n
/-- Is an amount's name one? Is it money, and not 0? -/
def anB (r : Am) : Bool := namB r.name
def asB (r : Am) : Bool := someB r.mon
def ansB (l : List Am) : Bool := l.all anB
def assB (l : List Am) : Bool := l.all asB
/-- Amounts that come in have names that are no longer than texts can be. -/
def NamesFit (l : List Am) : Prop := ∀ j, j < l.length → (anth l j).name.size ≤ maxLen
theorem cellsAm : Tryd.prog.cellsOf 45 = 2 := by kernel_rfl
set_option maxRecDepth 100000 in
theorem openAm {H : Type} {enc : TypeId × Value → H} {W : World} {fuel : Nat} {v : Value} {x : DataW H × List MemPlace}
    (h : DataW.trod enc Tryd.prog W 0 (fun _ => true) true fuel 22 [v] = some x) :
    ∃ (a : Option Addr) (len cap : Nat) (l : List Am), v = .slice a len cap ∧ CameA W a l ∧ NamesFit l ∧ l.length = len ∧ len ≤ maxLen := by
  rcases Deep.open_slice Tryd.underlying22 h with ⟨hcs, _⟩ | ⟨a', len, cap, m, n, D, Pl, hcs, hb, hl, hm, hmm, _, hx⟩
  · simp at hcs
    exact ⟨none, 0, 0, [], hcs, .inl rfl, fun j hj => by simp at hj, rfl, Nat.zero_le _⟩
  simp at hcs
  subst hcs
  have hmc : m = cap := by rw [hmm]; simp
  subst hmc
  have each : ∀ i, i < m → ∃ r : Am, W.cell? (a'.add (i * 2)) = some (.string r.name) ∧ W.cell? (a'.add (i * 2 + 1)) = some (.int .i64 r.mon) ∧ r.name.size ≤ maxLen := by
    intro i hi
    obtain ⟨cs', h1, h2⟩ := hx i hi
    rw [cellsAm] at h1
    obtain ⟨_, hlen, hcell⟩ := World.cells?_some h1
    obtain ⟨xs, k, hk, hxy, _, hxl, hf⟩ := DataW.trod_struct Tryd.underlying45 h2
    match xs, hxl, cs', hlen with
    | [y0, y1], _, [v0, v1], _ =>
      have g0 := hf 0 _ rfl
      have g1 := hf 1 _ rfl
      simp [ocells_str, ocells_int] at g0 g1
      obtain ⟨s0, q0, _, hs⟩ := DataW.trod_string Tryd.underlying9 g0
      obtain ⟨n1, q1, _, _⟩ := DataW.trod_int Tryd.underlying3 g1
      simp at q0 q1
      subst q0 q1
      have e0 := hcell 0 (by omega)
      have e1 := hcell 1 (by omega)
      rw [Deep.add_add] at e0 e1
      exact ⟨⟨s0, n1⟩, by simpa using e0, by simpa using e1, hs⟩
  haveI : Inhabited Am := ⟨⟨⟨#[]⟩, 0⟩⟩
  obtain ⟨q, hq⟩ := Deep.choose_lt each
  have hnth : ∀ j, j < len → anth ((List.range len).map q) j = q j := by
    intro j hj
    simp [anth, List.getD_eq_getElem?_getD, hj]
  refine ⟨some a', len, m, (List.range len).map q, rfl, ?_, ?_, by simp, by omega⟩
  · by_cases h0 : len = 0
    · exact .inl (by simp [h0])
    · obtain ⟨b, off, spot⟩ := a'
      have hc := (hq 0 (by omega)).1
      have hspot : spot = none := by simpa [Addr.add] using World.cell?_spot hc
      subst hspot
      refine .inr ⟨b, off, rfl, oblt_of_cell hc, fun j hj => ?_⟩
      have hj' : j < len := by simpa using hj
      obtain ⟨h1, h2, _⟩ := hq j (by omega)
      simp only [Addr.add_lit] at h1 h2
      rw [hnth j hj']
      exact ⟨by simpa [Nat.add_assoc] using h1, by simpa [Nat.add_assoc] using h2⟩
  · intro j hj
    have hj' : j < len := by simpa using hj
    rw [hnth j hj']
    exact (hq j (by omega)).2.2
end Go.Proofs.YtmchanddfodhaaaDoor
