/-
  Amounts with names, and postings: how they lie in memory, how lists of them that came in are opened; which are right.
  Promise R: slips: how they lie in memory, how a list of them that came in is opened; which are right.
  Promise R1: the walks of slip's Check and of what it calls.
  Promise R1: the walks of the reference's wrongSlip and CheckSlips.
-/
import Derived.Test.YtkalfdjmklakdaaGreatDoorKB
import Derived.Test.YtkalfdjmklakdaaGreatDoorKA
import Derived.Lib.Hide
import Derived.Deep.Slices
import Derived.ChangeSame
import Derived.Lib.QuietBelow
import Derived.Laws.Cover1
namespace Go.Proofs.YtkalfdjmklakdaaGreatDoor.Sq
open Go.RowKit
structure Am where
 name : ByteArray
 mon : Int
def anth (l : List Am) (j : Nat) : Am := l.getD j ⟨⟨#[]⟩, 0⟩
def AmIs (w : World) (b o : Nat) (r : Am) : Prop := w.cell? ⟨b, o, none⟩ = some (.string r.name) ∧ w.cell? ⟨b, o + 1, none⟩ = some (.int .i64 r.mon)
theorem AmIs.below {B : Nat} {w w' : World} {b o : Nat} {r : Am} (h : AmIs w b o r) (hb : Below B w w') (hB : b < B) : AmIs w' b o r :=
 ⟨(hb.cell (p := ⟨b, o, none⟩) hB).trans h.1, (hb.cell (p := ⟨b, o + 1, none⟩) hB).trans h.2⟩
def AAt (w : World) (b off : Nat) (l : List Am) : Prop := b < w.heap.size ∧ ∀ j, j < l.length → AmIs w b (off + j * 2) (anth l j)
theorem AAt.below {B : Nat} {w w' : World} {b off : Nat} {l : List Am} (h : AAt w b off l) (hb : Below B w w') (hB : b < B) : AAt w' b off l :=
 ⟨Nat.lt_of_lt_of_le h.1 hb.size, fun j hj => (h.2 j hj).below hb hB⟩
def CameA (w : World) (a : Option Addr) (l : List Am) : Prop := l.length = 0 ∨ ∃ b off, a = some ⟨b, off, none⟩ ∧ AAt w b off l
theorem CameA.below {w w' : World} {a : Option Addr} {l : List Am} (h : CameA w a l) (hb : Below w.heap.size w w') : CameA w' a l := by
 rcases h with h | ⟨b, off, rfl, h⟩
 ·exact .inl h
 ·exact .inr ⟨b, off, rfl, h.below hb h.1⟩
theorem CameA.open {w : World} {a : Option Addr} {l : List Am} (h : CameA w a l) {n : Nat} (hn : l.length = n) (h0 : 0 < n) : ∃ b off, a = some ⟨b, off, none⟩ ∧ ∀ w', Below w.heap.size w w' → ∀ k, k < n → AmIs w' b (off + k * 2) (anth l k) := by
 rcases h with h | ⟨b, off, rfl, h⟩
 ·omega
 ·exact ⟨b, off, rfl, fun w' hb k hk => AmIs.below (h.2 k (by omega)) hb h.1⟩
theorem anth_mem {l : List Am} {j : Nat} (hj : j < l.length) : anth l j ∈ l := by
 unfold anth
 rw [List.getD_eq_getElem?_getD, List.getElem?_eq_getElem hj]
 exact List.getElem_mem hj
theorem all_nth {P : Am → Bool} {l : List Am} (h : l.all P = true) {j : Nat} (hj : j < l.length) : P (anth l j) = true := List.all_eq_true.1 h _ (anth_mem hj)
theorem all_of {P : Am → Bool} {l : List Am} (h : ∀ j, j < l.length → P (anth l j) = true) : l.all P = true := by
 rw [List.all_eq_true]
 intro x hx
 obtain ⟨j, hj, rfl⟩ := List.mem_iff_getElem.1 hx
 have := h j hj
 simpa [anth, List.getD_eq_getElem?_getD, hj] using this
theorem all_not {P : Am → Bool} {l : List Am} {j : Nat} (hj : j < l.length) (h : P (anth l j) = false) : l.all P = false := by
 rw [Bool.eq_false_iff]
 intro e
 rw [all_nth e hj] at h
 cases h
theorem oblt_of_cell {W : World} {p : Addr} {v : Value} (h : W.cell? p = some v) : p.block < W.heap.size := by
 by_cases hb : p.block < W.heap.size
 ·exact hb
 ·have : W.heap[p.block]? = none := Array.getElem?_eq_none (by omega)
  simp [World.cell?, this] at h
theorem ocells_int : Tryz.prog.cellsOf 3 = 1 := by kernel_rfl
theorem ocells_str : Tryz.prog.cellsOf 9 = 1 := by kernel_rfl
theorem kbelow_box (w : World) (o : Obj) : Below w.heap.size w (w.alloc o) := (Below.refl w.heap.size w).alloc (Nat.le_refl _) o
theorem kret_bool {a b : Bool} (h : a = b) : Ending.returned (.bool a) = .returned (.bool b) := by rw [h]
theorem kret_int {k : IntKind} {a b : Int} (h : a = b) : Ending.returned (.int k a) = .returned (.int k b) := by rw [h]
theorem kbelow_dN {B : Nat} {a w : World} (h : Below B a w) (k : Nat) : Below B a (w.drewN k) := h.trans ⟨rfl, rfl, rfl, Nat.le_refl _, fun _ _ => rfl⟩
instance (s : ByteArray) : Decidable (NameP s) := by unfold NameP; infer_instance
def namB (s : ByteArray) : Bool := decide (NameP s)
def perB (n : Int) : Bool := decide (1 ≤ n ∧ n ≤ 999)
def dayB (n : Int) : Bool := decide (0 ≤ n ∧ n ≤ 73048)
def someB (n : Int) : Bool := !(n == 0) && monB n
def anB (r : Am) : Bool := namB r.name
def asB (r : Am) : Bool := someB r.mon
def ansB (l : List Am) : Bool := l.all anB
def assB (l : List Am) : Bool := l.all asB
def NamesFit (l : List Am) : Prop := ∀ j, j < l.length → (anth l j).name.size ≤ maxLen
theorem cellsPo : Tryz.prog.cellsOf 179 = 2 := by kernel_rfl
set_option maxRecDepth 100000 in
theorem openPo {H : Type} {enc : TypeId × Value → H} {W : World} {fuel : Nat} {v : Value} {x : DataW H × List MemPlace}
 (h : DataW.trod enc Tryz.prog W 0 (fun _ => true) true fuel 89 [v] = some x) :
 ∃ (a : Option Addr) (len cap : Nat) (l : List Am), v = .slice a len cap ∧ CameA W a l ∧ NamesFit l ∧ l.length = len ∧ len ≤ maxLen := by
 rcases Deep.open_slice Tryz.underlying89 h with ⟨hcs, _⟩ | ⟨a', len, cap, m, n, D, Pl, hcs, hb, hl, hm, hmm, _, hx⟩
 ·simp at hcs
  exact ⟨none, 0, 0, [], hcs, .inl rfl, fun j hj => by simp at hj, rfl, Nat.zero_le _⟩
 simp at hcs
 subst hcs
 have hmc : m = cap := by rw [hmm]; simp
 subst hmc
 have each : ∀ i, i < m → ∃ r : Am, W.cell? (a'.add (i * 2)) = some (.string r.name) ∧ W.cell? (a'.add (i * 2 + 1)) = some (.int .i64 r.mon) ∧ r.name.size ≤ maxLen := by
  intro i hi
  obtain ⟨cs', h1, h2⟩ := hx i hi
  rw [cellsPo] at h1
  obtain ⟨_, hlen, hcell⟩ := World.cells?_some h1
  obtain ⟨xs, k, hk, hxy, _, hxl, hf⟩ := DataW.trod_struct Tryz.underlying179 h2
  match xs, hxl, cs', hlen with
  | [y0, y1], _, [v0, v1], _ =>
    have g0 := hf 0 _ rfl
    have g1 := hf 1 _ rfl
    simp [ocells_str, ocells_int] at g0 g1
    obtain ⟨s0, q0, _, hs⟩ := DataW.trod_string Tryz.underlying9 g0
    obtain ⟨n1, q1, _, _⟩ := DataW.trod_int Tryz.underlying3 g1
    simp at q0 q1
    subst q0 q1
    have e0 := hcell 0 (by omega)
    have e1 := hcell 1 (by omega)
    rw [Deep.add_add] at e0 e1
    exact ⟨⟨s0, n1⟩, by simpa using e0, by simpa using e1, hs⟩
 haveI : Inhabited Am := ⟨⟨⟨#[]⟩, 0⟩⟩
 obtain ⟨q, hq⟩ := Deep.choose_lt each
 have hnth : ∀ j, j < len → anth ((List.range len).map q) j = q j := by
  intro j hj
  simp [anth, List.getD_eq_getElem?_getD, hj]
 refine ⟨some a', len, m, (List.range len).map q, rfl, ?_, ?_, by simp, by omega⟩
 ·by_cases h0 : len = 0
  ·exact .inl (by simp [h0])
  ·obtain ⟨b, off, spot⟩ := a'
   have hc := (hq 0 (by omega)).1
   have hspot : spot = none := by simpa [Addr.add] using World.cell?_spot hc
   subst hspot
   refine .inr ⟨b, off, rfl, oblt_of_cell hc, fun j hj => ?_⟩
   have hj' : j < len := by simpa using hj
   obtain ⟨h1, h2, _⟩ := hq j (by omega)
   simp only [Addr.add_lit] at h1 h2
   rw [hnth j hj']
   exact ⟨by simpa [Nat.add_assoc] using h1, by simpa [Nat.add_assoc] using h2⟩
 ·intro j hj
  have hj' : j < len := by simpa using hj
  rw [hnth j hj']
  exact (hq j (by omega)).2.2
theorem cellsAm : Tryz.prog.cellsOf 87 = 2 := by kernel_rfl
set_option maxRecDepth 100000 in
theorem openAm {H : Type} {enc : TypeId × Value → H} {W : World} {fuel : Nat} {v : Value} {x : DataW H × List MemPlace}
 (h : DataW.trod enc Tryz.prog W 0 (fun _ => true) true fuel 82 [v] = some x) :
 ∃ (a : Option Addr) (len cap : Nat) (l : List Am), v = .slice a len cap ∧ CameA W a l ∧ NamesFit l ∧ l.length = len ∧ len ≤ maxLen := by
 rcases Deep.open_slice Tryz.underlying82 h with ⟨hcs, _⟩ | ⟨a', len, cap, m, n, D, Pl, hcs, hb, hl, hm, hmm, _, hx⟩
 ·simp at hcs
  exact ⟨none, 0, 0, [], hcs, .inl rfl, fun j hj => by simp at hj, rfl, Nat.zero_le _⟩
 simp at hcs
 subst hcs
 have hmc : m = cap := by rw [hmm]; simp
 subst hmc
 have each : ∀ i, i < m → ∃ r : Am, W.cell? (a'.add (i * 2)) = some (.string r.name) ∧ W.cell? (a'.add (i * 2 + 1)) = some (.int .i64 r.mon) ∧ r.name.size ≤ maxLen := by
  intro i hi
  obtain ⟨cs', h1, h2⟩ := hx i hi
  rw [cellsAm] at h1
  obtain ⟨_, hlen, hcell⟩ := World.cells?_some h1
  obtain ⟨xs, k, hk, hxy, _, hxl, hf⟩ := DataW.trod_struct Tryz.underlying87 h2
  match xs, hxl, cs', hlen with
  | [y0, y1], _, [v0, v1], _ =>
    have g0 := hf 0 _ rfl
    have g1 := hf 1 _ rfl
    simp [ocells_str, ocells_int] at g0 g1
    obtain ⟨s0, q0, _, hs⟩ := DataW.trod_string Tryz.underlying9 g0
    obtain ⟨n1, q1, _, _⟩ := DataW.trod_int Tryz.underlying3 g1
    simp at q0 q1
    subst q0 q1
    have e0 := hcell 0 (by omega)
    have e1 := hcell 1 (by omega)
    rw [Deep.add_add] at e0 e1
    exact ⟨⟨s0, n1⟩, by simpa using e0, by simpa using e1, hs⟩
 haveI : Inhabited Am := ⟨⟨⟨#[]⟩, 0⟩⟩
 obtain ⟨q, hq⟩ := Deep.choose_lt each
 have hnth : ∀ j, j < len → anth ((List.range len).map q) j = q j := by
  intro j hj
  simp [anth, List.getD_eq_getElem?_getD, hj]
 refine ⟨some a', len, m, (List.range len).map q, rfl, ?_, ?_, by simp, by omega⟩
 ·by_cases h0 : len = 0
  ·exact .inl (by simp [h0])
  ·obtain ⟨b, off, spot⟩ := a'
   have hc := (hq 0 (by omega)).1
   have hspot : spot = none := by simpa [Addr.add] using World.cell?_spot hc
   subst hspot
   refine .inr ⟨b, off, rfl, oblt_of_cell hc, fun j hj => ?_⟩
   have hj' : j < len := by simpa using hj
   obtain ⟨h1, h2, _⟩ := hq j (by omega)
   simp only [Addr.add_lit] at h1 h2
   rw [hnth j hj']
   exact ⟨by simpa [Nat.add_assoc] using h1, by simpa [Nat.add_assoc] using h2⟩
 ·intro j hj
  have hj' : j < len := by simpa using hj
  rw [hnth j hj']
  exact (hq j (by omega)).2.2
end Go.Proofs.YtkalfdjmklakdaaGreatDoor.Sq
namespace Go.Proofs.YtkalfdjmklakdaaGreatDoor.Sq.Slp
open Go.RowKit
structure Sl where
 num : Int
 per : Int
 run : Int
 gone : Bool
 tot : List Am
def snth (l : List Sl) (j : Nat) : Sl := l.getD j ⟨0, 0, 0, false, []⟩
def PsAt (w : World) (a : Option Addr) (l : List Am) : Prop := CameA w a l ∧ NamesFit l ∧ l.length ≤ maxLen
theorem PsAt.below {w w' : World} {a : Option Addr} {l : List Am} (h : PsAt w a l) (hb : Below w.heap.size w w') : PsAt w' a l := ⟨h.1.below hb, h.2⟩
def SlHd (w : World) (b o : Nat) (r : Sl) : Prop := w.cell? ⟨b, o, none⟩ = some (.int .i64 r.num) ∧ w.cell? ⟨b, o + 1, none⟩ = some (.int .i64 r.per) ∧ w.cell? ⟨b, o + 2, none⟩ = some (.int .i64 r.run) ∧ w.cell? ⟨b, o + 3, none⟩ = some (.bool r.gone)
theorem SlHd.below {B : Nat} {w w' : World} {b o : Nat} {r : Sl} (h : SlHd w b o r) (hb : Below B w w') (hB : b < B) : SlHd w' b o r :=
 ⟨(hb.cell (p := ⟨b, o, none⟩) hB).trans h.1, (hb.cell (p := ⟨b, o + 1, none⟩) hB).trans h.2.1, (hb.cell (p := ⟨b, o + 2, none⟩) hB).trans h.2.2.1, (hb.cell (p := ⟨b, o + 3, none⟩) hB).trans h.2.2.2⟩
def SlIs (w : World) (b o : Nat) (r : Sl) : Prop := SlHd w b o r ∧ ∃ (a : Option Addr) (c : Nat), w.cell? ⟨b, o + 4, none⟩ = some (.slice a r.tot.length c) ∧ PsAt w a r.tot
theorem SlIs.below {w w' : World} {b o : Nat} {r : Sl} (h : SlIs w b o r) (hb : Below w.heap.size w w') (hB : b < w.heap.size) : SlIs w' b o r := by
 obtain ⟨h1, a, c, h2, h3⟩ := h
 exact ⟨h1.below hb hB, a, c, (hb.cell (p := ⟨b, o + 4, none⟩) hB).trans h2, h3.below hb⟩
def CameS (w : World) (a : Option Addr) (l : List Sl) : Prop := l.length = 0 ∨ ∃ b off, a = some ⟨b, off, none⟩ ∧ b < w.heap.size ∧ ∀ j, j < l.length → SlIs w b (off + j * 5) (snth l j)
theorem CameS.below {w w' : World} {a : Option Addr} {l : List Sl} (h : CameS w a l) (hb : Below w.heap.size w w') : CameS w' a l := by
 rcases h with h | ⟨b, off, rfl, hB, h⟩
 ·exact .inl h
 ·exact .inr ⟨b, off, rfl, Nat.lt_of_lt_of_le hB hb.size, fun j hj => (h j hj).below hb hB⟩
theorem CameS.open {w : World} {a : Option Addr} {l : List Sl} (h : CameS w a l) {n : Nat} (hn : l.length = n) (h0 : 0 < n) : ∃ b off, a = some ⟨b, off, none⟩ ∧ ∀ w', Below w.heap.size w w' → ∀ k, k < n → SlIs w' b (off + k * 5) (snth l k) := by
 rcases h with h | ⟨b, off, rfl, hB, h⟩
 ·omega
 ·exact ⟨b, off, rfl, fun w' hb k hk => (h k (by omega)).below hb hB⟩
theorem snth_mem {l : List Sl} {j : Nat} (hj : j < l.length) : snth l j ∈ l := by
 unfold snth
 rw [List.getD_eq_getElem?_getD, List.getElem?_eq_getElem hj]
 exact List.getElem_mem hj
theorem mem_snth {l : List Sl} {x : Sl} (hx : x ∈ l) : ∃ j, j < l.length ∧ snth l j = x := by
 obtain ⟨j, hj, rfl⟩ := List.mem_iff_getElem.1 hx
 exact ⟨j, hj, by simp [snth, List.getD_eq_getElem?_getD, hj]⟩
theorem cellsSl : Tryz.prog.cellsOf 84 = 5 := by kernel_rfl
theorem cellsTo : Tryz.prog.cellsOf 82 = 1 := by kernel_rfl
theorem cellsBo : Tryz.prog.cellsOf 4 = 1 := by kernel_rfl
def WfSl (r : Sl) : Prop := (Lit.int .i64 r.num).wf = true ∧ (Lit.int .i64 r.per).wf = true ∧ (Lit.int .i64 r.run).wf = true
set_option maxRecDepth 100000 in
theorem openSl {H : Type} {enc : TypeId × Value → H} {W : World} {fuel : Nat} {cs : List Value} {x : DataW H × List MemPlace} (hl : cs.length = 5)
 (h : DataW.trod enc Tryz.prog W 0 (fun _ => true) true fuel 84 cs = some x) :
 ∃ (r : Sl) (a : Option Addr) (c : Nat), cs = [.int .i64 r.num, .int .i64 r.per, .int .i64 r.run, .bool r.gone, .slice a r.tot.length c] ∧ PsAt W a r.tot ∧ WfSl r := by
 obtain ⟨xs, k, hk, hxy, _, hxl, hf⟩ := DataW.trod_struct Tryz.underlying84 h
 match xs, hxl, cs, hl with
 | [y0, y1, y2, y3, y4], _, [v0, v1, v2, v3, v4], _ =>
   have g0 := hf 0 _ rfl
   have g1 := hf 1 _ rfl
   have g2 := hf 2 _ rfl
   have g3 := hf 3 _ rfl
   have g4 := hf 4 _ rfl
   simp [ocells_int, cellsBo, cellsTo] at g0 g1 g2 g3 g4
   obtain ⟨n0, q0, _, w0⟩ := DataW.trod_int Tryz.underlying3 g0
   obtain ⟨n1, q1, _, w1⟩ := DataW.trod_int Tryz.underlying3 g1
   obtain ⟨n2, q2, _, w2⟩ := DataW.trod_int Tryz.underlying3 g2
   obtain ⟨n3, q3, _⟩ := DataW.trod_bool Tryz.underlying4 g3
   obtain ⟨a, ln, c, l, rfl, hc, hfit, hn, hm⟩ := openAm g4
   simp at q0 q1 q2 q3
   subst q0 q1 q2 q3
   subst hn
   exact ⟨⟨n0, n1, n2, n3, l⟩, a, c, rfl, ⟨hc, hfit, hm⟩, w0, w1, w2⟩
set_option maxRecDepth 100000 in
theorem openSls {H : Type} {enc : TypeId × Value → H} {W : World} {fuel : Nat} {v : Value} {x : DataW H × List MemPlace}
 (h : DataW.trod enc Tryz.prog W 0 (fun _ => true) true fuel 30 [v] = some x) :
 ∃ (a : Option Addr) (len cap : Nat) (l : List Sl), v = .slice a len cap ∧ CameS W a l ∧ l.length = len ∧ len ≤ maxLen ∧ ∀ j, j < len → WfSl (snth l j) := by
 rcases Deep.open_slice Tryz.underlying30 h with ⟨hcs, _⟩ | ⟨a', len, cap, m, n, D, Pl, hcs, hb, hl, hm, hmm, _, hx⟩
 ·simp at hcs
  exact ⟨none, 0, 0, [], hcs, .inl rfl, rfl, Nat.zero_le _, fun j hj => by simp at hj⟩
 simp at hcs
 subst hcs
 have hmc : m = cap := by rw [hmm]; simp
 subst hmc
 have each : ∀ i, i < m → ∃ r : Sl, ∃ (a : Option Addr) (c : Nat), W.cell? (a'.add (i * 5)) = some (.int .i64 r.num) ∧ W.cell? (a'.add (i * 5 + 1)) = some (.int .i64 r.per) ∧ W.cell? (a'.add (i * 5 + 2)) = some (.int .i64 r.run) ∧ W.cell? (a'.add (i * 5 + 3)) = some (.bool r.gone) ∧ W.cell? (a'.add (i * 5 + 4)) = some (.slice a r.tot.length c) ∧ PsAt W a r.tot ∧ WfSl r := by
  intro i hi
  obtain ⟨cs', h1, h2⟩ := hx i hi
  rw [cellsSl] at h1
  obtain ⟨_, hlen, hcell⟩ := World.cells?_some h1
  obtain ⟨r, a, c, rfl, hp, hw⟩ := openSl (by simpa using hlen) h2
  have e0 := hcell 0 (by omega)
  have e1 := hcell 1 (by omega)
  have e2 := hcell 2 (by omega)
  have e3 := hcell 3 (by omega)
  have e4 := hcell 4 (by omega)
  rw [Deep.add_add] at e0 e1 e2 e3 e4
  exact ⟨r, a, c, by simpa using e0, by simpa using e1, by simpa using e2, by simpa using e3, by simpa using e4, hp, hw⟩
 haveI : Inhabited Sl := ⟨⟨0, 0, 0, false, []⟩⟩
 obtain ⟨q, hq⟩ := Deep.choose_lt each
 have hnth : ∀ j, j < len → snth ((List.range len).map q) j = q j := by
  intro j hj
  simp [snth, List.getD_eq_getElem?_getD, hj]
 refine ⟨some a', len, m, (List.range len).map q, rfl, ?_, by simp, by omega, fun j hj => ?_⟩
 ·by_cases h0 : len = 0
  ·exact .inl (by simp [h0])
  ·obtain ⟨b, off, spot⟩ := a'
   obtain ⟨_, _, hc, _⟩ := hq 0 (by omega)
   have hspot : spot = none := by simpa [Addr.add] using World.cell?_spot hc
   subst hspot
   refine .inr ⟨b, off, rfl, oblt_of_cell hc, fun j hj => ?_⟩
   have hj' : j < len := by simpa using hj
   obtain ⟨aj, cj, h1, h2, h3, h4, h5, h6, _⟩ := hq j (by omega)
   simp only [Addr.add_lit] at h1 h2 h3 h4 h5
   rw [hnth j hj']
   exact ⟨⟨by simpa [Nat.add_assoc] using h1, by simpa [Nat.add_assoc] using h2, by simpa [Nat.add_assoc] using h3, by simpa [Nat.add_assoc] using h4⟩, aj, cj, by simpa [Nat.add_assoc] using h5, h6⟩
 ·rw [hnth j hj]
  obtain ⟨_, _, _, _, _, _, _, _, h⟩ := hq j (by omega)
  exact h
def leS (a b : ByteArray) : Bool := Op.bytesLess a.toList b.toList || a.toList == b.toList
def upN (f : Nat → ByteArray) (n : Nat) : Bool := (List.range (n - 1)).all fun j => !leS (f (j + 1)) (f j)
theorem upN_iff {f : Nat → ByteArray} {n : Nat} : upN f n = true ↔ ∀ j, j + 1 < n → leS (f (j + 1)) (f j) = false := by
 unfold upN
 rw [List.all_eq_true]
 constructor
 ·intro h j hj
  have := h j (List.mem_range.2 (by omega))
  simpa using this
 ·intro h j hj
  have := h j (by have := List.mem_range.1 hj; omega)
  simpa using this
theorem upN_not {f : Nat → ByteArray} {n : Nat} {j : Nat} (hj : j + 1 < n) (h : leS (f (j + 1)) (f j) = true) : upN f n = false := by
 rw [Bool.eq_false_iff]
 intro e
 have := upN_iff.1 e j hj
 rw [h] at this
 cases this
def slW (r : Sl) : Int := if perB r.num = false ∨ perB r.per = false ∨ perB r.run = false then 3 else if 30 < r.tot.length then 2 else if ansB r.tot = false then 1 else if assB r.tot = false then 3 else if upN (fun j => (anth r.tot j).name) r.tot.length = false then 6 else 0
def slsW : List Sl → Int
 | [] => 0
 | r :: l => if slW r = 0 then slsW l else slW r
theorem slsW_at : ∀ {l : List Sl} {k : Nat}, (∀ j, j < k → slW (snth l j) = 0) → k < l.length → slW (snth l k) ≠ 0 → slsW l = slW (snth l k)
 | [], k, _, hk, _ => by simp at hk
 | t :: r, 0, _, _, hw => by
   have : snth (t :: r) 0 = t := rfl
   rw [this] at hw ⊢
   rw [slsW, if_neg hw]
 | t :: r, k + 1, h, hk, hw => by
   have h0 : slW t = 0 := h 0 (by omega)
   rw [slsW, if_pos h0]
   exact slsW_at (l := r) (k := k) (fun j hj => h (j + 1) (by omega)) (by simpa using hk) hw
theorem slsW_ok : ∀ {l : List Sl}, (∀ j, j < l.length → slW (snth l j) = 0) → slsW l = 0
 | [], _ => rfl
 | t :: r, h => by
   have h0 : slW t = 0 := h 0 (by simp)
   rw [slsW, if_pos h0]
   exact slsW_ok (l := r) fun j hj => h (j + 1) (by simpa using hj)
theorem slsW_zero : ∀ {l : List Sl}, slsW l = 0 → ∀ t ∈ l, slW t = 0
 | [], _, t, ht => by simp at ht
 | x :: r, h, t, ht => by
   rw [slsW] at h
   by_cases h0 : slW x = 0
   ·rw [if_pos h0] at h
    rcases List.mem_cons.1 ht with rfl | ht
    ·exact h0
    ·exact slsW_zero h t ht
   ·rw [if_neg h0] at h
    exact absurd h h0
def upS (l : List Sl) : Bool := (List.range (l.length - 1)).all fun j => decide ((snth l j).num < (snth l (j + 1)).num)
theorem upS_iff {l : List Sl} : upS l = true ↔ ∀ j, j + 1 < l.length → (snth l j).num < (snth l (j + 1)).num := by
 unfold upS
 rw [List.all_eq_true]
 constructor
 ·intro h j hj
  exact of_decide_eq_true (h j (List.mem_range.2 (by omega)))
 ·intro h j hj
  exact decide_eq_true (h j (by have := List.mem_range.1 hj; omega))
theorem upS_not {l : List Sl} {j : Nat} (hj : j + 1 < l.length) (h : (snth l (j + 1)).num ≤ (snth l j).num) : upS l = false := by
 rw [Bool.eq_false_iff]
 intro e
 have := upS_iff.1 e j hj
 omega
def slE (l : List Sl) : Int := if 200 < l.length then 2 else if slsW l = 0 then (if upS l = true then 0 else 4) else slsW l
end Go.Proofs.YtkalfdjmklakdaaGreatDoor.Sq.Slp
namespace Go.Proofs.YtkalfdjmklakdaaGreatDoor.Sq.Slp
open Go.RowKit Go.Sort
theorem isSome_any (n : Int) (w : World) : Calls Tryz.prog 195 #[.int .i64 n] w fun e w' => e = .returned (.bool (someB n)) ∧ w' = w := by
 by_cases h : n = 0
 ·have h' : (n != 0) = false := by simp [h]
  have H : Hid (someB n = false) := Lib.hid (by unfold someB; simp [h])
  clear h
  go_enter Tryz.func195, Tryz.ntmps195
  go_wp2_with fail
  go_ret
  exact ⟨kret_bool H.out.symm, rfl⟩
 ·have h' : (n != 0) = true := by simp [h]
  have H : Hid (someB n = monB n) := Lib.hid (by unfold someB; simp [h])
  clear h
  go_enter Tryz.func195, Tryz.ntmps195
  go_wp2_with (first | (go_at_call 212; refine (isMoney_any _ _).mono ?_; rintro e w' ⟨rfl, h'⟩; subst w'))
  go_ret
  exact ⟨kret_bool H.out.symm, rfl⟩
theorem isPerson_any (n : Int) (w : World) : Calls Tryz.prog 73 #[.int .i64 n] w fun e w' => e = .returned (.bool (perB n)) ∧ w' = w := by
 by_cases h1 : 1 ≤ n
 ·by_cases h2 : n ≤ 999
  ·have H : Hid (perB n = true) := decide_eq_true ⟨h1, h2⟩
   go_enter Tryz.func73, Tryz.ntmps73
   go_wp2
   go_ret
   exact ⟨kret_bool (by rw [H.out]; try (simp <;> omega)), rfl⟩
  ·have H : Hid (perB n = false) := decide_eq_false (by omega)
   go_enter Tryz.func73, Tryz.ntmps73
   go_wp2
   go_ret
   exact ⟨kret_bool (by rw [H.out]; try (simp <;> omega)), rfl⟩
 ·have H : Hid (perB n = false) := decide_eq_false (by omega)
  have hd : decide (1 ≤ n) = false := decide_eq_false h1
  go_enter Tryz.func73, Tryz.ntmps73
  go_wp2
  go_ret
  exact ⟨kret_bool (by rw [H.out]), rfl⟩
theorem isPerson_ref (n : Int) (w : World) : Calls Tryz.prog 39 #[.int .i64 n] w fun e w' => e = .returned (.bool (perB n)) ∧ w' = w := by
 by_cases h1 : 1 ≤ n
 ·by_cases h2 : n ≤ 999
  ·have H : Hid (perB n = true) := decide_eq_true ⟨h1, h2⟩
   go_enter Tryz.func39, Tryz.ntmps39
   go_wp2
   go_ret
   exact ⟨kret_bool (by rw [H.out]; try (simp <;> omega)), rfl⟩
  ·have H : Hid (perB n = false) := decide_eq_false (by omega)
   go_enter Tryz.func39, Tryz.ntmps39
   go_wp2
   go_ret
   exact ⟨kret_bool (by rw [H.out]; try (simp <;> omega)), rfl⟩
 ·have H : Hid (perB n = false) := decide_eq_false (by omega)
  have hd : decide (1 ≤ n) = false := decide_eq_false h1
  go_enter Tryz.func39, Tryz.ntmps39
  go_wp2
  go_ret
  exact ⟨kret_bool (by rw [H.out]), rfl⟩
theorem isNumber_any (n : Int) (w : World) : Calls Tryz.prog 192 #[.int .i64 n] w fun e w' => e = .returned (.bool (perB n)) ∧ w' = w := by
 go_enter Tryz.func192, Tryz.ntmps192
 go_wp2_with (first | (go_at_call 73; refine (isPerson_any _ _).mono ?_; rintro e w' ⟨rfl, h'⟩; subst w'))
 go_ret
 exact ⟨rfl, rfl⟩
set_option maxHeartbeats 1000000 in
theorem notNameS (s : ByteArray) (m : Int) (w : World) :
 Calls Tryz.prog 193 #[.agg #[.string s, .int .i64 m]] w fun e w' => e = .returned (.bool (!anB ⟨s, m⟩)) ∧ Below w.heap.size w w' := by
 have HB0 := Lib.hid (kbelow_box w (.cells #[.string s, .int .i64 m] 87))
 go_enter Tryz.func193, Tryz.ntmps193
 go_wp2_with fail
 refine (IsName_any s _).mono ?_
 rintro e w1 ⟨b, rfl, hb, hbel⟩
 have HB1 := Lib.hid (HB0.out.trans (hbel.mono HB0.out.size))
 have HE : Hid (anB ⟨s, m⟩ = b) := by
  unfold Hid anB namB
  cases b
  ·exact decide_eq_false (fun h => by have := hb.2 h; cases this)
  ·exact decide_eq_true (hb.1 rfl)
 clear hb hbel
 go_wp2_with fail
 go_ret
 exact ⟨kret_bool (by rw [HE.out]), HB1.out⟩
set_option maxHeartbeats 1000000 in
theorem notSomeS (s : ByteArray) (m : Int) (w : World) :
 Calls Tryz.prog 194 #[.agg #[.string s, .int .i64 m]] w fun e w' => e = .returned (.bool (!asB ⟨s, m⟩)) ∧ Below w.heap.size w w' := by
 have HB0 := Lib.hid (kbelow_box w (.cells #[.string s, .int .i64 m] 87))
 go_enter Tryz.func194, Tryz.ntmps194
 go_wp2_with fail
 refine (isSome_any _ _).mono ?_
 rintro e w1 ⟨rfl, h'⟩
 subst w1
 go_wp2_with fail
 go_ret
 exact ⟨rfl, HB0.out⟩
set_option maxRecDepth 100000 in
set_option maxHeartbeats 1000000 in
theorem indexNames (a : Option Addr) (n cap : Nat) (l : List Am) (w : World) (hc : CameA w a l) (hn : l.length = n) (hm : n ≤ maxLen) :
 Calls Tryz.prog 191 #[.slice a n cap, .func (.func 193) #[] #[]] w fun e w' => ∃ i : Int, e = .returned (.int .i64 i) ∧ -1 ≤ i ∧ (i = -1 ↔ ansB l = true) ∧ Below w.heap.size w w' := by
 have hm' : n ≤ 9223372036854775807 := by unfold maxLen at hm; omega
 have HO := Lib.hid (fun h0 => hc.open hn h0)
 clear hm hc
 go_enter Tryz.func191, Tryz.ntmps191
 go_wp2_with fail
 go_loopw [8] (fun i wr => ∃ k : Nat, k ≤ n ∧ i = .int .i64 k ∧ (∀ j, j < k → anB (anth l j) = true) ∧ Below w.heap.size w wr) (fun i _ => n - (intOf i).toNat)
 case atStart => exact ⟨0, Nat.zero_le _, rfl, fun j hj => by omega, Below.refl _ _⟩
 case round =>
  obtain ⟨k, hk, rfl, hall, hb⟩ := hrel
  have HA := Lib.hid hall
  have HB := Lib.hid hb
  clear hall hb
  by_cases hlt : k < n
  ·have hlt' : (k : Int) < (n : Int) := by omega
   obtain ⟨b, off, rfl, hcell⟩ := HO.out (by omega)
   obtain ⟨x0, x1⟩ := hcell wr HB.out k hlt
   clear hcell
   cases hr : anB (anth l k)
   ·have HE : Hid (ansB l = false) := Lib.hid (all_not (l := l) (j := k) (by omega) hr)
    go_wp2_with fail
    refine (notNameS _ _ _).mono ?_
    rintro e w1 ⟨rfl, hb1⟩
    have HB1 := Lib.hid (HB.out.trans (hb1.mono HB.out.size))
    have hr' : anB ⟨(anth l k).name, (anth l k).mon⟩ = false := hr
    rw [hr']
    clear hb1 x0 x1
    go_wp2_with fail
    go_ret
    exact ⟨k, rfl, by omega, ⟨fun h => by omega, fun h => by rw [HE.out] at h; cases h⟩, HB1.out⟩
   ·go_wp2_with fail
    refine (notNameS _ _ _).mono ?_
    rintro e w1 ⟨rfl, hb1⟩
    have HB1 := Lib.hid (HB.out.trans (hb1.mono HB.out.size))
    have hr' : anB ⟨(anth l k).name, (anth l k).mon⟩ = true := hr
    rw [hr']
    clear hb1 x0 x1
    go_wp2_with fail
    go_roundw
    case rel =>
     refine ⟨k + 1, by omega, by go_num, ?_, HB1.out⟩
     intro j hj
     by_cases e : j = k
     ·subst e; exact hr
     ·exact HA.out j (by omega)
    case measure => simp [intOf]; omega
  ·have hkn : k = n := by omega
   subst hkn
   have HL : Hid (ansB l = true) := Lib.hid (all_of (l := l) (fun j hj => HA.out j (by omega)))
   go_wp2_with fail
   go_ret
   exact ⟨-1, rfl, by omega, ⟨fun _ => HL.out, fun _ => rfl⟩, HB.out⟩
set_option maxHeartbeats 1000000 in
theorem containsNames (a : Option Addr) (n cap : Nat) (l : List Am) (w : World) (hc : CameA w a l) (hn : l.length = n) (hm : n ≤ maxLen) :
 Calls Tryz.prog 148 #[.slice a n cap, .func (.func 193) #[] #[]] w fun e w' => e = .returned (.bool (!ansB l)) ∧ Below w.heap.size w w' := by
 have HC := Lib.hid hc
 have HM := Lib.hid hm
 clear hc hm
 go_enter Tryz.func148, Tryz.ntmps148
 go_wp2_with fail
 refine (indexNames a n cap l _ HC.out hn HM.out).mono ?_
 rintro e w1 ⟨i, rfl, hi, hall, hb⟩
 have HB := Lib.hid hb
 clear hb
 have HR : Hid ((!ansB l) = decide (0 ≤ i)) := by
  unfold Hid
  cases h : ansB l
  ·rw [h] at hall
   have : i ≠ -1 := fun e => by have := hall.1 e; cases this
   simp; omega
  ·obtain rfl := hall.2 h
   simp
 clear hall
 go_wp2_with fail
 go_ret
 exact ⟨kret_bool (by rw [HR.out]), HB.out⟩
set_option maxRecDepth 100000 in
set_option maxHeartbeats 1000000 in
theorem indexSome (a : Option Addr) (n cap : Nat) (l : List Am) (w : World) (hc : CameA w a l) (hn : l.length = n) (hm : n ≤ maxLen) :
 Calls Tryz.prog 191 #[.slice a n cap, .func (.func 194) #[] #[]] w fun e w' => ∃ i : Int, e = .returned (.int .i64 i) ∧ -1 ≤ i ∧ (i = -1 ↔ assB l = true) ∧ Below w.heap.size w w' := by
 have hm' : n ≤ 9223372036854775807 := by unfold maxLen at hm; omega
 have HO := Lib.hid (fun h0 => hc.open hn h0)
 clear hm hc
 go_enter Tryz.func191, Tryz.ntmps191
 go_wp2_with fail
 go_loopw [8] (fun i wr => ∃ k : Nat, k ≤ n ∧ i = .int .i64 k ∧ (∀ j, j < k → asB (anth l j) = true) ∧ Below w.heap.size w wr) (fun i _ => n - (intOf i).toNat)
 case atStart => exact ⟨0, Nat.zero_le _, rfl, fun j hj => by omega, Below.refl _ _⟩
 case round =>
  obtain ⟨k, hk, rfl, hall, hb⟩ := hrel
  have HA := Lib.hid hall
  have HB := Lib.hid hb
  clear hall hb
  by_cases hlt : k < n
  ·have hlt' : (k : Int) < (n : Int) := by omega
   obtain ⟨b, off, rfl, hcell⟩ := HO.out (by omega)
   obtain ⟨x0, x1⟩ := hcell wr HB.out k hlt
   clear hcell
   cases hr : asB (anth l k)
   ·have HE : Hid (assB l = false) := Lib.hid (all_not (l := l) (j := k) (by omega) hr)
    go_wp2_with fail
    refine (notSomeS _ _ _).mono ?_
    rintro e w1 ⟨rfl, hb1⟩
    have HB1 := Lib.hid (HB.out.trans (hb1.mono HB.out.size))
    have hr' : asB ⟨(anth l k).name, (anth l k).mon⟩ = false := hr
    rw [hr']
    clear hb1 x0 x1
    go_wp2_with fail
    go_ret
    exact ⟨k, rfl, by omega, ⟨fun h => by omega, fun h => by rw [HE.out] at h; cases h⟩, HB1.out⟩
   ·go_wp2_with fail
    refine (notSomeS _ _ _).mono ?_
    rintro e w1 ⟨rfl, hb1⟩
    have HB1 := Lib.hid (HB.out.trans (hb1.mono HB.out.size))
    have hr' : asB ⟨(anth l k).name, (anth l k).mon⟩ = true := hr
    rw [hr']
    clear hb1 x0 x1
    go_wp2_with fail
    go_roundw
    case rel =>
     refine ⟨k + 1, by omega, by go_num, ?_, HB1.out⟩
     intro j hj
     by_cases e : j = k
     ·subst e; exact hr
     ·exact HA.out j (by omega)
    case measure => simp [intOf]; omega
  ·have hkn : k = n := by omega
   subst hkn
   have HL : Hid (assB l = true) := Lib.hid (all_of (l := l) (fun j hj => HA.out j (by omega)))
   go_wp2_with fail
   go_ret
   exact ⟨-1, rfl, by omega, ⟨fun _ => HL.out, fun _ => rfl⟩, HB.out⟩
set_option maxHeartbeats 1000000 in
theorem containsSome (a : Option Addr) (n cap : Nat) (l : List Am) (w : World) (hc : CameA w a l) (hn : l.length = n) (hm : n ≤ maxLen) :
 Calls Tryz.prog 148 #[.slice a n cap, .func (.func 194) #[] #[]] w fun e w' => e = .returned (.bool (!assB l)) ∧ Below w.heap.size w w' := by
 have HC := Lib.hid hc
 have HM := Lib.hid hm
 clear hc hm
 go_enter Tryz.func148, Tryz.ntmps148
 go_wp2_with fail
 refine (indexSome a n cap l _ HC.out hn HM.out).mono ?_
 rintro e w1 ⟨i, rfl, hi, hall, hb⟩
 have HB := Lib.hid hb
 clear hb
 have HR : Hid ((!assB l) = decide (0 ≤ i)) := by
  unfold Hid
  cases h : assB l
  ·rw [h] at hall
   have : i ≠ -1 := fun e => by have := hall.1 e; cases this
   simp; omega
  ·obtain rfl := hall.2 h
   simp
 clear hall
 go_wp2_with fail
 go_ret
 exact ⟨kret_bool (by rw [HR.out]), HB.out⟩
set_option maxHeartbeats 1000000 in
theorem slipName_any (s : ByteArray) (m : Int) (w : World) :
 Calls Tryz.prog 197 #[.agg #[.string s, .int .i64 m]] w fun e w' => e = .returned (.string s) ∧ Below w.heap.size w w' := by
 go_enter Tryz.func197, Tryz.ntmps197
 go_wp2_with fail
 go_ret
 exact ⟨rfl, kbelow_box _ _⟩
set_option maxRecDepth 100000 in
set_option maxHeartbeats 2000000 in
theorem riseA_any (a : Option Addr) (n cap : Nat) (l : List Am) (w : World) (hc : CameA w a l) (hn : l.length = n) (hm : n ≤ maxLen) :
 Calls Tryz.prog 196 #[.slice a n cap, .func (.func 197) #[] #[]] w fun e w' => e = .returned (.bool (upN (fun j => (anth l j).name) n)) ∧ Below w.heap.size w w' := by
 have hm' : n ≤ 9223372036854775807 := by unfold maxLen at hm; omega
 have HO := Lib.hid (fun h0 => hc.open hn h0)
 clear hm hc
 go_enter Tryz.func196, Tryz.ntmps196
 go_wp2_with fail
 go_loopw [5] (fun i wr => ∃ r : Nat, (r + 1 ≤ n ∨ r = 0) ∧ i = .int .i64 ((r : Int) + 1) ∧ Below w.heap.size w wr ∧ ∀ j, j < r → leS (anth l (j + 1)).name (anth l j).name = false) (fun i _ => n - (intOf i).toNat)
 case atStart => exact ⟨0, .inr rfl, rfl, Below.refl _ _, fun j hj => by omega⟩
 case round =>
  obtain ⟨r, hrk, rfl, hb, hall⟩ := hrel
  have HA := Lib.hid hall
  have HB := Lib.hid hb
  clear hall hb
  by_cases hlt : r + 1 < n
  ·have hlt' : (r : Int) + 1 < (n : Int) := by omega
   have hlt0 : (r : Int) < (n : Int) := by omega
   obtain ⟨b, off, rfl, hcell⟩ := HO.out (by omega)
   obtain ⟨x0, x1⟩ := hcell _ HB.out r (by omega)
   obtain ⟨y0, y1⟩ := hcell _ HB.out (r + 1) (by omega)
   clear hcell
   have htn : ((r : Int) + 1).toNat = r + 1 := by omega
   have hi0 : (0 : Int) ≤ (r : Int) + 1 := by omega
   have hr0 : (0 : Int) ≤ (r : Int) := by omega
   have hwr : IntKind.i64.wrap (r : Int) = (r : Int) := IntWalk.i64_in _ (by omega)
   have hwd : IntKind.i64.wrap ((r : Int) + 1 - 1) = (r : Int) := by rw [show (r : Int) + 1 - 1 = r by omega]; exact hwr
   have hd0 : (0 : Int) ≤ (r : Int) + 1 - 1 := by omega
   have hdn : (r : Int) + 1 - 1 < (n : Int) := by omega
   have hdt : ((r : Int) + 1 - 1).toNat = r := by omega
   have k0 := cell_regrown x0
   have k1 := cell_regrown x1
   have k2 := cell_regrown y0
   have k3 := cell_regrown y1
   cases hle : leS (anth l (r + 1)).name (anth l r).name
   ·unfold leS at hle
    go_wp2_with fail
    refine wp_region_quiet_below (by kernel_rfl) (by kernel_rfl) ?_
    repeat (quiet_step (exact Calls.regrown_of (slipName_any _ _ _)))
    refine wpQuiet_nil ?_
    intro _ hw'
    obtain ⟨⟨dq, osq⟩, hw''⟩ := hw'
    subst hw''
    go_wp2_with fail
    go_roundw
    case rel =>
     refine ⟨r + 1, .inl (by omega), by go_num, HB.out.trans ((below_regrown wr dq osq).mono HB.out.size), ?_⟩
     intro j hj
     by_cases e : j = r
     ·subst e; exact hle
     ·exact HA.out j (by omega)
    case measure => simp [intOf]; omega
   ·have HF := Lib.hid (upN_not (f := fun j => (anth l j).name) (n := n) hlt hle)
    unfold leS at hle
    go_wp2_with fail
    refine wp_region_quiet_below (by kernel_rfl) (by kernel_rfl) ?_
    repeat (quiet_step (exact Calls.regrown_of (slipName_any _ _ _)))
    refine wpQuiet_nil ?_
    intro _ hw'
    obtain ⟨⟨dq, osq⟩, hw''⟩ := hw'
    subst hw''
    go_wp2_with fail
    go_ret
    exact ⟨kret_bool HF.out.symm, HB.out.trans ((below_regrown wr dq osq).mono HB.out.size)⟩
  ·have hnl : ¬ ((r : Int) + 1 < (n : Int)) := by omega
   have HF := Lib.hid (upN_iff (f := fun j => (anth l j).name) (n := n).2 (fun j hj => HA.out j (by omega)))
   go_wp2_with fail
   go_ret
   exact ⟨kret_bool HF.out.symm, HB.out⟩
set_option maxRecDepth 100000 in
set_option maxHeartbeats 4000000 in
theorem checkSlip_any (nu pe ru : Int) (g : Bool) (a : Option Addr) (n cap : Nat) (l : List Am) (w : World) (hp : PsAt w a l) (hn : l.length = n) :
 Calls Tryz.prog 151 #[.agg #[.int .i64 nu, .int .i64 pe, .int .i64 ru, .bool g, .slice a n cap]] w fun e w' => e = .returned (.int .i64 (slW ⟨nu, pe, ru, g, l⟩)) ∧ Below w.heap.size w w' := by
 have HC := Lib.hid hp.1
 have HM : Hid (n ≤ maxLen) := Lib.hid (by rw [← hn]; exact hp.2.2)
 have HN := Lib.hid hn
 have hm' : n ≤ 9223372036854775807 := by have := HM.out; unfold maxLen at this; omega
 have HE : Hid (slW ⟨nu, pe, ru, g, l⟩ = if perB nu = false ∨ perB pe = false ∨ perB ru = false then 3 else if 30 < n then 2 else if ansB l = false then 1 else if assB l = false then 3 else if upN (fun j => (anth l j).name) n = false then 6 else 0) := by unfold Hid slW; rw [hn]
 have HB0 := Lib.hid (kbelow_box w (.cells #[.int .i64 nu, .int .i64 pe, .int .i64 ru, .bool g, .slice a n cap] 84))
 clear hp hn
 cases hd1 : perB nu
 ·rw [hd1, if_pos (.inl rfl)] at HE
  have hd2 := hd1
  have hd3 := hd1
  go_enter Tryz.func151, Tryz.ntmps151
  go_wp2_with (first | (go_at_call 192; refine (isNumber_any _ _).mono ?_; rintro e w' ⟨rfl, h'⟩; subst w'; first | rw [hd1] | rw [hd2] | rw [hd3]))
  go_ret
  exact ⟨kret_int HE.out.symm, HB0.out⟩
 ·cases hd2 : perB pe
  ·rw [hd2, if_pos (.inr (.inl rfl))] at HE
   have hd3 := hd1
   go_enter Tryz.func151, Tryz.ntmps151
   go_wp2_with (first | (go_at_call 192; refine (isNumber_any _ _).mono ?_; rintro e w' ⟨rfl, h'⟩; subst w'; first | rw [hd1] | rw [hd2] | rw [hd3]))
   go_ret
   exact ⟨kret_int HE.out.symm, HB0.out⟩
  ·cases hd3 : perB ru
   ·rw [hd3, if_pos (.inr (.inr rfl))] at HE
    go_enter Tryz.func151, Tryz.ntmps151
    go_wp2_with (first | (go_at_call 192; refine (isNumber_any _ _).mono ?_; rintro e w' ⟨rfl, h'⟩; subst w'; first | rw [hd1] | rw [hd2] | rw [hd3]))
    go_ret
    exact ⟨kret_int HE.out.symm, HB0.out⟩
   ·rw [hd1, hd2, hd3, if_neg (by decide)] at HE
    by_cases h20 : 30 < n
    ·have h20' : (30 : Int) < (n : Int) := by omega
     rw [if_pos h20] at HE
     go_enter Tryz.func151, Tryz.ntmps151
     go_wp2_with (first | (go_at_call 192; refine (isNumber_any _ _).mono ?_; rintro e w' ⟨rfl, h'⟩; subst w'; first | rw [hd1] | rw [hd2] | rw [hd3]))
     go_ret
     exact ⟨kret_int HE.out.symm, HB0.out⟩
    ·have h20' : decide ((30 : Int) < (n : Int)) = false := decide_eq_false (by omega)
     rw [if_neg h20] at HE
     clear h20
     go_enter Tryz.func151, Tryz.ntmps151
     go_wp2_with (first | (go_at_call 192; refine (isNumber_any _ _).mono ?_; rintro e w' ⟨rfl, h'⟩; subst w'; first | rw [hd1] | rw [hd2] | rw [hd3]))
     refine (containsNames a n cap l _ (HC.out.below HB0.out) HN.out HM.out).mono ?_
     rintro e w1 ⟨rfl, hb1⟩
     have HB1 := Lib.hid (HB0.out.trans (hb1.mono HB0.out.size))
     have k1 : w1.cell? ⟨w.heap.size, 4, none⟩ = some (.slice a n cap) := (hb1.cell (p := ⟨w.heap.size, 4, none⟩) (by simp)).trans (by simp)
     clear hb1
     cases h1 : ansB l
     ·rw [h1, if_pos rfl] at HE
      go_wp2_with fail
      go_ret
      exact ⟨kret_int HE.out.symm, HB1.out⟩
     ·rw [h1, if_neg (by decide)] at HE
      go_wp2_with fail
      refine (containsSome a n cap l _ (HC.out.below HB1.out) HN.out HM.out).mono ?_
      rintro e w2 ⟨rfl, hb2⟩
      have HB2 := Lib.hid (HB1.out.trans (hb2.mono HB1.out.size))
      have k2 : w2.cell? ⟨w.heap.size, 4, none⟩ = some (.slice a n cap) := (hb2.cell (p := ⟨w.heap.size, 4, none⟩) (oblt_of_cell k1)).trans k1
      clear hb2 k1
      cases h3 : assB l
      ·rw [h3, if_pos rfl] at HE
       go_wp2_with fail
       go_ret
       exact ⟨kret_int HE.out.symm, HB2.out⟩
      ·rw [h3, if_neg (by decide)] at HE
       go_wp2_with fail
       refine (riseA_any a n cap l _ (HC.out.below HB2.out) HN.out HM.out).mono ?_
       rintro e w3 ⟨rfl, hb3⟩
       have HB3 := Lib.hid (HB2.out.trans (hb3.mono HB2.out.size))
       clear hb3
       cases h0 : upN (fun j => (anth l j).name) n
       ·rw [h0, if_pos rfl] at HE
        go_wp2_with fail
        go_ret
        exact ⟨kret_int HE.out.symm, HB3.out⟩
       ·rw [h0, if_neg (by decide)] at HE
        go_wp2_with fail
        go_ret
        exact ⟨kret_int HE.out.symm, HB3.out⟩
set_option maxRecDepth 100000 in
set_option maxHeartbeats 2000000 in
theorem Check_any (a : Option Addr) (n cap : Nat) (l : List Sl) (w : World) (hc : CameS w a l) (hn : l.length = n) :
 Calls Tryz.prog 90 #[.slice a n cap] w fun e w' => e = .returned (.int .i64 (slE l)) ∧ Below w.heap.size w w' := by
 have HO := Lib.hid (fun h0 => hc.open hn h0)
 have HN := Lib.hid hn
 have HE : Hid (slE l = if 200 < l.length then 2 else if slsW l = 0 then (if upS l = true then 0 else 4) else slsW l) := rfl
 clear hc hn
 by_cases h400 : 200 < n
 ·have h4 : (200 : Int) < (n : Int) := by omega
  have HR : Hid (slE l = 2) := Lib.hid (by rw [HE.out, HN.out, if_pos h400])
  go_enter Tryz.func90, Tryz.ntmps90
  go_wp2_with fail
  go_ret
  exact ⟨kret_int HR.out.symm, Below.refl _ _⟩
 ·have h4 : ¬ ((200 : Int) < (n : Int)) := by omega
  rw [HN.out, if_neg h400] at HE
  go_enter Tryz.func90, Tryz.ntmps90
  go_wp2_with fail
  go_loopw [12] (fun i wr => ∃ k : Nat, k ≤ n ∧ i = .int .i64 k ∧ (∀ j, j < k → slW (snth l j) = 0) ∧ Below w.heap.size w wr) (fun i _ => n - (intOf i).toNat)
  case atStart => exact ⟨0, Nat.zero_le _, rfl, fun j hj => by omega, Below.refl _ _⟩
  case round =>
   obtain ⟨k, hk, rfl, hall, hb⟩ := hrel
   have HA := Lib.hid hall
   have HB := Lib.hid hb
   clear hall hb
   by_cases hlt : k < n
   ·have hlt' : (k : Int) < (n : Int) := by omega
    obtain ⟨b, off, rfl, hcell⟩ := HO.out (by omega)
    obtain ⟨⟨x0, x1, x2, x3⟩, ax, cx, x4, hp⟩ := hcell wr HB.out k hlt
    clear hcell
    have HP := Lib.hid hp
    have HBX := Lib.hid (HB.out.trans (Below.mono (B := wr.heap.size) (kbelow_box wr (.cells #[.int .i64 (snth l k).num, .int .i64 (snth l k).per, .int .i64 (snth l k).run, .bool (snth l k).gone, .slice ax (snth l k).tot.length cx] 84)) HB.out.size))
    have HK := Lib.hid (fun w (hp : PsAt w ax _) => checkSlip_any (snth l k).num (snth l k).per (snth l k).run (snth l k).gone ax (snth l k).tot.length cx (snth l k).tot w hp rfl)
    clear hp
    by_cases hz : slW (snth l k) = 0
    ·have HZ := Lib.hid hz
     have hz' : slW ⟨(snth l k).num, (snth l k).per, (snth l k).run, (snth l k).gone, (snth l k).tot⟩ = 0 := hz
     rw [hz'] at HK
     clear hz hz'
     go_wp2_with fail
     refine (HK.out _ (HP.out.below (kbelow_box wr (.cells #[.int .i64 (snth l k).num, .int .i64 (snth l k).per, .int .i64 (snth l k).run, .bool (snth l k).gone, .slice ax (snth l k).tot.length cx] 84)))).mono ?_
     rintro e w1 ⟨rfl, hb1⟩
     have HB1 := Lib.hid (HBX.out.trans (hb1.mono HBX.out.size))
     clear hb1
     go_wp2_with fail
     go_roundw
     case rel =>
      refine ⟨k + 1, by omega, by go_num, ?_, HB1.out⟩
      intro j hj
      by_cases e : j = k
      ·subst e; exact HZ.out
      ·exact HA.out j (by omega)
     case measure => simp [intOf]; omega
    ·have HR : Hid (slE l = slW (snth l k)) := Lib.hid (by
      have e : slsW l = slW (snth l k) := slsW_at HA.out (by rw [HN.out]; exact hlt) hz
      rw [HE.out, e, if_neg hz])
     obtain ⟨c, hcc⟩ : ∃ c, slW (snth l k) = c := ⟨_, rfl⟩
     have hcc' : slW ⟨(snth l k).num, (snth l k).per, (snth l k).run, (snth l k).gone, (snth l k).tot⟩ = c := hcc
     rw [hcc'] at HK
     rw [hcc] at HR hz
     have hz' : (c != 0) = true := by simp [hz]
     clear hcc hcc' hz
     go_wp2_with fail
     refine (HK.out _ (HP.out.below (kbelow_box wr (.cells #[.int .i64 (snth l k).num, .int .i64 (snth l k).per, .int .i64 (snth l k).run, .bool (snth l k).gone, .slice ax (snth l k).tot.length cx] 84)))).mono ?_
     rintro e w1 ⟨rfl, hb1⟩
     have HB1 := Lib.hid (HBX.out.trans (hb1.mono HBX.out.size))
     clear hb1
     go_wp2_with fail
     go_ret
     exact ⟨kret_int HR.out.symm, HB1.out⟩
   ·have hkn : k = n := by omega
    subst hkn
    have HZ : Hid (slsW l = 0) := Lib.hid (slsW_ok (fun j hj => HA.out j (by rw [HN.out] at hj; exact hj)))
    rw [HZ.out, if_pos rfl] at HE
    clear HZ HA
    go_wp2_with fail
    generalize wr = wu at *
    go_loopw [6] (fun i wq => ∃ r : Nat, (r + 1 ≤ k ∨ r = 0) ∧ i = .int .i64 ((r : Int) + 1) ∧ Below w.heap.size w wq ∧ ∀ j, j < r → (snth l j).num < (snth l (j + 1)).num) (fun i _ => k - (intOf i).toNat)
    case atStart => exact ⟨0, .inr rfl, rfl, HB.out, fun j hj => by omega⟩
    case round =>
     clear HB
     obtain ⟨r, hrk, rfl, hb, hall⟩ := hrel
     have HA := Lib.hid hall
     have HB := Lib.hid hb
     clear hall hb
     by_cases hlt : r + 1 < k
     ·have hlt' : (r : Int) + 1 < (k : Int) := by omega
      have hlt0 : (r : Int) < (k : Int) := by omega
      obtain ⟨b, off, rfl, hcell⟩ := HO.out (by omega)
      have hx := hcell _ HB.out r (by omega)
      have hy := hcell _ HB.out (r + 1) (by omega)
      clear hcell
      obtain ⟨⟨x0, _⟩, _⟩ := hx; obtain ⟨⟨y0, _⟩, _⟩ := hy
      have hsub : (r : Int) + 1 - 1 = (r : Int) := by omega
      have htn : ((r : Int) + 1).toNat = r + 1 := by omega
      have HUN := Lib.hid (fun h => upS_not (l := l) (j := r) (by rw [HN.out]; exact hlt) h)
      obtain ⟨u, hu⟩ : ∃ u, (snth l r).num = u := ⟨_, rfl⟩
      obtain ⟨v, hv⟩ : ∃ v, (snth l (r + 1)).num = v := ⟨_, rfl⟩
      rw [hu] at x0 HUN
      rw [hv] at y0 HUN
      have HU := Lib.hid hu
      have HV := Lib.hid hv
      clear hu hv
      by_cases hd : u < v
      ·have hd1 : decide (v ≤ u) = false := decide_eq_false (by omega)
       have HD := Lib.hid hd
       go_wp2_with fail
       go_quiet (fail)
       go_wp2_with fail
       go_roundw
       case rel =>
        refine ⟨r + 1, .inl (by omega), by go_num, kbelow_dN HB.out _, ?_⟩
        intro j hj
        by_cases e : j = r
        ·subst e; rw [HU.out, HV.out]; exact HD.out
        ·exact HA.out j (by omega)
       case measure => simp [intOf]; omega
      ·have hd1 : v ≤ u := by omega
       have HT := Lib.hid (HUN.out hd1)
       rw [HT.out] at HE
       go_wp2_with fail
       go_quiet (fail)
       go_wp2_with fail
       go_ret
       exact ⟨kret_int HE.out.symm, kbelow_dN HB.out _⟩
     ·have hnl : ¬ ((r : Int) + 1 < (k : Int)) := by omega
      have HT : Hid (upS l = true) := upS_iff.2 (fun j hj => HA.out j (by rw [HN.out] at hj; omega))
      rw [HT.out] at HE
      go_wp2_with fail
      go_ret
      exact ⟨kret_int HE.out.symm, HB.out⟩
end Go.Proofs.YtkalfdjmklakdaaGreatDoor.Sq.Slp
namespace Go.Proofs.YtkalfdjmklakdaaGreatDoor.Sq.Slp
open Go.RowKit Go.Sort
def farK (l : List Am) (k : Nat) : Bool := (List.range k).any fun j => !asB (anth l j)
def twiceK (f : Nat → ByteArray) (k : Nat) : Bool := (List.range k).any fun j => decide (0 < j) && leS (f j) (f (j - 1))
theorem farK_succ (l : List Am) (k : Nat) : farK l (k + 1) = (farK l k || !asB (anth l k)) := by simp [farK, List.range_succ]
theorem twiceK_succ (f : Nat → ByteArray) (k : Nat) : twiceK f (k + 1) = (twiceK f k || (decide (0 < k) && leS (f k) (f (k - 1)))) := by simp [twiceK, List.range_succ]
theorem farK_all {l : List Am} {n : Nat} (hn : l.length = n) : farK l n = !assB l := by
 subst hn
 cases h : assB l
 ·cases e : farK l l.length
  ·exfalso
   have : assB l = true := all_of (P := asB) (l := l) (fun j hj => by
    unfold farK at e
    rw [List.any_eq_false] at e
    have := e j (List.mem_range.2 hj)
    simpa using this)
   rw [h] at this; cases this
  ·rfl
 ·show farK l l.length = false
  unfold farK
  rw [List.any_eq_false]
  intro j hj
  have := all_nth (P := asB) (l := l) h (List.mem_range.1 hj)
  simp [this]
theorem twiceK_all (f : Nat → ByteArray) (n : Nat) : twiceK f n = !upN f n := by
 cases h : upN f n
 ·cases e : twiceK f n
  ·exfalso
   have : upN f n = true := upN_iff.2 (fun j hj => by
    unfold twiceK at e
    rw [List.any_eq_false] at e
    have := e (j + 1) (List.mem_range.2 hj)
    simpa using this)
   rw [h] at this; cases this
  ·rfl
 ·show twiceK f n = false
  unfold twiceK
  rw [List.any_eq_false]
  intro j hj
  have hj' := List.mem_range.1 hj
  by_cases h0 : j = 0
  ·simp [h0]
  ·have := upN_iff.1 h (j - 1) (by omega)
   rw [show j - 1 + 1 = j by omega] at this
   simp [this]
set_option maxRecDepth 100000 in
set_option maxHeartbeats 4000000 in
theorem wrongSlip_ref (nu pe ru : Int) (g : Bool) (a : Option Addr) (n cap : Nat) (l : List Am) (w : World) (hp : PsAt w a l) (hn : l.length = n) :
 Calls Tryz.prog 108 #[.agg #[.int .i64 nu, .int .i64 pe, .int .i64 ru, .bool g, .slice a n cap]] w fun e w' => e = .returned (.int .i64 (slW ⟨nu, pe, ru, g, l⟩)) ∧ Below w.heap.size w w' := by
 have HFIT := Lib.hid hp.2.1
 have HM : Hid (n ≤ maxLen) := Lib.hid (by rw [← hn]; exact hp.2.2)
 have HN := Lib.hid hn
 have HC := Lib.hid (fun h0 => hp.1.open hn h0)
 have hm' : n ≤ 9223372036854775807 := by have := HM.out; unfold maxLen at this; omega
 have HE : Hid (slW ⟨nu, pe, ru, g, l⟩ = if perB nu = false ∨ perB pe = false ∨ perB ru = false then 3 else if 30 < n then 2 else if ansB l = false then 1 else if assB l = false then 3 else if upN (fun j => (anth l j).name) n = false then 6 else 0) := by unfold Hid slW; rw [hn]
 have HB0 := Lib.hid (kbelow_box w (.cells #[.int .i64 nu, .int .i64 pe, .int .i64 ru, .bool g, .slice a n cap] 84))
 clear hp hn
 cases hd1 : perB nu
 ·rw [hd1, if_pos (.inl rfl)] at HE
  have hd2 := hd1
  have hd3 := hd1
  go_enter Tryz.func108, Tryz.ntmps108
  go_wp2_with (first | (go_at_call 39; refine (isPerson_ref _ _).mono ?_; rintro e w' ⟨rfl, h'⟩; subst w'; first | rw [hd1] | rw [hd2] | rw [hd3]))
  go_ret
  exact ⟨kret_int HE.out.symm, HB0.out⟩
 ·cases hd2 : perB pe
  ·rw [hd2, if_pos (.inr (.inl rfl))] at HE
   have hd3 := hd1
   go_enter Tryz.func108, Tryz.ntmps108
   go_wp2_with (first | (go_at_call 39; refine (isPerson_ref _ _).mono ?_; rintro e w' ⟨rfl, h'⟩; subst w'; first | rw [hd1] | rw [hd2] | rw [hd3]))
   go_ret
   exact ⟨kret_int HE.out.symm, HB0.out⟩
  ·cases hd3 : perB ru
   ·rw [hd3, if_pos (.inr (.inr rfl))] at HE
    go_enter Tryz.func108, Tryz.ntmps108
    go_wp2_with (first | (go_at_call 39; refine (isPerson_ref _ _).mono ?_; rintro e w' ⟨rfl, h'⟩; subst w'; first | rw [hd1] | rw [hd2] | rw [hd3]))
    go_ret
    exact ⟨kret_int HE.out.symm, HB0.out⟩
   ·rw [hd1, hd2, hd3, if_neg (by decide)] at HE
    by_cases h20 : 30 < n
    ·have h20' : (30 : Int) < (n : Int) := by omega
     rw [if_pos h20] at HE
     go_enter Tryz.func108, Tryz.ntmps108
     go_wp2_with (first | (go_at_call 39; refine (isPerson_ref _ _).mono ?_; rintro e w' ⟨rfl, h'⟩; subst w'; first | rw [hd1] | rw [hd2] | rw [hd3]))
     go_ret
     exact ⟨kret_int HE.out.symm, HB0.out⟩
    ·have h20' : decide ((30 : Int) < (n : Int)) = false := decide_eq_false (by omega)
     rw [if_neg h20] at HE
     clear h20
     go_enter Tryz.func108, Tryz.ntmps108
     go_wp2_with (first | (go_at_call 39; refine (isPerson_ref _ _).mono ?_; rintro e w' ⟨rfl, h'⟩; subst w'; first | rw [hd1] | rw [hd2] | rw [hd3]))
     go_loopw [3, 4, 5] (fun fv tv i wr => ∃ (k : Nat) (f t : Bool), k ≤ n ∧ fv = .bool f ∧ tv = .bool t ∧ i = .int .i64 k ∧ farK l k = f ∧ twiceK (fun j => (anth l j).name) k = t ∧ (∀ j, j < k → anB (anth l j) = true) ∧ Below w.heap.size w wr ∧ wr.cell? ⟨w.heap.size, 4, none⟩ = some (.slice a n cap)) (fun _ _ i _ => n - (intOf i).toNat)
     case atStart => exact ⟨0, false, false, Nat.zero_le _, rfl, rfl, rfl, rfl, rfl, fun j hj => by omega, HB0.out, by simp⟩
     case round =>
      obtain ⟨k, f, t, hk, rfl, rfl, rfl, hf, ht, hall, hb, k4⟩ := hrel
      have HF := Lib.hid hf
      have HT := Lib.hid ht
      have HA := Lib.hid hall
      have HB := Lib.hid hb
      clear hf ht hall hb
      by_cases hlt : k < n
      ·have hlt' : (k : Int) < (n : Int) := by omega
       obtain ⟨b, off, rfl, hcell⟩ := HC.out (by omega)
       have HO := Lib.hid hcell
       clear hcell
       obtain ⟨x0, x1⟩ := HO.out wr HB.out k hlt
       go_wp2_with fail
       refine (isName_ref _ _ (by have := HFIT.out k (by have := HN.out; omega); unfold maxLen at this; omega)).mono ?_
       rintro e w1 ⟨bn, rfl, hbn, hbel⟩
       have HB2 := Lib.hid (HB.out.trans (hbel.mono HB.out.size))
       have k5 : w1.cell? ⟨w.heap.size, 4, none⟩ = some (.slice (some ⟨b, off, none⟩) n cap) := (hbel.cell (p := ⟨w.heap.size, 4, none⟩) (oblt_of_cell k4)).trans k4
       have K4 := Lib.hid k5
       clear hbel x0 x1 k4
       obtain ⟨x0, x1⟩ := HO.out w1 HB2.out k hlt
       cases bn
       ·have HR : Hid (slW ⟨nu, pe, ru, g, l⟩ = 1) := by
         unfold Hid
         rw [HE.out]
         exact if_pos (all_not (P := anB) (l := l) (j := k) (by have := HN.out; omega) (decide_eq_false (fun h => by have := hbn.2 h; cases this)))
        clear hbn
        go_wp2_with fail
        go_ret
        exact ⟨kret_int HR.out.symm, HB2.out⟩
       ·have HY : Hid (∀ j, j < k + 1 → anB (anth l j) = true) := fun j hj => by
         by_cases e : j = k
         ·subst e; exact decide_eq_true (hbn.1 rfl)
         ·exact HA.out j (by omega)
        clear hbn
        cases f
        ·have HFM : Hid (farK l (k + 1) = !(!((anth l k).mon == 0) && monB (anth l k).mon)) := by unfold Hid; rw [farK_succ, HF.out]; rfl
         by_cases hm0 : (anth l k).mon = 0
         ·have HFN : Hid (farK l (k + 1) = true) := by unfold Hid; rw [HFM.out, hm0]; rfl
          rw [hm0] at x1
          clear hm0
          cases t
          ·by_cases hk0 : k = 0
           ·subst hk0
            have HTN : Hid (twiceK (fun j => (anth l j).name) (0 + 1) = false) := by unfold Hid; rw [twiceK_succ, HT.out]; simp
            go_wp2_with fail
            go_quiet (fail)
            go_wp2_with fail
            go_roundw
            case rel => exact ⟨0 + 1, true, false, by omega, rfl, rfl, by go_num, HFN.out, HTN.out, HY.out, kbelow_dN HB2.out _, K4.out⟩
            case measure => simp [intOf]; omega
           ·obtain ⟨q, rfl⟩ : ∃ q, k = q + 1 := ⟨k - 1, by omega⟩
            obtain ⟨z0, _⟩ := HO.out _ HB2.out q (by omega)
            rw [show ((q + 1 : Nat) : Int) = (q : Int) + 1 by omega]
            rw [show ((q + 1 : Nat) : Int) = (q : Int) + 1 by omega] at hlt'
            have hsub : (q : Int) + 1 - 1 = (q : Int) := by omega
            have htn : ((q : Int) + 1).toNat = q + 1 := by omega
            have hlq : (q : Int) < (n : Int) := by omega
            have hpB : decide ((0 : Int) < (q : Int) + 1) = true := decide_eq_true (by omega)
            have hp' : (0 : Int) < (q : Int) + 1 := by omega
            cases hle : leS (anth l (q + 1)).name (anth l q).name
            ·have HTN : Hid (twiceK (fun j => (anth l j).name) (q + 1 + 1) = false) := by unfold Hid; rw [twiceK_succ, HT.out]; simp [hle]
             unfold leS at hle
             go_wp2_with fail
             go_quiet (fail)
             go_wp2_with fail
             go_roundw
             case rel => exact ⟨q + 1 + 1, true, false, by omega, rfl, rfl, by go_num, HFN.out, HTN.out, HY.out, kbelow_dN HB2.out _, K4.out⟩
             case measure => simp [intOf]; omega
            ·have HTN : Hid (twiceK (fun j => (anth l j).name) (q + 1 + 1) = true) := by unfold Hid; rw [twiceK_succ, HT.out]; simp [hle]
             unfold leS at hle
             go_wp2_with fail
             go_quiet (fail)
             go_wp2_with fail
             go_roundw
             case rel => exact ⟨q + 1 + 1, true, true, by omega, rfl, rfl, by go_num, HFN.out, HTN.out, HY.out, kbelow_dN HB2.out _, K4.out⟩
             case measure => simp [intOf]; omega
          ·have HTN : Hid (twiceK (fun j => (anth l j).name) (k + 1) = true) := by unfold Hid; rw [twiceK_succ, HT.out]; simp
           go_wp2_with fail
           go_quiet (fail)
           go_wp2_with fail
           go_roundw
           case rel => exact ⟨k + 1, true, true, by omega, rfl, rfl, by go_num, HFN.out, HTN.out, HY.out, kbelow_dN HB2.out _, K4.out⟩
           case measure => simp [intOf]; omega
         ·have hm1 : ((anth l k).mon == 0) = false := by simp [hm0]
          rw [hm1] at HFM
          clear hm0
          go_wp2_with fail
          refine (isMoney_ref _ _).mono ?_
          rintro e w2 ⟨rfl, h'⟩
          subst w2
          cases hmb : monB (anth l k).mon
          ·have HFN : Hid (farK l (k + 1) = true) := by unfold Hid; rw [HFM.out, hmb]; rfl
           cases t
           ·by_cases hk0 : k = 0
            ·subst hk0
             have HTN : Hid (twiceK (fun j => (anth l j).name) (0 + 1) = false) := by unfold Hid; rw [twiceK_succ, HT.out]; simp
             go_wp2_with fail
             go_quiet (fail)
             go_wp2_with fail
             go_roundw
             case rel => exact ⟨0 + 1, true, false, by omega, rfl, rfl, by go_num, HFN.out, HTN.out, HY.out, kbelow_dN HB2.out _, K4.out⟩
             case measure => simp [intOf]; omega
            ·obtain ⟨q, rfl⟩ : ∃ q, k = q + 1 := ⟨k - 1, by omega⟩
             obtain ⟨z0, _⟩ := HO.out _ HB2.out q (by omega)
             rw [show ((q + 1 : Nat) : Int) = (q : Int) + 1 by omega]
             rw [show ((q + 1 : Nat) : Int) = (q : Int) + 1 by omega] at hlt'
             have hsub : (q : Int) + 1 - 1 = (q : Int) := by omega
             have htn : ((q : Int) + 1).toNat = q + 1 := by omega
             have hlq : (q : Int) < (n : Int) := by omega
             have hpB : decide ((0 : Int) < (q : Int) + 1) = true := decide_eq_true (by omega)
             have hp' : (0 : Int) < (q : Int) + 1 := by omega
             cases hle : leS (anth l (q + 1)).name (anth l q).name
             ·have HTN : Hid (twiceK (fun j => (anth l j).name) (q + 1 + 1) = false) := by unfold Hid; rw [twiceK_succ, HT.out]; simp [hle]
              unfold leS at hle
              go_wp2_with fail
              go_quiet (fail)
              go_wp2_with fail
              go_roundw
              case rel => exact ⟨q + 1 + 1, true, false, by omega, rfl, rfl, by go_num, HFN.out, HTN.out, HY.out, kbelow_dN HB2.out _, K4.out⟩
              case measure => simp [intOf]; omega
             ·have HTN : Hid (twiceK (fun j => (anth l j).name) (q + 1 + 1) = true) := by unfold Hid; rw [twiceK_succ, HT.out]; simp [hle]
              unfold leS at hle
              go_wp2_with fail
              go_quiet (fail)
              go_wp2_with fail
              go_roundw
              case rel => exact ⟨q + 1 + 1, true, true, by omega, rfl, rfl, by go_num, HFN.out, HTN.out, HY.out, kbelow_dN HB2.out _, K4.out⟩
              case measure => simp [intOf]; omega
           ·have HTN : Hid (twiceK (fun j => (anth l j).name) (k + 1) = true) := by unfold Hid; rw [twiceK_succ, HT.out]; simp
            go_wp2_with fail
            go_quiet (fail)
            go_wp2_with fail
            go_roundw
            case rel => exact ⟨k + 1, true, true, by omega, rfl, rfl, by go_num, HFN.out, HTN.out, HY.out, kbelow_dN HB2.out _, K4.out⟩
            case measure => simp [intOf]; omega
          ·have HFN : Hid (farK l (k + 1) = false) := by unfold Hid; rw [HFM.out, hmb]; rfl
           cases t
           ·by_cases hk0 : k = 0
            ·subst hk0
             have HTN : Hid (twiceK (fun j => (anth l j).name) (0 + 1) = false) := by unfold Hid; rw [twiceK_succ, HT.out]; simp
             go_wp2_with fail
             go_quiet (fail)
             go_wp2_with fail
             go_roundw
             case rel => exact ⟨0 + 1, false, false, by omega, rfl, rfl, by go_num, HFN.out, HTN.out, HY.out, kbelow_dN HB2.out _, K4.out⟩
             case measure => simp [intOf]; omega
            ·obtain ⟨q, rfl⟩ : ∃ q, k = q + 1 := ⟨k - 1, by omega⟩
             obtain ⟨z0, _⟩ := HO.out _ HB2.out q (by omega)
             rw [show ((q + 1 : Nat) : Int) = (q : Int) + 1 by omega]
             rw [show ((q + 1 : Nat) : Int) = (q : Int) + 1 by omega] at hlt'
             have hsub : (q : Int) + 1 - 1 = (q : Int) := by omega
             have htn : ((q : Int) + 1).toNat = q + 1 := by omega
             have hlq : (q : Int) < (n : Int) := by omega
             have hpB : decide ((0 : Int) < (q : Int) + 1) = true := decide_eq_true (by omega)
             have hp' : (0 : Int) < (q : Int) + 1 := by omega
             cases hle : leS (anth l (q + 1)).name (anth l q).name
             ·have HTN : Hid (twiceK (fun j => (anth l j).name) (q + 1 + 1) = false) := by unfold Hid; rw [twiceK_succ, HT.out]; simp [hle]
              unfold leS at hle
              go_wp2_with fail
              go_quiet (fail)
              go_wp2_with fail
              go_roundw
              case rel => exact ⟨q + 1 + 1, false, false, by omega, rfl, rfl, by go_num, HFN.out, HTN.out, HY.out, kbelow_dN HB2.out _, K4.out⟩
              case measure => simp [intOf]; omega
             ·have HTN : Hid (twiceK (fun j => (anth l j).name) (q + 1 + 1) = true) := by unfold Hid; rw [twiceK_succ, HT.out]; simp [hle]
              unfold leS at hle
              go_wp2_with fail
              go_quiet (fail)
              go_wp2_with fail
              go_roundw
              case rel => exact ⟨q + 1 + 1, false, true, by omega, rfl, rfl, by go_num, HFN.out, HTN.out, HY.out, kbelow_dN HB2.out _, K4.out⟩
              case measure => simp [intOf]; omega
           ·have HTN : Hid (twiceK (fun j => (anth l j).name) (k + 1) = true) := by unfold Hid; rw [twiceK_succ, HT.out]; simp
            go_wp2_with fail
            go_quiet (fail)
            go_wp2_with fail
            go_roundw
            case rel => exact ⟨k + 1, false, true, by omega, rfl, rfl, by go_num, HFN.out, HTN.out, HY.out, kbelow_dN HB2.out _, K4.out⟩
            case measure => simp [intOf]; omega
        ·have HFN : Hid (farK l (k + 1) = true) := by unfold Hid; rw [farK_succ, HF.out]; rfl
         cases t
         ·by_cases hk0 : k = 0
          ·subst hk0
           have HTN : Hid (twiceK (fun j => (anth l j).name) (0 + 1) = false) := by unfold Hid; rw [twiceK_succ, HT.out]; simp
           go_wp2_with fail
           go_quiet (fail)
           go_wp2_with fail
           go_roundw
           case rel => exact ⟨0 + 1, true, false, by omega, rfl, rfl, by go_num, HFN.out, HTN.out, HY.out, kbelow_dN HB2.out _, K4.out⟩
           case measure => simp [intOf]; omega
          ·obtain ⟨q, rfl⟩ : ∃ q, k = q + 1 := ⟨k - 1, by omega⟩
           obtain ⟨z0, _⟩ := HO.out _ HB2.out q (by omega)
           rw [show ((q + 1 : Nat) : Int) = (q : Int) + 1 by omega]
           rw [show ((q + 1 : Nat) : Int) = (q : Int) + 1 by omega] at hlt'
           have hsub : (q : Int) + 1 - 1 = (q : Int) := by omega
           have htn : ((q : Int) + 1).toNat = q + 1 := by omega
           have hlq : (q : Int) < (n : Int) := by omega
           have hpB : decide ((0 : Int) < (q : Int) + 1) = true := decide_eq_true (by omega)
           have hp' : (0 : Int) < (q : Int) + 1 := by omega
           cases hle : leS (anth l (q + 1)).name (anth l q).name
           ·have HTN : Hid (twiceK (fun j => (anth l j).name) (q + 1 + 1) = false) := by unfold Hid; rw [twiceK_succ, HT.out]; simp [hle]
            unfold leS at hle
            go_wp2_with fail
            go_quiet (fail)
            go_wp2_with fail
            go_roundw
            case rel => exact ⟨q + 1 + 1, true, false, by omega, rfl, rfl, by go_num, HFN.out, HTN.out, HY.out, kbelow_dN HB2.out _, K4.out⟩
            case measure => simp [intOf]; omega
           ·have HTN : Hid (twiceK (fun j => (anth l j).name) (q + 1 + 1) = true) := by unfold Hid; rw [twiceK_succ, HT.out]; simp [hle]
            unfold leS at hle
            go_wp2_with fail
            go_quiet (fail)
            go_wp2_with fail
            go_roundw
            case rel => exact ⟨q + 1 + 1, true, true, by omega, rfl, rfl, by go_num, HFN.out, HTN.out, HY.out, kbelow_dN HB2.out _, K4.out⟩
            case measure => simp [intOf]; omega
         ·have HTN : Hid (twiceK (fun j => (anth l j).name) (k + 1) = true) := by unfold Hid; rw [twiceK_succ, HT.out]; simp
          go_wp2_with fail
          go_quiet (fail)
          go_wp2_with fail
          go_roundw
          case rel => exact ⟨k + 1, true, true, by omega, rfl, rfl, by go_num, HFN.out, HTN.out, HY.out, kbelow_dN HB2.out _, K4.out⟩
          case measure => simp [intOf]; omega
      ·have hkn : k = n := by omega
       subst hkn
       have HL : Hid (ansB l = true) := all_of (P := anB) (l := l) (fun j hj => HA.out j (by have := HN.out; omega))
       have H1 := farK_all HN.out
       have H2 := twiceK_all (fun j => (anth l j).name) k
       rw [HF.out] at H1
       rw [HT.out] at H2
       have HR : Hid (slW ⟨nu, pe, ru, g, l⟩ = if f = true then 3 else if t = true then 6 else 0) := by
        unfold Hid
        rw [HE.out, HL.out, H1, H2]
        cases assB l <;> cases upN (fun j => (anth l j).name) k <;> rfl
       clear H1 H2 HE
       cases f
       ·cases t
        ·go_wp2_with fail
         go_ret
         exact ⟨kret_int HR.out.symm, HB.out⟩
        ·go_wp2_with fail
         go_ret
         exact ⟨kret_int HR.out.symm, HB.out⟩
       ·go_wp2_with fail
        go_ret
        exact ⟨kret_int HR.out.symm, HB.out⟩
set_option maxRecDepth 100000 in
set_option maxHeartbeats 2000000 in
theorem checkSlips_ref (a : Option Addr) (n cap : Nat) (l : List Sl) (w : World) (hc : CameS w a l) (hn : l.length = n) :
 Calls Tryz.prog 45 #[.slice a n cap] w fun e w' => e = .returned (.int .i64 (slE l)) ∧ Below w.heap.size w w' := by
 have HO := Lib.hid (fun h0 => hc.open hn h0)
 have HN := Lib.hid hn
 have HE : Hid (slE l = if 200 < l.length then 2 else if slsW l = 0 then (if upS l = true then 0 else 4) else slsW l) := rfl
 clear hc hn
 by_cases h400 : 200 < n
 ·have h4 : (200 : Int) < (n : Int) := by omega
  have HR : Hid (slE l = 2) := Lib.hid (by rw [HE.out, HN.out, if_pos h400])
  go_enter Tryz.func45, Tryz.ntmps45
  go_wp2_with fail
  go_ret
  exact ⟨kret_int HR.out.symm, Below.refl _ _⟩
 ·have h4 : ¬ ((200 : Int) < (n : Int)) := by omega
  rw [HN.out, if_neg h400] at HE
  go_enter Tryz.func45, Tryz.ntmps45
  go_wp2_with fail
  go_loopw [3] (fun i wr => ∃ k : Nat, k ≤ n ∧ i = .int .i64 k ∧ (∀ j, j < k → slW (snth l j) = 0) ∧ Below w.heap.size w wr) (fun i _ => n - (intOf i).toNat)
  case atStart => exact ⟨0, Nat.zero_le _, rfl, fun j hj => by omega, Below.refl _ _⟩
  case round =>
   obtain ⟨k, hk, rfl, hall, hb⟩ := hrel
   have HA := Lib.hid hall
   have HB := Lib.hid hb
   clear hall hb
   by_cases hlt : k < n
   ·have hlt' : (k : Int) < (n : Int) := by omega
    obtain ⟨b, off, rfl, hcell⟩ := HO.out (by omega)
    obtain ⟨⟨x0, x1, x2, x3⟩, ax, cx, x4, hp⟩ := hcell wr HB.out k hlt
    clear hcell
    have HP := Lib.hid hp
    have HBX := Lib.hid (HB.out.trans (Below.mono (B := wr.heap.size) (Below.refl wr.heap.size wr) HB.out.size))
    have HK := Lib.hid (fun w (hp : PsAt w ax _) => wrongSlip_ref (snth l k).num (snth l k).per (snth l k).run (snth l k).gone ax (snth l k).tot.length cx (snth l k).tot w hp rfl)
    clear hp
    by_cases hz : slW (snth l k) = 0
    ·have HZ := Lib.hid hz
     have hz' : slW ⟨(snth l k).num, (snth l k).per, (snth l k).run, (snth l k).gone, (snth l k).tot⟩ = 0 := hz
     rw [hz'] at HK
     clear hz hz'
     go_wp2_with fail
     refine (HK.out _ (HP.out.below (Below.refl wr.heap.size wr))).mono ?_
     rintro e w1 ⟨rfl, hb1⟩
     have HB1 := Lib.hid (HBX.out.trans (hb1.mono HBX.out.size))
     clear hb1
     go_wp2_with fail
     go_roundw
     case rel =>
      refine ⟨k + 1, by omega, by go_num, ?_, HB1.out⟩
      intro j hj
      by_cases e : j = k
      ·subst e; exact HZ.out
      ·exact HA.out j (by omega)
     case measure => simp [intOf]; omega
    ·have HR : Hid (slE l = slW (snth l k)) := Lib.hid (by
      have e : slsW l = slW (snth l k) := slsW_at HA.out (by rw [HN.out]; exact hlt) hz
      rw [HE.out, e, if_neg hz])
     obtain ⟨c, hcc⟩ : ∃ c, slW (snth l k) = c := ⟨_, rfl⟩
     have hcc' : slW ⟨(snth l k).num, (snth l k).per, (snth l k).run, (snth l k).gone, (snth l k).tot⟩ = c := hcc
     rw [hcc'] at HK
     rw [hcc] at HR hz
     have hz' : (c != 0) = true := by simp [hz]
     clear hcc hcc' hz
     go_wp2_with fail
     refine (HK.out _ (HP.out.below (Below.refl wr.heap.size wr))).mono ?_
     rintro e w1 ⟨rfl, hb1⟩
     have HB1 := Lib.hid (HBX.out.trans (hb1.mono HBX.out.size))
     clear hb1
     go_wp2_with fail
     go_ret
     exact ⟨kret_int HR.out.symm, HB1.out⟩
   ·have hkn : k = n := by omega
    subst hkn
    have HZ : Hid (slsW l = 0) := Lib.hid (slsW_ok (fun j hj => HA.out j (by rw [HN.out] at hj; exact hj)))
    rw [HZ.out, if_pos rfl] at HE
    clear HZ HA
    go_wp2_with fail
    generalize wr = wu at *
    go_loopw [5] (fun i wq => ∃ r : Nat, (r + 1 ≤ k ∨ r = 0) ∧ i = .int .i64 ((r : Int) + 1) ∧ Below w.heap.size w wq ∧ ∀ j, j < r → (snth l j).num < (snth l (j + 1)).num) (fun i _ => k - (intOf i).toNat)
    case atStart => exact ⟨0, .inr rfl, rfl, HB.out, fun j hj => by omega⟩
    case round =>
     clear HB
     obtain ⟨r, hrk, rfl, hb, hall⟩ := hrel
     have HA := Lib.hid hall
     have HB := Lib.hid hb
     clear hall hb
     by_cases hlt : r + 1 < k
     ·have hlt' : (r : Int) + 1 < (k : Int) := by omega
      have hlt0 : (r : Int) < (k : Int) := by omega
      obtain ⟨b, off, rfl, hcell⟩ := HO.out (by omega)
      have hx := hcell _ HB.out r (by omega)
      have hy := hcell _ HB.out (r + 1) (by omega)
      clear hcell
      obtain ⟨⟨x0, _⟩, _⟩ := hx; obtain ⟨⟨y0, _⟩, _⟩ := hy
      have hsub : (r : Int) + 1 - 1 = (r : Int) := by omega
      have htn : ((r : Int) + 1).toNat = r + 1 := by omega
      have HUN := Lib.hid (fun h => upS_not (l := l) (j := r) (by rw [HN.out]; exact hlt) h)
      obtain ⟨u, hu⟩ : ∃ u, (snth l r).num = u := ⟨_, rfl⟩
      obtain ⟨v, hv⟩ : ∃ v, (snth l (r + 1)).num = v := ⟨_, rfl⟩
      rw [hu] at x0 HUN
      rw [hv] at y0 HUN
      have HU := Lib.hid hu
      have HV := Lib.hid hv
      clear hu hv
      by_cases hd : u < v
      ·have hd1 : decide (v ≤ u) = false := decide_eq_false (by omega)
       have HD := Lib.hid hd
       go_wp2_with fail
       go_quiet (fail)
       go_wp2_with fail
       go_roundw
       case rel =>
        refine ⟨r + 1, .inl (by omega), by go_num, kbelow_dN HB.out _, ?_⟩
        intro j hj
        by_cases e : j = r
        ·subst e; rw [HU.out, HV.out]; exact HD.out
        ·exact HA.out j (by omega)
       case measure => simp [intOf]; omega
      ·have hd1 : v ≤ u := by omega
       have HT := Lib.hid (HUN.out hd1)
       rw [HT.out] at HE
       go_wp2_with fail
       go_quiet (fail)
       go_wp2_with fail
       go_ret
       exact ⟨kret_int HE.out.symm, kbelow_dN HB.out _⟩
     ·have hnl : ¬ ((r : Int) + 1 < (k : Int)) := by omega
      have HT : Hid (upS l = true) := upS_iff.2 (fun j hj => HA.out j (by rw [HN.out] at hj; omega))
      rw [HT.out] at HE
      go_wp2_with fail
      go_ret
      exact ⟨kret_int HE.out.symm, HB.out⟩
end Go.Proofs.YtkalfdjmklakdaaGreatDoor.Sq.Slp
