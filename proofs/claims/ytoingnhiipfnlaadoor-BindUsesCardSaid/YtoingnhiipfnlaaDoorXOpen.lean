/-
  Expressions and lines that come in, opened.
-/
import Derived.Test.YtoingnhiipfnlaaDoorXTree
namespace Go.Proofs.YtoingnhiipfnlaaDoor
open Go.RowKit

theorem xcells_ex : Tryd.prog.cellsOf 50 = 4 := by kernel_rfl
theorem xcells_ln : Tryd.prog.cellsOf 52 = 6 := by kernel_rfl
theorem xcells_str : Tryd.prog.cellsOf 9 = 1 := by kernel_rfl
theorem xcells_kids : Tryd.prog.cellsOf 48 = 1 := by kernel_rfl
/-- Kids that lie from an address on. -/
def KidRow (W : World) (a : Option Addr) (len : Nat) (kid : Nat → Ex) : Prop := len ≤ maxLen ∧ (len = 0 ∨ ∃ b off, a = some ⟨b, off, none⟩ ∧ b < W.heap.size ∧ ∀ j, j < len → ∃ (aj : Option Addr) (cj : Nat), XCells W b (off + j * 4) (kid j) aj cj ∧ KidsAt W (kid j) aj)
set_option maxRecDepth 100000 in
theorem open_ex_of {H : Type} {enc : TypeId × Value → H} {W : World} {fuel : Nat} {cs : List Value} {x : DataW H × List MemPlace}
    (ih : ∀ k, k < fuel → ∀ {v : Value} {x : DataW H × List MemPlace}, DataW.trod enc Tryd.prog W 0 (fun _ => true) true k 48 [v] = some x → ∃ (a : Option Addr) (len cap : Nat) (kid : Nat → Ex), v = .slice a len cap ∧ KidRow W a len kid)
    (hlen : cs.length = 4) (h : DataW.trod enc Tryd.prog W 0 (fun _ => true) true fuel 50 cs = some x) :
    ∃ (y : Ex) (a : Option Addr) (c : Nat), cs = [.int .i64 y.k, .int .i64 y.n, .string y.s, .slice a y.m c] ∧ KidsAt W y a := by
  obtain ⟨xs, k, hk, hxy, _, hxl, hf⟩ := DataW.trod_struct Tryd.underlying50 h
  match xs, hxl, cs, hlen with
  | [y0, y1, y2, y3], _, [v0, v1, v2, v3], _ =>
    have g0 := hf 0 _ rfl
    have g1 := hf 1 _ rfl
    have g2 := hf 2 _ rfl
    have g3 := hf 3 _ rfl
    simp [kcells_int, xcells_str, xcells_kids] at g0 g1 g2 g3
    obtain ⟨n0, q0, _, _⟩ := DataW.trod_int Tryd.underlying3 g0
    obtain ⟨n1, q1, _, _⟩ := DataW.trod_int Tryd.underlying3 g1
    obtain ⟨s2, q2, _, hs⟩ := DataW.trod_string Tryd.underlying9 g2
    obtain ⟨a, len, cap, kid, rfl, hrow⟩ := ih k (by omega) g3
    simp at q0 q1 q2
    subst q0 q1 q2
    exact ⟨.mk n0 n1 s2 len kid, a, cap, rfl, hs, hrow.1, hrow.2⟩
set_option maxRecDepth 100000 in
theorem open_kids {H : Type} {enc : TypeId × Value → H} {W : World} : ∀ (fuel : Nat) {v : Value} {x : DataW H × List MemPlace}, DataW.trod enc Tryd.prog W 0 (fun _ => true) true fuel 48 [v] = some x → ∃ (a : Option Addr) (len cap : Nat) (kid : Nat → Ex), v = .slice a len cap ∧ KidRow W a len kid := by
  intro fuel
  induction fuel using Nat.strongRecOn with
  | _ fuel ih =>
    intro v x h
    rcases DataW.trod_slice Tryd.underlying48 h with ⟨hcs, _⟩ | ⟨a', len, cap, elems, rest, n, hfu, hcs, _, hb, hl, hm, hlen, hel, _, _⟩
    · simp at hcs
      exact ⟨none, 0, 0, fun _ => .no, hcs, Nat.zero_le _, .inl rfl⟩
    simp at hcs
    subst hcs
    have each : ∀ i, i < len → ∃ y : Ex, ∃ (aj : Option Addr) (cj : Nat), (W.cell? (a'.add (i * 4)) = some (.int .i64 y.k) ∧ W.cell? (a'.add (i * 4 + 1)) = some (.int .i64 y.n) ∧ W.cell? (a'.add (i * 4 + 2)) = some (.string y.s) ∧ W.cell? (a'.add (i * 4 + 3)) = some (.slice aj y.m cj)) ∧ KidsAt W y aj := by
      intro i hi
      have h1 := hel i hi
      rw [xcells_ex, List.getElem?_eq_getElem (by omega)] at h1
      cases hc : W.cells? 0 (a'.add (i * 4)) 4 with
      | none => rw [hc] at h1; simp at h1
      | some cs' =>
        rw [hc] at h1
        simp only [Option.bind_some] at h1
        obtain ⟨_, hcl, hcell⟩ := World.cells?_some hc
        obtain ⟨y, a, c, hcs, hk⟩ := open_ex_of (fuel := n) (fun k hk => ih k (by omega)) hcl h1
        subst hcs
        have e0 := hcell 0 (by omega)
        have e1 := hcell 1 (by omega)
        have e2 := hcell 2 (by omega)
        have e3 := hcell 3 (by omega)
        rw [Deep.add_add] at e0 e1 e2 e3
        exact ⟨y, a, c, ⟨by simpa using e0, by simpa using e1, by simpa using e2, by simpa using e3⟩, hk⟩
    haveI : Inhabited Ex := ⟨.no⟩
    obtain ⟨q, hq⟩ := Deep.choose_lt each
    refine ⟨some a', len, cap, q, rfl, by omega, ?_⟩
    by_cases h0 : len = 0
    · exact .inl h0
    · obtain ⟨b, off, spot⟩ := a'
      obtain ⟨_, _, ⟨hc, _⟩, _⟩ := hq 0 (by omega)
      have hspot : spot = none := by simpa [Addr.add] using World.cell?_spot hc
      subst hspot
      refine .inr ⟨b, off, rfl, blt_of_cell hc, fun j hj => ?_⟩
      obtain ⟨aj, cj, h1, h2⟩ := hq j hj
      simp only [Addr.add_lit] at h1
      exact ⟨aj, cj, by simpa [XCells, Nat.add_assoc] using h1, h2⟩
theorem open_ex {H : Type} {enc : TypeId × Value → H} {W : World} {fuel : Nat} {cs : List Value} {x : DataW H × List MemPlace} (hlen : cs.length = 4) (h : DataW.trod enc Tryd.prog W 0 (fun _ => true) true fuel 50 cs = some x) :
    ∃ (y : Ex) (a : Option Addr) (c : Nat), cs = [.int .i64 y.k, .int .i64 y.n, .string y.s, .slice a y.m c] ∧ KidsAt W y a := open_ex_of (fun k _ => open_kids k) hlen h
/-- The cells of a line. -/
def LnIs (w : World) (b o : Nat) (r : Ln) (a : Option Addr) (c : Nat) : Prop := w.cell? ⟨b, o, none⟩ = some (.int .i64 r.kind) ∧ w.cell? ⟨b, o + 1, none⟩ = some (.string r.name) ∧ w.cell? ⟨b, o + 2, none⟩ = some (.int .i64 r.ex.k) ∧ w.cell? ⟨b, o + 3, none⟩ = some (.int .i64 r.ex.n) ∧ w.cell? ⟨b, o + 4, none⟩ = some (.string r.ex.s) ∧ w.cell? ⟨b, o + 5, none⟩ = some (.slice a r.ex.m c)
theorem LnIs.below {B : Nat} {w w' : World} {b o : Nat} {r : Ln} {a : Option Addr} {c : Nat} (h : LnIs w b o r a c) (hb : Below B w w') (hB : b < B) : LnIs w' b o r a c :=
  ⟨(hb.cell (p := ⟨b, o, none⟩) hB).trans h.1, (hb.cell (p := ⟨b, o + 1, none⟩) hB).trans h.2.1, (hb.cell (p := ⟨b, o + 2, none⟩) hB).trans h.2.2.1, (hb.cell (p := ⟨b, o + 3, none⟩) hB).trans h.2.2.2.1, (hb.cell (p := ⟨b, o + 4, none⟩) hB).trans h.2.2.2.2.1, (hb.cell (p := ⟨b, o + 5, none⟩) hB).trans h.2.2.2.2.2⟩
/-- A line, whole: its cells, and what hangs on them. -/
def LnAt (w : World) (b o : Nat) (r : Ln) : Prop := ∃ (a : Option Addr) (c : Nat), LnIs w b o r a c ∧ r.name.size ≤ maxLen ∧ KidsAt w r.ex a
theorem LnAt.below {w w' : World} {b o : Nat} {r : Ln} (h : LnAt w b o r) (hb : Below w.heap.size w w') (hB : b < w.heap.size) : LnAt w' b o r := by
  obtain ⟨a, c, h1, h2, h3⟩ := h
  exact ⟨a, c, h1.below hb hB, h2, h3.below hb⟩
/-- A slice of lines that came in. -/
def CameL (w : World) (a : Option Addr) (l : List Ln) : Prop := l.length = 0 ∨ ∃ b off, a = some ⟨b, off, none⟩ ∧ b < w.heap.size ∧ ∀ j, j < l.length → LnAt w b (off + j * 6) (lnth l j)
theorem CameL.below {w w' : World} {a : Option Addr} {l : List Ln} (h : CameL w a l) (hb : Below w.heap.size w w') : CameL w' a l := by
  rcases h with h | ⟨b, off, rfl, hB, h⟩
  · exact .inl h
  · exact .inr ⟨b, off, rfl, Nat.lt_of_lt_of_le hB hb.size, fun j hj => (h j hj).below hb hB⟩
theorem CameL.open {w : World} {a : Option Addr} {l : List Ln} (h : CameL w a l) {n : Nat} (hn : l.length = n) (h0 : 0 < n) : ∃ b off, a = some ⟨b, off, none⟩ ∧ ∀ w', Below w.heap.size w w' → ∀ k, k < n → LnAt w' b (off + k * 6) (lnth l k) := by
  rcases h with h | ⟨b, off, rfl, hB, h⟩
  · omega
  · exact ⟨b, off, rfl, fun w' hb k hk => (h k (by omega)).below hb hB⟩
set_option maxRecDepth 100000 in
theorem open_lines {H : Type} {enc : TypeId × Value → H} {W : World} {fuel : Nat} {v : Value} {x : DataW H × List MemPlace}
    (h : DataW.trod enc Tryd.prog W 0 (fun _ => true) true fuel 30 [v] = some x) :
    ∃ (a : Option Addr) (len cap : Nat) (l : List Ln), v = .slice a len cap ∧ CameL W a l ∧ l.length = len ∧ len ≤ maxLen := by
  rcases Deep.open_slice Tryd.underlying30 h with ⟨hcs, _⟩ | ⟨a', len, cap, m, n, D, Pl, hcs, hb, hl, hm, hmm, _, hx⟩
  · simp at hcs
    exact ⟨none, 0, 0, [], hcs, .inl rfl, rfl, Nat.zero_le _⟩
  simp at hcs
  subst hcs
  have hmc : m = cap := by rw [hmm]; simp
  subst hmc
  have each : ∀ i, i < m → ∃ r : Ln, ∃ (a : Option Addr) (c : Nat), (W.cell? (a'.add (i * 6)) = some (.int .i64 r.kind) ∧ W.cell? (a'.add (i * 6 + 1)) = some (.string r.name) ∧ W.cell? (a'.add (i * 6 + 2)) = some (.int .i64 r.ex.k) ∧ W.cell? (a'.add (i * 6 + 3)) = some (.int .i64 r.ex.n) ∧ W.cell? (a'.add (i * 6 + 4)) = some (.string r.ex.s) ∧ W.cell? (a'.add (i * 6 + 5)) = some (.slice a r.ex.m c)) ∧ r.name.size ≤ maxLen ∧ KidsAt W r.ex a := by
    intro i hi
    obtain ⟨cs', h1, h2⟩ := hx i hi
    rw [xcells_ln] at h1
    obtain ⟨_, hlen, hcell⟩ := World.cells?_some h1
    obtain ⟨xs, k, hk, hxy, _, hxl, hf⟩ := DataW.trod_struct Tryd.underlying52 h2
    match xs, hxl, cs', hlen with
    | [y0, y1, y2], _, [v0, v1, v2, v3, v4, v5], _ =>
      have g0 := hf 0 _ rfl
      have g1 := hf 1 _ rfl
      have g2 := hf 2 _ rfl
      simp [kcells_int, xcells_str, xcells_ex] at g0 g1 g2
      obtain ⟨n0, q0, _, w0⟩ := DataW.trod_int Tryd.underlying3 g0
      obtain ⟨s1, q1, _, hs⟩ := DataW.trod_string Tryd.underlying9 g1
      obtain ⟨y, a, c, q2, hk⟩ := open_ex (by rfl) g2
      simp at q0 q1 q2
      obtain ⟨rfl, rfl, rfl, rfl⟩ := q2
      subst q0 q1
      have e0 := hcell 0 (by omega)
      have e1 := hcell 1 (by omega)
      have e2 := hcell 2 (by omega)
      have e3 := hcell 3 (by omega)
      have e4 := hcell 4 (by omega)
      have e5 := hcell 5 (by omega)
      rw [Deep.add_add] at e0 e1 e2 e3 e4 e5
      exact ⟨⟨n0, s1, y⟩, a, c, ⟨by simpa using e0, by simpa using e1, by simpa using e2, by simpa using e3, by simpa using e4, by simpa using e5⟩, hs, hk⟩
  haveI : Inhabited Ln := ⟨⟨0, ⟨#[]⟩, .no⟩⟩
  obtain ⟨q, hq⟩ := Deep.choose_lt each
  have hnth : ∀ j, j < len → lnth ((List.range len).map q) j = q j := by
    intro j hj
    simp [lnth, List.getD_eq_getElem?_getD, hj]
  refine ⟨some a', len, m, (List.range len).map q, rfl, ?_, by simp, by omega⟩
  by_cases h0 : len = 0
  · exact .inl (by simp [h0])
  · obtain ⟨b, off, spot⟩ := a'
    obtain ⟨_, _, ⟨hc, _⟩, _⟩ := hq 0 (by omega)
    have hspot : spot = none := by simpa [Addr.add] using World.cell?_spot hc
    subst hspot
    refine .inr ⟨b, off, rfl, blt_of_cell hc, fun j hj => ?_⟩
    have hj' : j < len := by simpa using hj
    obtain ⟨aj, cj, h1, h2, h3⟩ := hq j (by omega)
    simp only [Addr.add_lit] at h1
    rw [hnth j hj']
    exact ⟨aj, cj, by simpa [LnIs, Nat.add_assoc] using h1, h2, h3⟩
end Go.Proofs.YtoingnhiipfnlaaDoor
