/-
  Tables in a list, and amounts: how they lie in memory, opened; what is known.
-/
import Derived.Test.YtoingnhiipfnlaaDoorNAmt
import Derived.Test.YtoingnhiipfnlaaDoorKTblR
namespace Go.Proofs.YtoingnhiipfnlaaDoor
open Go.RowKit

/-- A table. -/
structure Tb where
  name : ByteArray
  bks : List Bk
def tnth (l : List Tb) (j : Nat) : Tb := l.getD j ⟨⟨#[]⟩, []⟩
/-- A table's two cells, and its brackets. -/
def TbIs (w : World) (b o : Nat) (r : Tb) : Prop := ∃ (a : Option Addr) (c : Nat), w.cell? ⟨b, o, none⟩ = some (.string r.name) ∧ w.cell? ⟨b, o + 1, none⟩ = some (.slice a r.bks.length c) ∧ CameB w a r.bks ∧ r.name.size ≤ maxLen ∧ r.bks.length ≤ maxLen
theorem TbIs.below {w w' : World} {b o : Nat} {r : Tb} (h : TbIs w b o r) (hb : Below w.heap.size w w') (hB : b < w.heap.size) : TbIs w' b o r := by
  obtain ⟨a, c, h1, h2, h3, h4, h5⟩ := h
  exact ⟨a, c, (hb.cell (p := ⟨b, o, none⟩) hB).trans h1, (hb.cell (p := ⟨b, o + 1, none⟩) hB).trans h2, h3.below hb, h4, h5⟩
/-- A slice of tables that came in. -/
def CameT (w : World) (a : Option Addr) (l : List Tb) : Prop := l.length = 0 ∨ ∃ b off, a = some ⟨b, off, none⟩ ∧ b < w.heap.size ∧ ∀ j, j < l.length → TbIs w b (off + j * 2) (tnth l j)
theorem CameT.below {w w' : World} {a : Option Addr} {l : List Tb} (h : CameT w a l) (hb : Below w.heap.size w w') : CameT w' a l := by
  rcases h with h | ⟨b, off, rfl, hB, h⟩
  · exact .inl h
  · exact .inr ⟨b, off, rfl, Nat.lt_of_lt_of_le hB hb.size, fun j hj => (h j hj).below hb hB⟩
theorem CameT.open {w : World} {a : Option Addr} {l : List Tb} (h : CameT w a l) {n : Nat} (hn : l.length = n) (h0 : 0 < n) : ∃ b off, a = some ⟨b, off, none⟩ ∧ ∀ w', Below w.heap.size w w' → ∀ k, k < n → TbIs w' b (off + k * 2) (tnth l k) := by
  rcases h with h | ⟨b, off, rfl, hB, h⟩
  · omega
  · exact ⟨b, off, rfl, fun w' hb k hk => (h k (by omega)).below hb hB⟩
theorem kcells_tb : Tryd.prog.cellsOf 59 = 2 := by kernel_rfl
theorem kcells_am : Tryd.prog.cellsOf 104 = 2 := by kernel_rfl
theorem kcells_st : Tryd.prog.cellsOf 9 = 1 := by kernel_rfl
theorem kcells_bs : Tryd.prog.cellsOf 57 = 1 := by kernel_rfl
set_option maxRecDepth 100000 in
theorem open_tbs {H : Type} {enc : TypeId × Value → H} {W : World} {fuel : Nat} {v : Value} {x : DataW H × List MemPlace}
    (h : DataW.trod enc Tryd.prog W 0 (fun _ => true) true fuel 23 [v] = some x) :
    ∃ (a : Option Addr) (len cap : Nat) (l : List Tb), v = .slice a len cap ∧ CameT W a l ∧ l.length = len ∧ len ≤ maxLen := by
  rcases Deep.open_slice Tryd.underlying23 h with ⟨hcs, _⟩ | ⟨a', len, cap, m, n, D, Pl, hcs, hb, hl, hm, hmm, _, hx⟩
  · simp at hcs
    exact ⟨none, 0, 0, [], hcs, .inl rfl, rfl, Nat.zero_le _⟩
  simp at hcs
  subst hcs
  have hmc : m = cap := by rw [hmm]; simp
  subst hmc
  have each : ∀ i, i < m → ∃ r : Tb, ∃ (a : Option Addr) (c : Nat), W.cell? (a'.add (i * 2)) = some (.string r.name) ∧ W.cell? (a'.add (i * 2 + 1)) = some (.slice a r.bks.length c) ∧ CameB W a r.bks ∧ r.name.size ≤ maxLen ∧ r.bks.length ≤ maxLen := by
    intro i hi
    obtain ⟨cs', h1, h2⟩ := hx i hi
    rw [kcells_tb] at h1
    obtain ⟨_, hlen, hcell⟩ := World.cells?_some h1
    obtain ⟨xs, k, hk, hxy, _, hxl, hf⟩ := DataW.trod_struct Tryd.underlying59 h2
    match xs, hxl, cs', hlen with
    | [y0, y1], _, [v0, v1], _ =>
      have g0 := hf 0 _ rfl
      have g1 := hf 1 _ rfl
      simp [kcells_st, kcells_bs] at g0 g1
      obtain ⟨s0, q0, _, hs⟩ := DataW.trod_string Tryd.underlying9 g0
      obtain ⟨a, ln, c, l, rfl, hc, hn, hm⟩ := open_bks g1
      simp at q0
      subst q0
      subst hn
      have e0 := hcell 0 (by omega)
      have e1 := hcell 1 (by omega)
      rw [Deep.add_add] at e0 e1
      exact ⟨⟨s0, l⟩, a, c, by simpa using e0, by simpa using e1, hc, hs, hm⟩
  haveI : Inhabited Tb := ⟨⟨⟨#[]⟩, []⟩⟩
  obtain ⟨q, hq⟩ := Deep.choose_lt each
  have hnth : ∀ j, j < len → tnth ((List.range len).map q) j = q j := by
    intro j hj
    simp [tnth, List.getD_eq_getElem?_getD, hj]
  refine ⟨some a', len, m, (List.range len).map q, rfl, ?_, by simp, by omega⟩
  by_cases h0 : len = 0
  · exact .inl (by simp [h0])
  · obtain ⟨b, off, spot⟩ := a'
    obtain ⟨_, _, hc, _⟩ := hq 0 (by omega)
    have hspot : spot = none := by simpa [Addr.add] using World.cell?_spot hc
    subst hspot
    refine .inr ⟨b, off, rfl, blt_of_cell hc, fun j hj => ?_⟩
    have hj' : j < len := by simpa using hj
    obtain ⟨aj, cj, h1, h2, h3⟩ := hq j (by omega)
    simp only [Addr.add_lit] at h1 h2
    rw [hnth j hj']
    exact ⟨aj, cj, by simpa [Nat.add_assoc] using h1, by simpa [Nat.add_assoc] using h2, h3⟩
/-- Amounts that come in have names that are no longer than texts can be. -/
def NamesFit (l : List Am) : Prop := ∀ j, j < l.length → (anth l j).name.size ≤ maxLen
set_option maxRecDepth 100000 in
theorem open_ams {H : Type} {enc : TypeId × Value → H} {W : World} {fuel : Nat} {v : Value} {x : DataW H × List MemPlace}
    (h : DataW.trod enc Tryd.prog W 0 (fun _ => true) true fuel 22 [v] = some x) :
    ∃ (a : Option Addr) (len cap : Nat) (l : List Am), v = .slice a len cap ∧ CameA W a l ∧ NamesFit l ∧ l.length = len ∧ len ≤ maxLen := by
  rcases Deep.open_slice Tryd.underlying22 h with ⟨hcs, _⟩ | ⟨a', len, cap, m, n, D, Pl, hcs, hb, hl, hm, hmm, _, hx⟩
  · simp at hcs
    exact ⟨none, 0, 0, [], hcs, .inl rfl, fun j hj => by simp at hj, rfl, Nat.zero_le _⟩
  simp at hcs
  subst hcs
  have hmc : m = cap := by rw [hmm]; simp
  subst hmc
  have each : ∀ i, i < m → ∃ r : Am, W.cell? (a'.add (i * 2)) = some (.string r.name) ∧ W.cell? (a'.add (i * 2 + 1)) = some (.int .i64 r.mon) ∧ r.name.size ≤ maxLen := by
    intro i hi
    obtain ⟨cs', h1, h2⟩ := hx i hi
    rw [kcells_am] at h1
    obtain ⟨_, hlen, hcell⟩ := World.cells?_some h1
    obtain ⟨xs, k, hk, hxy, _, hxl, hf⟩ := DataW.trod_struct Tryd.underlying104 h2
    match xs, hxl, cs', hlen with
    | [y0, y1], _, [v0, v1], _ =>
      have g0 := hf 0 _ rfl
      have g1 := hf 1 _ rfl
      simp [kcells_st, kcells_int] at g0 g1
      obtain ⟨s0, q0, _, hs⟩ := DataW.trod_string Tryd.underlying9 g0
      obtain ⟨n1, q1, _, _⟩ := DataW.trod_int Tryd.underlying3 g1
      simp at q0 q1
      subst q0 q1
      have e0 := hcell 0 (by omega)
      have e1 := hcell 1 (by omega)
      rw [Deep.add_add] at e0 e1
      exact ⟨⟨s0, n1⟩, by simpa using e0, by simpa using e1, hs⟩
  haveI : Inhabited Am := ⟨⟨⟨#[]⟩, 0⟩⟩
  obtain ⟨q, hq⟩ := Deep.choose_lt each
  have hnth : ∀ j, j < len → anth ((List.range len).map q) j = q j := by
    intro j hj
    simp [anth, List.getD_eq_getElem?_getD, hj]
  refine ⟨some a', len, m, (List.range len).map q, rfl, ?_, ?_, by simp, by omega⟩
  · by_cases h0 : len = 0
    · exact .inl (by simp [h0])
    · obtain ⟨b, off, spot⟩ := a'
      have hc := (hq 0 (by omega)).1
      have hspot : spot = none := by simpa [Addr.add] using World.cell?_spot hc
      subst hspot
      refine .inr ⟨b, off, rfl, blt_of_cell hc, fun j hj => ?_⟩
      have hj' : j < len := by simpa using hj
      obtain ⟨h1, h2, _⟩ := hq j (by omega)
      simp only [Addr.add_lit] at h1 h2
      rw [hnth j hj']
      exact ⟨by simpa [Nat.add_assoc] using h1, by simpa [Nat.add_assoc] using h2⟩
  · intro j hj
    have hj' : j < len := by simpa using hj
    rw [hnth j hj']
    exact (hq j (by omega)).2.2
end Go.Proofs.YtoingnhiipfnlaaDoor
