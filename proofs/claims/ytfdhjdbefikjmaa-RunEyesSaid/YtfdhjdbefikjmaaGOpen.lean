/-
  A run, and a list of actions, as they come in.
-/
import Derived.Test.YtfdhjdbefikjmaaGBase
import Derived.OpenShut
import Derived.Deep.Slices
import Derived.Lib.SmallJoins
namespace Go.Proofs.Ytfdhjdbefikjmaa
open Go.RowKit Go.ChangeShapes Go.WideShapes Go.ChangeAt

theorem gcells_int : Try.prog.cellsOf 3 = 1 := by kernel_rfl
theorem gcells_arr : Try.prog.cellsOf 22 = 7 := by kernel_rfl
theorem gcells_run : Try.prog.cellsOf 24 = 8 := by kernel_rfl
theorem gcells_act : Try.prog.cellsOf 30 = 2 := by kernel_rfl
theorem array8 {α : Type} {cs : Array α} (h : cs.size = 8) : ∃ c0 c1 c2 c3 c4 c5 c6 c7, cs = #[c0, c1, c2, c3, c4, c5, c6, c7] := by
  obtain ⟨l⟩ := cs
  match l, h with
  | [c0, c1, c2, c3, c4, c5, c6, c7], _ => exact ⟨c0, c1, c2, c3, c4, c5, c6, c7, rfl⟩
theorem open_run {H : Type} {enc : TypeId × Value → H} {W : World} {r : Reach} {b0 base : Nat} {spare : Nat → Bool} {held : Bool} {v : Value} {d : DataW H} {p : List MemPlace}
    (hv : Value.okWide Try.prog W r b0 24 v) (h : DataW.Trod enc Try.prog W base spare held 24 v d p) : ∃ R : Nat → Int, v = .agg #[.int .i64 (R 0), .int .i64 (R 1), .int .i64 (R 2), .int .i64 (R 3), .int .i64 (R 4), .int .i64 (R 5), .int .i64 (R 6), .int .i64 (R 7)] ∧ WfR R := by
  obtain ⟨cs, rfl, hsz⟩ := okWide_struct Try.underlying24 hv
  obtain ⟨c0, c1, c2, c3, c4, c5, c6, c7, rfl⟩ := array8 (hsz.trans gcells_run)
  obtain ⟨fuel, hf⟩ := h
  obtain ⟨y0, y1, n, _, _, h0, h1⟩ := trod_struct2 Try.underlying24 hf
  simp [Value.cells, gcells_int, gcells_arr] at h0 h1
  obtain ⟨n0, q0, _, w0⟩ := DataW.trod_int Try.underlying3 h0
  obtain ⟨xs, m, _, _, _, hxl, hall⟩ := DataW.trod_array Try.underlying22 h1
  rw [gcells_int] at hall
  match xs, hxl with
  | [z0, z1, z2, z3, z4, z5, z6], _ =>
    have g0 := hall 0 (by omega)
    have g1 := hall 1 (by omega)
    have g2 := hall 2 (by omega)
    have g3 := hall 3 (by omega)
    have g4 := hall 4 (by omega)
    have g5 := hall 5 (by omega)
    have g6 := hall 6 (by omega)
    simp at g0 g1 g2 g3 g4 g5 g6
    obtain ⟨n1, q1, _, w1⟩ := DataW.trod_int Try.underlying3 g0
    obtain ⟨n2, q2, _, w2⟩ := DataW.trod_int Try.underlying3 g1
    obtain ⟨n3, q3, _, w3⟩ := DataW.trod_int Try.underlying3 g2
    obtain ⟨n4, q4, _, w4⟩ := DataW.trod_int Try.underlying3 g3
    obtain ⟨n5, q5, _, w5⟩ := DataW.trod_int Try.underlying3 g4
    obtain ⟨n6, q6, _, w6⟩ := DataW.trod_int Try.underlying3 g5
    obtain ⟨n7, q7, _, w7⟩ := DataW.trod_int Try.underlying3 g6
    simp at q0 q1 q2 q3 q4 q5 q6 q7
    subst q0 q1 q2 q3 q4 q5 q6 q7
    refine ⟨fun j => nth [n0, n1, n2, n3, n4, n5, n6, n7] j, rfl, fun j hj => ?_⟩
    match j, hj with
    | 0, _ => exact w0
    | 1, _ => exact w1
    | 2, _ => exact w2
    | 3, _ => exact w3
    | 4, _ => exact w4
    | 5, _ => exact w5
    | 6, _ => exact w6
    | 7, _ => exact w7
/-- An action: what, and by whom. -/
structure Ac where
  act : Int
  who : Int
def acnth (l : List Ac) (j : Nat) : Ac := l.getD j ⟨0, 0⟩
def WfA (x : Ac) : Prop := (Lit.int .i64 x.act).wf = true ∧ (Lit.int .i64 x.who).wf = true
/-- A list of actions that came in. -/
def CameAc (w : World) (a : Option Addr) (l : List Ac) : Prop := l.length = 0 ∨ ∃ b off, a = some ⟨b, off, none⟩ ∧ b < w.heap.size ∧ ∀ j, j < l.length → w.cell? ⟨b, off + j * 2, none⟩ = some (.int .i64 (acnth l j).act) ∧ w.cell? ⟨b, off + j * 2 + 1, none⟩ = some (.int .i64 (acnth l j).who)
theorem CameAc.below {w w' : World} {a : Option Addr} {l : List Ac} (h : CameAc w a l) (hb : Below w.heap.size w w') : CameAc w' a l := by
  rcases h with h | ⟨b, off, rfl, hlt, h⟩
  · exact .inl h
  · exact .inr ⟨b, off, rfl, Nat.lt_of_lt_of_le hlt hb.size, fun j hj => ⟨(hb.cell (p := ⟨b, off + j * 2, none⟩) hlt).trans (h j hj).1, (hb.cell (p := ⟨b, off + j * 2 + 1, none⟩) hlt).trans (h j hj).2⟩⟩
theorem CameAc.open {w : World} {a : Option Addr} {l : List Ac} (h : CameAc w a l) {n : Nat} (hn : l.length = n) (h0 : 0 < n) : ∃ b off, a = some ⟨b, off, none⟩ ∧ b < w.heap.size ∧ ∀ w', Below w.heap.size w w' → ∀ j, j < n → w'.cell? ⟨b, off + j * 2, none⟩ = some (.int .i64 (acnth l j).act) ∧ w'.cell? ⟨b, off + j * 2 + 1, none⟩ = some (.int .i64 (acnth l j).who) := by
  rcases h with h | ⟨b, off, rfl, hlt, h⟩
  · omega
  · exact ⟨b, off, rfl, hlt, fun w' hb j hj => ⟨(hb.cell (p := ⟨b, off + j * 2, none⟩) hlt).trans (h j (by omega)).1, (hb.cell (p := ⟨b, off + j * 2 + 1, none⟩) hlt).trans (h j (by omega)).2⟩⟩
theorem glt_of_cell {W : World} {p : Addr} {v : Value} (h : W.cell? p = some v) : p.block < W.heap.size := by
  by_cases hb : p.block < W.heap.size
  · exact hb
  · have : W.heap[p.block]? = none := Array.getElem?_eq_none (by omega)
    simp [World.cell?, this] at h
theorem open_acts {H : Type} {enc : TypeId × Value → H} {W : World} {fuel : Nat} {v : Value} {x : DataW H × List MemPlace}
    (h : DataW.trod enc Try.prog W 0 (fun _ => true) true fuel 40 [v] = some x) :
    ∃ (a : Option Addr) (len cap : Nat) (l : List Ac), v = .slice a len cap ∧ CameAc W a l ∧ l.length = len ∧ len ≤ maxLen ∧ ∀ j, j < len → WfA (acnth l j) := by
  rcases Deep.open_slice Try.underlying40 h with ⟨hcs, _⟩ | ⟨a', len, cap, m, n, D, Pl, hcs, hb, hl, hm, hmm, _, hx⟩
  · simp at hcs
    exact ⟨none, 0, 0, [], hcs, .inl rfl, rfl, Nat.zero_le _, fun j hj => by omega⟩
  simp at hcs
  subst hcs
  have hmc : m = cap := by rw [hmm]; simp
  subst hmc
  have each : ∀ i, i < m → ∃ r : Ac, W.cell? (a'.add (i * 2)) = some (.int .i64 r.act) ∧ W.cell? (a'.add (i * 2 + 1)) = some (.int .i64 r.who) ∧ WfA r := by
    intro i hi
    obtain ⟨cs', h1, h2⟩ := hx i hi
    rw [gcells_act] at h1
    obtain ⟨_, hlen, hcell⟩ := World.cells?_some h1
    obtain ⟨xs, k, hk, hxy, _, hxl, hf⟩ := DataW.trod_struct Try.underlying30 h2
    match xs, hxl, cs', hlen with
    | [y0, y1], _, [v0, v1], _ =>
      have g0 := hf 0 _ rfl
      have g1 := hf 1 _ rfl
      simp [gcells_int] at g0 g1
      obtain ⟨n0, q0, _, w0⟩ := DataW.trod_int Try.underlying3 g0
      obtain ⟨n1, q1, _, w1⟩ := DataW.trod_int Try.underlying3 g1
      simp at q0 q1
      subst q0 q1
      have e0 := hcell 0 (by omega)
      have e1 := hcell 1 (by omega)
      rw [Deep.add_add] at e0 e1
      exact ⟨⟨n0, n1⟩, by simpa using e0, by simpa using e1, w0, w1⟩
  haveI : Inhabited Ac := ⟨⟨0, 0⟩⟩
  obtain ⟨q, hq⟩ := Deep.choose_lt each
  have hnth : ∀ j, j < len → acnth ((List.range len).map q) j = q j := by
    intro j hj
    simp [acnth, List.getD_eq_getElem?_getD, hj]
  refine ⟨some a', len, m, (List.range len).map q, rfl, ?_, by simp, by omega, fun j hj => by rw [hnth j hj]; exact (hq j (by omega)).2.2⟩
  by_cases h0 : len = 0
  · exact .inl (by simp [h0])
  · obtain ⟨b, off, spot⟩ := a'
    have hc := (hq 0 (by omega)).1
    have hspot : spot = none := by simpa [Addr.add] using World.cell?_spot hc
    subst hspot
    refine .inr ⟨b, off, rfl, glt_of_cell hc, fun j hj => ?_⟩
    have hj' : j < len := by simpa using hj
    have := hq j (by omega)
    simp only [Addr.add_lit] at this
    rw [hnth j hj']
    exact ⟨this.1, by simpa [Nat.add_assoc] using this.2.1⟩
end Go.Proofs.Ytfdhjdbefikjmaa
