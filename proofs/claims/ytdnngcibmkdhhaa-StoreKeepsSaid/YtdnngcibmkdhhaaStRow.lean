/-
  Promise S1: what happens to a store: how a list of it that came in is opened.
-/
import Derived.Test.YtdnngcibmkdhhaaStPu
import Derived.Lib.Hide
import Derived.Deep.Slices
import Derived.ChangeSame
namespace Go.Proofs.Ytdnngcibmkdhhaa
open Go.RowKit

/-- What happens: a text is saved; or the power is there again, and goes behind so many writes. -/
structure Kt where
  txt : ByteArray
  cut : Bool
  pow : Int
def ktnth (l : List Kt) (j : Nat) : Kt := l.getD j ⟨⟨#[]⟩, false, 0⟩
def KtIs (w : World) (b o : Nat) (r : Kt) : Prop := w.cell? ⟨b, o, none⟩ = some (.string r.txt) ∧ w.cell? ⟨b, o + 1, none⟩ = some (.bool r.cut) ∧ w.cell? ⟨b, o + 2, none⟩ = some (.int .i64 r.pow)
theorem KtIs.below {B : Nat} {w w' : World} {b o : Nat} {r : Kt} (h : KtIs w b o r) (hb : Below B w w') (hB : b < B) : KtIs w' b o r :=
  ⟨(hb.cell (p := ⟨b, o, none⟩) hB).trans h.1, (hb.cell (p := ⟨b, o + 1, none⟩) hB).trans h.2.1, (hb.cell (p := ⟨b, o + 2, none⟩) hB).trans h.2.2⟩
def KtWf (r : Kt) : Prop := r.txt.size ≤ maxLen ∧ (Lit.int .i64 r.pow).wf = true
/-- A slice of them. -/
def CameKt (w : World) (a : Option Addr) (l : List Kt) : Prop := l.length = 0 ∨ ∃ b off, a = some ⟨b, off, none⟩ ∧ b < w.heap.size ∧ ∀ j, j < l.length → KtIs w b (off + j * 3) (ktnth l j)
theorem CameKt.open {w : World} {a : Option Addr} {l : List Kt} (h : CameKt w a l) (h0 : 0 < l.length) : ∃ b off, a = some ⟨b, off, none⟩ ∧ b < w.heap.size ∧ ∀ w', Below w.heap.size w w' → ∀ k, k < l.length → KtIs w' b (off + k * 3) (ktnth l k) := by
  rcases h with h | ⟨b, off, rfl, hl, h⟩
  · omega
  · exact ⟨b, off, rfl, hl, fun w' hb k hk => KtIs.below (h k hk) hb hl⟩
theorem ktcells_kt : Try.prog.cellsOf 32 = 3 := by kernel_rfl
theorem ktcells_int : Try.prog.cellsOf 3 = 1 := by kernel_rfl
theorem ktcells_str : Try.prog.cellsOf 9 = 1 := by kernel_rfl
theorem ktcells_bool : Try.prog.cellsOf 4 = 1 := by kernel_rfl
set_option maxRecDepth 100000 in
theorem open_kts {H : Type} {enc : TypeId × Value → H} {W : World} {fuel : Nat} {v : Value} {x : DataW H × List MemPlace}
    (h : DataW.trod enc Try.prog W 0 (fun _ => true) true fuel 22 [v] = some x) :
    ∃ (a : Option Addr) (len cap : Nat) (l : List Kt), v = .slice a len cap ∧ CameKt W a l ∧ l.length = len ∧ len ≤ maxLen ∧ ∀ j, j < len → KtWf (ktnth l j) := by
  rcases Deep.open_slice Try.underlying22 h with ⟨hcs, _⟩ | ⟨a', len, cap, m, n, D, Pl, hcs, hb, hl, hm, hmm, _, hx⟩
  · simp at hcs
    exact ⟨none, 0, 0, [], hcs, .inl rfl, rfl, Nat.zero_le _, fun j hj => by simp at hj⟩
  simp at hcs
  subst hcs
  have hmc : m = cap := by rw [hmm]; simp
  subst hmc
  have each : ∀ i, i < m → ∃ r : Kt, W.cell? (a'.add (i * 3)) = some (.string r.txt) ∧ W.cell? (a'.add (i * 3 + 1)) = some (.bool r.cut) ∧ W.cell? (a'.add (i * 3 + 2)) = some (.int .i64 r.pow) ∧ KtWf r := by
    intro i hi
    obtain ⟨cs', h1, h2⟩ := hx i hi
    rw [ktcells_kt] at h1
    obtain ⟨_, hlen, hcell⟩ := World.cells?_some h1
    obtain ⟨xs, k, hk, hxy, _, hxl, hf⟩ := DataW.trod_struct Try.underlying32 h2
    match xs, hxl, cs', hlen with
    | [y0, y1, y2], _, [v0, v1, v2], _ =>
      have g0 := hf 0 _ rfl
      have g1 := hf 1 _ rfl
      have g2 := hf 2 _ rfl
      simp [ktcells_int, ktcells_str, ktcells_bool] at g0 g1 g2
      obtain ⟨n0, q0, _, w0⟩ := DataW.trod_string Try.underlying9 g0
      obtain ⟨n1, q1, _⟩ := DataW.trod_bool Try.underlying4 g1
      obtain ⟨n2, q2, _, w2⟩ := DataW.trod_int Try.underlying3 g2
      simp at q0 q1 q2
      subst q0 q1 q2
      have e0 := hcell 0 (by omega)
      have e1 := hcell 1 (by omega)
      have e2 := hcell 2 (by omega)
      rw [Deep.add_add] at e0 e1 e2
      exact ⟨⟨n0, n1, n2⟩, by simpa using e0, by simpa using e1, by simpa using e2, w0, w2⟩
  haveI : Inhabited Kt := ⟨⟨⟨#[]⟩, false, 0⟩⟩
  obtain ⟨q, hq⟩ := Deep.choose_lt each
  have hnth : ∀ j, j < len → ktnth ((List.range len).map q) j = q j := by
    intro j hj
    simp [ktnth, List.getD_eq_getElem?_getD, hj]
  refine ⟨some a', len, m, (List.range len).map q, rfl, ?_, by simp, by omega, fun j hj => ?_⟩
  · by_cases h0 : len = 0
    · exact .inl (by simp [h0])
    · obtain ⟨b, off, spot⟩ := a'
      have hc := (hq 0 (by omega)).1
      have hspot : spot = none := by simpa [Addr.add] using World.cell?_spot hc
      subst hspot
      refine .inr ⟨b, off, rfl, blt_of_cell hc, fun j hj => ?_⟩
      have hj' : j < len := by simpa using hj
      obtain ⟨c0, c1, c2, _⟩ := hq j (by omega)
      simp only [Addr.add_lit] at c0 c1 c2
      rw [hnth j hj']
      exact ⟨by simpa [Nat.add_assoc] using c0, by simpa [Nat.add_assoc] using c1, by simpa [Nat.add_assoc] using c2⟩
  · rw [hnth j hj]
    exact (hq j (by omega)).2.2.2
end Go.Proofs.Ytdnngcibmkdhhaa
