/-
  Promise R: slips: how they lie in memory, how a list of them that came in is opened; which are right.
-/
import Derived.Test.YtiedlmhahdnhaaaSAm
namespace Go.Proofs.Ytiedlmhahdnhaaa
open Go.RowKit

/-- A slip. -/
structure Sl where
  num : Int
  per : Int
  run : Int
  gone : Bool
  tot : List Am
def snth (l : List Sl) (j : Nat) : Sl := l.getD j ⟨0, 0, 0, false, []⟩
/-- Amounts that came in: they lie there, and their names are no longer than texts can be. -/
def PsAt (w : World) (a : Option Addr) (l : List Am) : Prop := CameA w a l ∧ NamesFit l ∧ l.length ≤ maxLen
theorem PsAt.below {w w' : World} {a : Option Addr} {l : List Am} (h : PsAt w a l) (hb : Below w.heap.size w w') : PsAt w' a l := ⟨h.1.below hb, h.2⟩
/-- A slip's first four cells. -/
def SlHd (w : World) (b o : Nat) (r : Sl) : Prop := w.cell? ⟨b, o, none⟩ = some (.int .i64 r.num) ∧ w.cell? ⟨b, o + 1, none⟩ = some (.int .i64 r.per) ∧ w.cell? ⟨b, o + 2, none⟩ = some (.int .i64 r.run) ∧ w.cell? ⟨b, o + 3, none⟩ = some (.bool r.gone)
theorem SlHd.below {B : Nat} {w w' : World} {b o : Nat} {r : Sl} (h : SlHd w b o r) (hb : Below B w w') (hB : b < B) : SlHd w' b o r :=
  ⟨(hb.cell (p := ⟨b, o, none⟩) hB).trans h.1, (hb.cell (p := ⟨b, o + 1, none⟩) hB).trans h.2.1, (hb.cell (p := ⟨b, o + 2, none⟩) hB).trans h.2.2.1, (hb.cell (p := ⟨b, o + 3, none⟩) hB).trans h.2.2.2⟩
/-- A slip's five cells, and its totals. -/
def SlIs (w : World) (b o : Nat) (r : Sl) : Prop := SlHd w b o r ∧ ∃ (a : Option Addr) (c : Nat), w.cell? ⟨b, o + 4, none⟩ = some (.slice a r.tot.length c) ∧ PsAt w a r.tot
theorem SlIs.below {w w' : World} {b o : Nat} {r : Sl} (h : SlIs w b o r) (hb : Below w.heap.size w w') (hB : b < w.heap.size) : SlIs w' b o r := by
  obtain ⟨h1, a, c, h2, h3⟩ := h
  exact ⟨h1.below hb hB, a, c, (hb.cell (p := ⟨b, o + 4, none⟩) hB).trans h2, h3.below hb⟩
/-- A slice of slips that came in. -/
def CameS (w : World) (a : Option Addr) (l : List Sl) : Prop := l.length = 0 ∨ ∃ b off, a = some ⟨b, off, none⟩ ∧ b < w.heap.size ∧ ∀ j, j < l.length → SlIs w b (off + j * 5) (snth l j)
theorem CameS.below {w w' : World} {a : Option Addr} {l : List Sl} (h : CameS w a l) (hb : Below w.heap.size w w') : CameS w' a l := by
  rcases h with h | ⟨b, off, rfl, hB, h⟩
  · exact .inl h
  · exact .inr ⟨b, off, rfl, Nat.lt_of_lt_of_le hB hb.size, fun j hj => (h j hj).below hb hB⟩
theorem CameS.open {w : World} {a : Option Addr} {l : List Sl} (h : CameS w a l) {n : Nat} (hn : l.length = n) (h0 : 0 < n) : ∃ b off, a = some ⟨b, off, none⟩ ∧ ∀ w', Below w.heap.size w w' → ∀ k, k < n → SlIs w' b (off + k * 5) (snth l k) := by
  rcases h with h | ⟨b, off, rfl, hB, h⟩
  · omega
  · exact ⟨b, off, rfl, fun w' hb k hk => (h k (by omega)).below hb hB⟩
theorem snth_mem {l : List Sl} {j : Nat} (hj : j < l.length) : snth l j ∈ l := by
  unfold snth
  rw [List.getD_eq_getElem?_getD, List.getElem?_eq_getElem hj]
  exact List.getElem_mem hj
theorem mem_snth {l : List Sl} {x : Sl} (hx : x ∈ l) : ∃ j, j < l.length ∧ snth l j = x := by
  obtain ⟨j, hj, rfl⟩ := List.mem_iff_getElem.1 hx
  exact ⟨j, hj, by simp [snth, List.getD_eq_getElem?_getD, hj]⟩
theorem cellsSl : Try.prog.cellsOf 44 = 5 := by kernel_rfl
theorem cellsTo : Try.prog.cellsOf 27 = 1 := by kernel_rfl
theorem cellsBo : Try.prog.cellsOf 4 = 1 := by kernel_rfl
def WfSl (r : Sl) : Prop := (Lit.int .i64 r.num).wf = true ∧ (Lit.int .i64 r.per).wf = true ∧ (Lit.int .i64 r.run).wf = true
set_option maxRecDepth 100000 in
theorem openSl {H : Type} {enc : TypeId × Value → H} {W : World} {fuel : Nat} {cs : List Value} {x : DataW H × List MemPlace} (hl : cs.length = 5)
    (h : DataW.trod enc Try.prog W 0 (fun _ => true) true fuel 44 cs = some x) :
    ∃ (r : Sl) (a : Option Addr) (c : Nat), cs = [.int .i64 r.num, .int .i64 r.per, .int .i64 r.run, .bool r.gone, .slice a r.tot.length c] ∧ PsAt W a r.tot ∧ WfSl r := by
  obtain ⟨xs, k, hk, hxy, _, hxl, hf⟩ := DataW.trod_struct Try.underlying44 h
  match xs, hxl, cs, hl with
  | [y0, y1, y2, y3, y4], _, [v0, v1, v2, v3, v4], _ =>
    have g0 := hf 0 _ rfl
    have g1 := hf 1 _ rfl
    have g2 := hf 2 _ rfl
    have g3 := hf 3 _ rfl
    have g4 := hf 4 _ rfl
    simp [ocells_int, cellsBo, cellsTo] at g0 g1 g2 g3 g4
    obtain ⟨n0, q0, _, w0⟩ := DataW.trod_int Try.underlying3 g0
    obtain ⟨n1, q1, _, w1⟩ := DataW.trod_int Try.underlying3 g1
    obtain ⟨n2, q2, _, w2⟩ := DataW.trod_int Try.underlying3 g2
    obtain ⟨n3, q3, _⟩ := DataW.trod_bool Try.underlying4 g3
    obtain ⟨a, ln, c, l, rfl, hc, hfit, hn, hm⟩ := openAm g4
    simp at q0 q1 q2 q3
    subst q0 q1 q2 q3
    subst hn
    exact ⟨⟨n0, n1, n2, n3, l⟩, a, c, rfl, ⟨hc, hfit, hm⟩, w0, w1, w2⟩
set_option maxRecDepth 100000 in
theorem openSls {H : Type} {enc : TypeId × Value → H} {W : World} {fuel : Nat} {v : Value} {x : DataW H × List MemPlace}
    (h : DataW.trod enc Try.prog W 0 (fun _ => true) true fuel 22 [v] = some x) :
    ∃ (a : Option Addr) (len cap : Nat) (l : List Sl), v = .slice a len cap ∧ CameS W a l ∧ l.length = len ∧ len ≤ maxLen ∧ ∀ j, j < len → WfSl (snth l j) := by
  rcases Deep.open_slice Try.underlying22 h with ⟨hcs, _⟩ | ⟨a', len, cap, m, n, D, Pl, hcs, hb, hl, hm, hmm, _, hx⟩
  · simp at hcs
    exact ⟨none, 0, 0, [], hcs, .inl rfl, rfl, Nat.zero_le _, fun j hj => by simp at hj⟩
  simp at hcs
  subst hcs
  have hmc : m = cap := by rw [hmm]; simp
  subst hmc
  have each : ∀ i, i < m → ∃ r : Sl, ∃ (a : Option Addr) (c : Nat), W.cell? (a'.add (i * 5)) = some (.int .i64 r.num) ∧ W.cell? (a'.add (i * 5 + 1)) = some (.int .i64 r.per) ∧ W.cell? (a'.add (i * 5 + 2)) = some (.int .i64 r.run) ∧ W.cell? (a'.add (i * 5 + 3)) = some (.bool r.gone) ∧ W.cell? (a'.add (i * 5 + 4)) = some (.slice a r.tot.length c) ∧ PsAt W a r.tot ∧ WfSl r := by
    intro i hi
    obtain ⟨cs', h1, h2⟩ := hx i hi
    rw [cellsSl] at h1
    obtain ⟨_, hlen, hcell⟩ := World.cells?_some h1
    obtain ⟨r, a, c, rfl, hp, hw⟩ := openSl (by simpa using hlen) h2
    have e0 := hcell 0 (by omega)
    have e1 := hcell 1 (by omega)
    have e2 := hcell 2 (by omega)
    have e3 := hcell 3 (by omega)
    have e4 := hcell 4 (by omega)
    rw [Deep.add_add] at e0 e1 e2 e3 e4
    exact ⟨r, a, c, by simpa using e0, by simpa using e1, by simpa using e2, by simpa using e3, by simpa using e4, hp, hw⟩
  haveI : Inhabited Sl := ⟨⟨0, 0, 0, false, []⟩⟩
  obtain ⟨q, hq⟩ := Deep.choose_lt each
  have hnth : ∀ j, j < len → snth ((List.range len).map q) j = q j := by
    intro j hj
    simp [snth, List.getD_eq_getElem?_getD, hj]
  refine ⟨some a', len, m, (List.range len).map q, rfl, ?_, by simp, by omega, fun j hj => ?_⟩
  · by_cases h0 : len = 0
    · exact .inl (by simp [h0])
    · obtain ⟨b, off, spot⟩ := a'
      obtain ⟨_, _, hc, _⟩ := hq 0 (by omega)
      have hspot : spot = none := by simpa [Addr.add] using World.cell?_spot hc
      subst hspot
      refine .inr ⟨b, off, rfl, oblt_of_cell hc, fun j hj => ?_⟩
      have hj' : j < len := by simpa using hj
      obtain ⟨aj, cj, h1, h2, h3, h4, h5, h6, _⟩ := hq j (by omega)
      simp only [Addr.add_lit] at h1 h2 h3 h4 h5
      rw [hnth j hj']
      exact ⟨⟨by simpa [Nat.add_assoc] using h1, by simpa [Nat.add_assoc] using h2, by simpa [Nat.add_assoc] using h3, by simpa [Nat.add_assoc] using h4⟩, aj, cj, by simpa [Nat.add_assoc] using h5, h6⟩
  · rw [hnth j hj]
    obtain ⟨_, _, _, _, _, _, _, _, h⟩ := hq j (by omega)
    exact h
/-- Is a text less than another one, or the same, byte by byte? -/
def leS (a b : ByteArray) : Bool := Op.bytesLess a.toList b.toList || a.toList == b.toList
/-- Do names rise? -/
def upN (f : Nat → ByteArray) (n : Nat) : Bool := (List.range (n - 1)).all fun j => !leS (f (j + 1)) (f j)
theorem upN_iff {f : Nat → ByteArray} {n : Nat} : upN f n = true ↔ ∀ j, j + 1 < n → leS (f (j + 1)) (f j) = false := by
  unfold upN
  rw [List.all_eq_true]
  constructor
  · intro h j hj
    have := h j (List.mem_range.2 (by omega))
    simpa using this
  · intro h j hj
    have := h j (by have := List.mem_range.1 hj; omega)
    simpa using this
theorem upN_not {f : Nat → ByteArray} {n : Nat} {j : Nat} (hj : j + 1 < n) (h : leS (f (j + 1)) (f j) = true) : upN f n = false := by
  rw [Bool.eq_false_iff]
  intro e
  have := upN_iff.1 e j hj
  rw [h] at this
  cases this
/-- What is wrong with a slip. -/
def slW (r : Sl) : Int := if perB r.num = false ∨ perB r.per = false ∨ perB r.run = false then 3 else if 30 < r.tot.length then 2 else if ansB r.tot = false then 1 else if assB r.tot = false then 3 else if upN (fun j => (anth r.tot j).name) r.tot.length = false then 6 else 0
/-- What is wrong with the first slip with which something is. -/
def slsW : List Sl → Int
  | [] => 0
  | r :: l => if slW r = 0 then slsW l else slW r
theorem slsW_at : ∀ {l : List Sl} {k : Nat}, (∀ j, j < k → slW (snth l j) = 0) → k < l.length → slW (snth l k) ≠ 0 → slsW l = slW (snth l k)
  | [], k, _, hk, _ => by simp at hk
  | t :: r, 0, _, _, hw => by
    have : snth (t :: r) 0 = t := rfl
    rw [this] at hw ⊢
    rw [slsW, if_neg hw]
  | t :: r, k + 1, h, hk, hw => by
    have h0 : slW t = 0 := h 0 (by omega)
    rw [slsW, if_pos h0]
    exact slsW_at (l := r) (k := k) (fun j hj => h (j + 1) (by omega)) (by simpa using hk) hw
theorem slsW_ok : ∀ {l : List Sl}, (∀ j, j < l.length → slW (snth l j) = 0) → slsW l = 0
  | [], _ => rfl
  | t :: r, h => by
    have h0 : slW t = 0 := h 0 (by simp)
    rw [slsW, if_pos h0]
    exact slsW_ok (l := r) fun j hj => h (j + 1) (by simpa using hj)
theorem slsW_zero : ∀ {l : List Sl}, slsW l = 0 → ∀ t ∈ l, slW t = 0
  | [], _, t, ht => by simp at ht
  | x :: r, h, t, ht => by
    rw [slsW] at h
    by_cases h0 : slW x = 0
    · rw [if_pos h0] at h
      rcases List.mem_cons.1 ht with rfl | ht
      · exact h0
      · exact slsW_zero h t ht
    · rw [if_neg h0] at h
      exact absurd h h0
/-- Do numbers rise? -/
def upS (l : List Sl) : Bool := (List.range (l.length - 1)).all fun j => decide ((snth l j).num < (snth l (j + 1)).num)
theorem upS_iff {l : List Sl} : upS l = true ↔ ∀ j, j + 1 < l.length → (snth l j).num < (snth l (j + 1)).num := by
  unfold upS
  rw [List.all_eq_true]
  constructor
  · intro h j hj
    exact of_decide_eq_true (h j (List.mem_range.2 (by omega)))
  · intro h j hj
    exact decide_eq_true (h j (by have := List.mem_range.1 hj; omega))
theorem upS_not {l : List Sl} {j : Nat} (hj : j + 1 < l.length) (h : (snth l (j + 1)).num ≤ (snth l j).num) : upS l = false := by
  rw [Bool.eq_false_iff]
  intro e
  have := upS_iff.1 e j hj
  omega
/-- What is wrong with slips. -/
def slE (l : List Sl) : Int := if 200 < l.length then 2 else if slsW l = 0 then (if upS l = true then 0 else 4) else slsW l
end Go.Proofs.Ytiedlmhahdnhaaa
