/-
  Promise Q: entries of a journal: how they lie in memory, how a list of them that came in is opened; which are right.
-/
import Derived.Test.YtdgcfakbmhchdaaSAm
namespace Go.Proofs.Ytdgcfakbmhchdaa
open Go.RowKit

/-- An entry. -/
structure En where
  day : Int
  ps : List Am
def enth (l : List En) (j : Nat) : En := l.getD j ⟨0, []⟩
/-- Postings that came in: they lie there, and their names are no longer than texts can be. -/
def PsAt (w : World) (a : Option Addr) (l : List Am) : Prop := CameA w a l ∧ NamesFit l ∧ l.length ≤ maxLen
theorem PsAt.below {w w' : World} {a : Option Addr} {l : List Am} (h : PsAt w a l) (hb : Below w.heap.size w w') : PsAt w' a l := ⟨h.1.below hb, h.2⟩
/-- An entry's two cells, and its postings. -/
def EnIs (w : World) (b o : Nat) (r : En) : Prop := ∃ (a : Option Addr) (c : Nat), w.cell? ⟨b, o, none⟩ = some (.int .i64 r.day) ∧ w.cell? ⟨b, o + 1, none⟩ = some (.slice a r.ps.length c) ∧ PsAt w a r.ps
theorem EnIs.below {w w' : World} {b o : Nat} {r : En} (h : EnIs w b o r) (hb : Below w.heap.size w w') (hB : b < w.heap.size) : EnIs w' b o r := by
  obtain ⟨a, c, h1, h2, h3⟩ := h
  exact ⟨a, c, (hb.cell (p := ⟨b, o, none⟩) hB).trans h1, (hb.cell (p := ⟨b, o + 1, none⟩) hB).trans h2, h3.below hb⟩
/-- A slice of entries that came in. -/
def CameE (w : World) (a : Option Addr) (l : List En) : Prop := l.length = 0 ∨ ∃ b off, a = some ⟨b, off, none⟩ ∧ b < w.heap.size ∧ ∀ j, j < l.length → EnIs w b (off + j * 2) (enth l j)
theorem CameE.below {w w' : World} {a : Option Addr} {l : List En} (h : CameE w a l) (hb : Below w.heap.size w w') : CameE w' a l := by
  rcases h with h | ⟨b, off, rfl, hB, h⟩
  · exact .inl h
  · exact .inr ⟨b, off, rfl, Nat.lt_of_lt_of_le hB hb.size, fun j hj => (h j hj).below hb hB⟩
theorem CameE.open {w : World} {a : Option Addr} {l : List En} (h : CameE w a l) {n : Nat} (hn : l.length = n) (h0 : 0 < n) : ∃ b off, a = some ⟨b, off, none⟩ ∧ ∀ w', Below w.heap.size w w' → ∀ k, k < n → EnIs w' b (off + k * 2) (enth l k) := by
  rcases h with h | ⟨b, off, rfl, hB, h⟩
  · omega
  · exact ⟨b, off, rfl, fun w' hb k hk => (h k (by omega)).below hb hB⟩
theorem enth_mem {l : List En} {j : Nat} (hj : j < l.length) : enth l j ∈ l := by
  unfold enth
  rw [List.getD_eq_getElem?_getD, List.getElem?_eq_getElem hj]
  exact List.getElem_mem hj
theorem mem_enth {l : List En} {x : En} (hx : x ∈ l) : ∃ j, j < l.length ∧ enth l j = x := by
  obtain ⟨j, hj, rfl⟩ := List.mem_iff_getElem.1 hx
  exact ⟨j, hj, by simp [enth, List.getD_eq_getElem?_getD, hj]⟩
theorem cellsEn : Try.prog.cellsOf 29 = 2 := by kernel_rfl
theorem cellsPs : Try.prog.cellsOf 27 = 1 := by kernel_rfl
set_option maxRecDepth 100000 in
theorem openEn {H : Type} {enc : TypeId × Value → H} {W : World} {fuel : Nat} {cs : List Value} {x : DataW H × List MemPlace} (hl : cs.length = 2)
    (h : DataW.trod enc Try.prog W 0 (fun _ => true) true fuel 29 cs = some x) :
    ∃ (d : Int) (a : Option Addr) (c : Nat) (l : List Am), cs = [.int .i64 d, .slice a l.length c] ∧ PsAt W a l ∧ (Lit.int .i64 d).wf = true := by
  obtain ⟨xs, k, hk, hxy, _, hxl, hf⟩ := DataW.trod_struct Try.underlying29 h
  match xs, hxl, cs, hl with
  | [y0, y1], _, [v0, v1], _ =>
    have g0 := hf 0 _ rfl
    have g1 := hf 1 _ rfl
    simp [ocells_int, cellsPs] at g0 g1
    obtain ⟨n0, q0, _, w0⟩ := DataW.trod_int Try.underlying3 g0
    obtain ⟨a, ln, c, l, rfl, hc, hfit, hn, hm⟩ := openPo g1
    simp at q0
    subst q0
    subst hn
    exact ⟨n0, a, c, l, rfl, ⟨hc, hfit, hm⟩, w0⟩
set_option maxRecDepth 100000 in
theorem openEns {H : Type} {enc : TypeId × Value → H} {W : World} {fuel : Nat} {v : Value} {x : DataW H × List MemPlace}
    (h : DataW.trod enc Try.prog W 0 (fun _ => true) true fuel 22 [v] = some x) :
    ∃ (a : Option Addr) (len cap : Nat) (l : List En), v = .slice a len cap ∧ CameE W a l ∧ l.length = len ∧ len ≤ maxLen ∧ ∀ j, j < len → (Lit.int .i64 (enth l j).day).wf = true := by
  rcases Deep.open_slice Try.underlying22 h with ⟨hcs, _⟩ | ⟨a', len, cap, m, n, D, Pl, hcs, hb, hl, hm, hmm, _, hx⟩
  · simp at hcs
    exact ⟨none, 0, 0, [], hcs, .inl rfl, rfl, Nat.zero_le _, fun j hj => by simp at hj⟩
  simp at hcs
  subst hcs
  have hmc : m = cap := by rw [hmm]; simp
  subst hmc
  have each : ∀ i, i < m → ∃ r : En, ∃ (a : Option Addr) (c : Nat), W.cell? (a'.add (i * 2)) = some (.int .i64 r.day) ∧ W.cell? (a'.add (i * 2 + 1)) = some (.slice a r.ps.length c) ∧ PsAt W a r.ps ∧ (Lit.int .i64 r.day).wf = true := by
    intro i hi
    obtain ⟨cs', h1, h2⟩ := hx i hi
    rw [cellsEn] at h1
    obtain ⟨_, hlen, hcell⟩ := World.cells?_some h1
    obtain ⟨d, a, c, l, rfl, hp, hw⟩ := openEn (by simpa using hlen) h2
    have e0 := hcell 0 (by omega)
    have e1 := hcell 1 (by omega)
    rw [Deep.add_add] at e0 e1
    exact ⟨⟨d, l⟩, a, c, by simpa using e0, by simpa using e1, hp, hw⟩
  haveI : Inhabited En := ⟨⟨0, []⟩⟩
  obtain ⟨q, hq⟩ := Deep.choose_lt each
  have hnth : ∀ j, j < len → enth ((List.range len).map q) j = q j := by
    intro j hj
    simp [enth, List.getD_eq_getElem?_getD, hj]
  refine ⟨some a', len, m, (List.range len).map q, rfl, ?_, by simp, by omega, fun j hj => ?_⟩
  · by_cases h0 : len = 0
    · exact .inl (by simp [h0])
    · obtain ⟨b, off, spot⟩ := a'
      obtain ⟨_, _, hc, _⟩ := hq 0 (by omega)
      have hspot : spot = none := by simpa [Addr.add] using World.cell?_spot hc
      subst hspot
      refine .inr ⟨b, off, rfl, oblt_of_cell hc, fun j hj => ?_⟩
      have hj' : j < len := by simpa using hj
      obtain ⟨aj, cj, h1, h2, h3, _⟩ := hq j (by omega)
      simp only [Addr.add_lit] at h1 h2
      rw [hnth j hj']
      exact ⟨aj, cj, by simpa [Nat.add_assoc] using h1, by simpa [Nat.add_assoc] using h2, h3⟩
  · rw [hnth j hj]
    obtain ⟨_, _, _, _, _, h4⟩ := hq j (by omega)
    exact h4
/-- What postings come to. -/
def sumA : List Am → Int
  | [] => 0
  | p :: r => p.mon + sumA r
theorem sumA_append : ∀ l m : List Am, sumA (l ++ m) = sumA l + sumA m
  | [], m => by simp [sumA]
  | p :: r, m => by rw [List.cons_append, sumA, sumA, sumA_append r m]; omega
theorem atake_snoc {l : List Am} {k : Nat} (h : k < l.length) : l.take (k + 1) = l.take k ++ [anth l k] := by
  rw [List.take_add_one, List.getElem?_eq_getElem h]
  simp [anth, List.getD_eq_getElem?_getD, h]
theorem sumA_step {l : List Am} {k : Nat} (h : k < l.length) : sumA (l.take (k + 1)) = sumA (l.take k) + (anth l k).mon := by
  rw [atake_snoc h, sumA_append]
  simp [sumA]
theorem asB_bd {r : Am} (h : asB r = true) : -1000000000000 ≤ r.mon ∧ r.mon ≤ 1000000000000 ∧ r.mon ≠ 0 := by
  unfold asB someB at h
  simp at h
  have := of_decide_eq_true h.2
  exact ⟨this.1, this.2, h.1⟩
theorem sumA_bd : ∀ {l : List Am}, (∀ r ∈ l, asB r = true) → -(1000000000000 * (l.length : Int)) ≤ sumA l ∧ sumA l ≤ 1000000000000 * (l.length : Int)
  | [], _ => by simp [sumA]
  | p :: r, h => by
    have ih := sumA_bd (l := r) fun x hx => h x (by simp [hx])
    have hp := asB_bd (h p (by simp))
    rw [sumA, List.length_cons]
    push_cast
    omega
/-- What is wrong with an entry. -/
def enE (r : En) : Int := if dayB r.day = false then 3 else if r.ps.length < 2 ∨ 20 < r.ps.length then 2 else if ansB r.ps = false then 1 else if assB r.ps = false then 3 else if sumA r.ps = 0 then 0 else 4
/-- What is wrong with the first entry with which something is. -/
def ensE : List En → Int
  | [] => 0
  | r :: l => if enE r = 0 then ensE l else enE r
theorem ensE_at : ∀ {l : List En} {k : Nat}, (∀ j, j < k → enE (enth l j) = 0) → k < l.length → enE (enth l k) ≠ 0 → ensE l = enE (enth l k)
  | [], k, _, hk, _ => by simp at hk
  | t :: r, 0, _, _, hw => by
    have : enth (t :: r) 0 = t := rfl
    rw [this] at hw ⊢
    rw [ensE, if_neg hw]
  | t :: r, k + 1, h, hk, hw => by
    have h0 : enE t = 0 := h 0 (by omega)
    rw [ensE, if_pos h0]
    exact ensE_at (l := r) (k := k) (fun j hj => h (j + 1) (by omega)) (by simpa using hk) hw
theorem ensE_ok : ∀ {l : List En}, (∀ j, j < l.length → enE (enth l j) = 0) → ensE l = 0
  | [], _ => rfl
  | t :: r, h => by
    have h0 : enE t = 0 := h 0 (by simp)
    rw [ensE, if_pos h0]
    exact ensE_ok (l := r) fun j hj => h (j + 1) (by simpa using hj)
theorem ensE_zero : ∀ {l : List En}, ensE l = 0 → ∀ t ∈ l, enE t = 0
  | [], _, t, ht => by simp at ht
  | x :: r, h, t, ht => by
    rw [ensE] at h
    by_cases h0 : enE x = 0
    · rw [if_pos h0] at h
      rcases List.mem_cons.1 ht with rfl | ht
      · exact h0
      · exact ensE_zero h t ht
    · rw [if_neg h0] at h
      exact absurd h h0
/-- Do days never fall? -/
def upD (l : List En) : Bool := (List.range (l.length - 1)).all fun j => decide ((enth l j).day ≤ (enth l (j + 1)).day)
theorem upD_iff {l : List En} : upD l = true ↔ ∀ j, j + 1 < l.length → (enth l j).day ≤ (enth l (j + 1)).day := by
  unfold upD
  rw [List.all_eq_true]
  constructor
  · intro h j hj
    exact of_decide_eq_true (h j (List.mem_range.2 (by omega)))
  · intro h j hj
    exact decide_eq_true (h j (by have := List.mem_range.1 hj; omega))
theorem upD_not {l : List En} {j : Nat} (hj : j + 1 < l.length) (h : (enth l (j + 1)).day < (enth l j).day) : upD l = false := by
  rw [Bool.eq_false_iff]
  intro e
  have := upD_iff.1 e j hj
  omega
/-- What is wrong with a journal. -/
def jrE (l : List En) : Int := if 100 < l.length then 2 else if ensE l = 0 then (if upD l = true then 0 else 4) else ensE l
end Go.Proofs.Ytdgcfakbmhchdaa
