/-
  Claims: when they are right, what each is due and gets (pure functions); how they lie in memory, and how a list of them that came in is opened.
-/
import Derived.Test.YtciblhkcchaobaaMInts
import Derived.Lib.Hide
import Derived.Laws.Unary
import Derived.Deep.Slices
import Derived.ChangeSame
namespace Go.Proofs.Ytciblhkcchaobaa
open Go.RowKit

theorem uret_bool {a b : Bool} (h : a = b) : Ending.returned (.bool a) = .returned (.bool b) := by rw [h]
theorem uret_int {k : IntKind} {a b : Int} (h : a = b) : Ending.returned (.int k a) = .returned (.int k b) := by rw [h]
theorem uret22 {a b c d : Int} (h : a = b) (k : c = d) : Ending.returned (.tuple #[.int .i64 a, .int .i64 c]) = .returned (.tuple #[.int .i64 b, .int .i64 d]) := by rw [h, k]
theorem uval {k : IntKind} {a b : Int} (h : a = b) : Value.int k a = Value.int k b := by rw [h]
theorem uvb {a b : Bool} (h : a = b) : Value.bool a = Value.bool b := by rw [h]
theorem ubelow_dN {B : Nat} {a w : World} (h : Below B a w) (k : Nat) : Below B a (w.drewN k) := h.trans ⟨rfl, rfl, rfl, Nat.le_refl _, fun _ _ => rfl⟩
theorem ubelow_box (w : World) (o : Obj) : Below w.heap.size w (w.alloc o) := (Below.refl w.heap.size w).alloc (Nat.le_refl _) o
theorem clt_of_cell {W : World} {p : Addr} {v : Value} (h : W.cell? p = some v) : p.block < W.heap.size := by
  by_cases hb : p.block < W.heap.size
  · exact hb
  · have : W.heap[p.block]? = none := Array.getElem?_eq_none (by omega)
    simp [World.cell?, this] at h
/-- A claim. -/
structure Cl where
  want : Int
  owed : Int
  cap : Int
  year : Int
def cnth (l : List Cl) (j : Nat) : Cl := l.getD j ⟨0, 0, 0, 0⟩
/-- Is it money that is not below 0? -/
def cmB (n : Int) : Bool := decide (0 ≤ n ∧ n ≤ 1000000000000)
theorem cmB_iff {x : Int} : cmB x = true ↔ 0 ≤ x ∧ x ≤ 1000000000000 := by unfold cmB; exact decide_eq_true_iff
theorem cmB_no {x : Int} : cmB x = false ↔ x < 0 ∨ 1000000000000 < x := by unfold cmB; rw [decide_eq_false_iff_not]; omega
def clB (c : Cl) : Bool := cmB c.want && cmB c.owed && cmB c.year
def capB (c : Cl) : Bool := decide (c.cap ≤ 1000000000000)
theorem cnth_mem {l : List Cl} {j : Nat} (hj : j < l.length) : cnth l j ∈ l := by
  unfold cnth
  rw [List.getD_eq_getElem?_getD, List.getElem?_eq_getElem hj]
  exact List.getElem_mem hj
theorem all_cnth {P : Cl → Bool} {l : List Cl} (h : l.all P = true) {j : Nat} (hj : j < l.length) : P (cnth l j) = true := List.all_eq_true.1 h _ (cnth_mem hj)
theorem all_of_cnth {P : Cl → Bool} {l : List Cl} (h : ∀ j, j < l.length → P (cnth l j) = true) : l.all P = true := by
  rw [List.all_eq_true]
  intro x hx
  obtain ⟨j, hj, rfl⟩ := List.mem_iff_getElem.1 hx
  have := h j hj
  simpa [cnth, List.getD_eq_getElem?_getD, hj] using this
theorem all_not_cnth {P : Cl → Bool} {l : List Cl} {j : Nat} (hj : j < l.length) (h : P (cnth l j) = false) : l.all P = false := by
  rw [Bool.eq_false_iff]
  intro e
  rw [all_cnth e hj] at h
  cases h
/-- Are all claims right? -/
def clsB (l : List Cl) : Bool := l.all clB
def capsB (l : List Cl) : Bool := l.all capB
def okB (c : Cl) : Bool := clB c && capB c
theorem oksB (l : List Cl) : l.all okB = (clsB l && capsB l) := by
  unfold clsB capsB
  cases h : l.all okB
  · cases h1 : l.all clB
    · rfl
    · cases h2 : l.all capB
      · rfl
      · have : l.all okB = true := all_of_cnth fun j hj => by
          unfold okB
          rw [all_cnth h1 hj, all_cnth h2 hj]
          rfl
        rw [h] at this
        cases this
  · have h1 : l.all clB = true := all_of_cnth fun j hj => by
      have := all_cnth h hj
      unfold okB at this
      rw [Bool.and_eq_true] at this
      exact this.1
    have h2 : l.all capB = true := all_of_cnth fun j hj => by
      have := all_cnth h hj
      unfold okB at this
      rw [Bool.and_eq_true] at this
      exact this.2
    rw [h1, h2]
    rfl
/-- What is wrong with claims. -/
def claimE (g k : Int) (l : List Cl) : Int := if 30 < l.length then 2 else if (cmB g && cmB k && (clsB l && capsB l)) = false then 3 else 0
theorem claimE_many {g k : Int} {l : List Cl} (h : 30 < l.length) : claimE g k l = 2 := by unfold claimE; rw [if_pos h]
theorem claimE_range {g k : Int} {l : List Cl} (h : ¬ 30 < l.length) (h2 : (cmB g && cmB k && (clsB l && capsB l)) = false) : claimE g k l = 3 := by unfold claimE; rw [if_neg h, if_pos h2]
theorem claimE_ok {g k : Int} {l : List Cl} (h : ¬ 30 < l.length) (h2 : (cmB g && cmB k && (clsB l && capsB l)) = true) : claimE g k l = 0 := by unfold claimE; rw [if_neg h, if_neg (by rw [h2]; simp)]
theorem claimE_zero {g k : Int} {l : List Cl} (h : claimE g k l = 0) : l.length ≤ 30 ∧ (0 ≤ g ∧ g ≤ 1000000000000) ∧ (0 ≤ k ∧ k ≤ 1000000000000) ∧ ∀ j, j < l.length → 0 ≤ (cnth l j).want ∧ (cnth l j).want ≤ 1000000000000 ∧ 0 ≤ (cnth l j).owed ∧ (cnth l j).owed ≤ 1000000000000 ∧ 0 ≤ (cnth l j).year ∧ (cnth l j).year ≤ 1000000000000 ∧ (cnth l j).cap ≤ 1000000000000 := by
  unfold claimE at h
  by_cases h1 : 30 < l.length
  · rw [if_pos h1] at h; omega
  · rw [if_neg h1] at h
    by_cases h2 : (cmB g && cmB k && (clsB l && capsB l)) = false
    · rw [if_pos h2] at h; omega
    · have h3 : (cmB g && cmB k && (clsB l && capsB l)) = true := by
        cases h9 : (cmB g && cmB k && (clsB l && capsB l))
        · exact absurd h9 h2
        · rfl
      rw [Bool.and_eq_true, Bool.and_eq_true, Bool.and_eq_true] at h3
      obtain ⟨⟨a1, a2⟩, a3, a4⟩ := h3
      refine ⟨by omega, cmB_iff.1 a1, cmB_iff.1 a2, fun j hj => ?_⟩
      have b1 := all_cnth a3 hj
      have b2 := all_cnth a4 hj
      unfold clB at b1
      unfold capB at b2
      rw [Bool.and_eq_true, Bool.and_eq_true] at b1
      obtain ⟨⟨c1, c2⟩, c3⟩ := b1
      have d1 := cmB_iff.1 c1
      have d2 := cmB_iff.1 c2
      have d3 := cmB_iff.1 c3
      exact ⟨d1.1, d1.2, d2.1, d2.2, d3.1, d3.2, of_decide_eq_true b2⟩
/-- What a claim is due. -/
def due (c : Cl) : Int := if c.cap < 0 then c.want else min c.want (max 0 (c.cap - c.year))
theorem due_bd {c : Cl} (h0 : 0 ≤ c.want) : 0 ≤ due c ∧ due c ≤ c.want := by
  unfold due
  split <;> omega
/-- What is left, behind so many claims; what each gets. -/
def lft (g k : Int) (l : List Cl) : Nat → Int
  | 0 => g - min g k
  | j + 1 => lft g k l j - (min (due (cnth l j)) (lft g k l j) + min (cnth l j).owed (lft g k l j - min (due (cnth l j)) (lft g k l j)))
def now (g k : Int) (l : List Cl) (j : Nat) : Int := min (due (cnth l j)) (lft g k l j)
def bef (g k : Int) (l : List Cl) (j : Nat) : Int := min (cnth l j).owed (lft g k l j - now g k l j)
def owe (g k : Int) (l : List Cl) (j : Nat) : Int := due (cnth l j) + (cnth l j).owed - now g k l j - bef g k l j
theorem lft_succ (g k : Int) (l : List Cl) (j : Nat) : lft g k l (j + 1) = lft g k l j - (now g k l j + bef g k l j) := rfl
/-- The claims are right. -/
def Fine (l : List Cl) : Prop := l.length ≤ 30 ∧ ∀ j, j < l.length → 0 ≤ due (cnth l j) ∧ due (cnth l j) ≤ 1000000000000 ∧ 0 ≤ (cnth l j).owed ∧ (cnth l j).owed ≤ 1000000000000
theorem fine_of {g k : Int} {l : List Cl} (h : claimE g k l = 0) : Fine l := by
  obtain ⟨h1, _, _, h4⟩ := claimE_zero h
  refine ⟨h1, fun j hj => ?_⟩
  have := h4 j hj
  have := due_bd (c := cnth l j) (by omega)
  omega
theorem lft_bd {g k : Int} {l : List Cl} (hg : 0 ≤ g) (hk : 0 ≤ k) (h : Fine l) : ∀ j, j ≤ l.length → 0 ≤ lft g k l j ∧ lft g k l j ≤ g
  | 0, _ => by rw [lft]; omega
  | j + 1, hj => by
    have ih := lft_bd hg hk h j (by omega)
    have := h.2 j (by omega)
    rw [lft]
    omega
/-- What so many claims ask for together. -/
def asked (l : List Cl) : Nat → Int
  | 0 => 0
  | j + 1 => asked l j + (due (cnth l j) + (cnth l j).owed)
theorem asked_bd {l : List Cl} (h : Fine l) : ∀ j, j ≤ l.length → 0 ≤ asked l j ∧ asked l j ≤ 2000000000000 * j
  | 0, _ => by simp [asked]
  | j + 1, hj => by
    have ih := asked_bd h j (by omega)
    have := h.2 j (by omega)
    rw [asked]
    omega
theorem lft_asked {g k : Int} {l : List Cl} (hg : 0 ≤ g) (hk : 0 ≤ k) (h : Fine l) : ∀ j, j ≤ l.length → lft g k l j = max 0 (g - min g k - asked l j)
  | 0, _ => by rw [lft, asked]; omega
  | j + 1, hj => by
    have ih := lft_asked hg hk h j (by omega)
    have := h.2 j (by omega)
    have := asked_bd h j (by omega)
    rw [lft, asked]
    omega
/-- The cells of what is taken. -/
def takenL (g k : Int) (l : List Cl) : Nat → List Int
  | 0 => []
  | j + 1 => takenL g k l j ++ [now g k l j, bef g k l j, owe g k l j]
theorem takenL_length (g k : Int) (l : List Cl) : ∀ j, (takenL g k l j).length = j * 3
  | 0 => rfl
  | j + 1 => by
    rw [takenL, List.length_append, takenL_length g k l j]
    simp
    omega
theorem takenL_nth (g k : Int) (l : List Cl) : ∀ (n j : Nat), j < n → nth (takenL g k l n) (j * 3) = now g k l j ∧ nth (takenL g k l n) (j * 3 + 1) = bef g k l j ∧ nth (takenL g k l n) (j * 3 + 2) = owe g k l j
  | 0, j, hj => by omega
  | n + 1, j, hj => by
    rw [takenL]
    unfold nth
    have hl := takenL_length g k l n
    by_cases e : j = n
    · subst e
      simp [List.getD_eq_getElem?_getD, hl]
    · have := takenL_nth g k l n j (by omega)
      unfold nth at this
      simp only [List.getD_eq_getElem?_getD] at this ⊢
      rw [List.getElem?_append_left (by omega), List.getElem?_append_left (by omega), List.getElem?_append_left (by omega)]
      exact this
/-- A claim's four cells. -/
def ClIs (w : World) (b o : Nat) (r : Cl) : Prop := w.cell? ⟨b, o, none⟩ = some (.int .i64 r.want) ∧ w.cell? ⟨b, o + 1, none⟩ = some (.int .i64 r.owed) ∧ w.cell? ⟨b, o + 2, none⟩ = some (.int .i64 r.cap) ∧ w.cell? ⟨b, o + 3, none⟩ = some (.int .i64 r.year)
theorem ClIs.below {B : Nat} {w w' : World} {b o : Nat} {r : Cl} (h : ClIs w b o r) (hb : Below B w w') (hB : b < B) : ClIs w' b o r :=
  ⟨(hb.cell (p := ⟨b, o, none⟩) hB).trans h.1, (hb.cell (p := ⟨b, o + 1, none⟩) hB).trans h.2.1, (hb.cell (p := ⟨b, o + 2, none⟩) hB).trans h.2.2.1, (hb.cell (p := ⟨b, o + 3, none⟩) hB).trans h.2.2.2⟩
/-- A slice of claims that came in. -/
def CameC (w : World) (a : Option Addr) (l : List Cl) : Prop := l.length = 0 ∨ ∃ b off, a = some ⟨b, off, none⟩ ∧ b < w.heap.size ∧ ∀ j, j < l.length → ClIs w b (off + j * 4) (cnth l j)
theorem CameC.below {w w' : World} {a : Option Addr} {l : List Cl} (h : CameC w a l) (hb : Below w.heap.size w w') : CameC w' a l := by
  rcases h with h | ⟨b, off, rfl, h1, h2⟩
  · exact .inl h
  · exact .inr ⟨b, off, rfl, Nat.lt_of_lt_of_le h1 hb.size, fun j hj => (h2 j hj).below hb h1⟩
theorem CameC.open {w : World} {a : Option Addr} {l : List Cl} (h : CameC w a l) {n : Nat} (hn : l.length = n) (h0 : 0 < n) : ∃ b off, a = some ⟨b, off, none⟩ ∧ ∀ w', Below w.heap.size w w' → ∀ k, k < n → ClIs w' b (off + k * 4) (cnth l k) := by
  rcases h with h | ⟨b, off, rfl, h1, h2⟩
  · omega
  · exact ⟨b, off, rfl, fun w' hb k hk => (h2 k (by omega)).below hb h1⟩
theorem cells_cl : Try.prog.cellsOf 40 = 4 := by kernel_rfl
theorem ccells_int : Try.prog.cellsOf 3 = 1 := by kernel_rfl
theorem open_cls {H : Type} {enc : TypeId × Value → H} {W : World} {fuel : Nat} {v : Value} {x : DataW H × List MemPlace}
    (h : DataW.trod enc Try.prog W 0 (fun _ => true) true fuel 22 [v] = some x) :
    ∃ (a : Option Addr) (len cap : Nat) (l : List Cl), v = .slice a len cap ∧ CameC W a l ∧ l.length = len ∧ len ≤ maxLen := by
  rcases Deep.open_slice Try.underlying22 h with ⟨hcs, _⟩ | ⟨a', len, cap, m, n, D, Pl, hcs, hb, hl, hm, hmm, _, hx⟩
  · simp at hcs
    exact ⟨none, 0, 0, [], hcs, .inl rfl, rfl, Nat.zero_le _⟩
  simp at hcs
  subst hcs
  have hmc : m = cap := by rw [hmm]; simp
  subst hmc
  have each : ∀ i, i < m → ∃ r : Cl, W.cell? (a'.add (i * 4)) = some (.int .i64 r.want) ∧ W.cell? (a'.add (i * 4 + 1)) = some (.int .i64 r.owed) ∧ W.cell? (a'.add (i * 4 + 2)) = some (.int .i64 r.cap) ∧ W.cell? (a'.add (i * 4 + 3)) = some (.int .i64 r.year) := by
    intro i hi
    obtain ⟨cs', h1, h2⟩ := hx i hi
    rw [cells_cl] at h1
    obtain ⟨_, hlen, hcell⟩ := World.cells?_some h1
    obtain ⟨xs, k, hk, hxy, _, hxl, hf⟩ := DataW.trod_struct Try.underlying40 h2
    match xs, hxl, cs', hlen with
    | [y0, y1, y2, y3], _, [v0, v1, v2, v3], _ =>
      have g0 := hf 0 _ rfl
      have g1 := hf 1 _ rfl
      have g2 := hf 2 _ rfl
      have g3 := hf 3 _ rfl
      simp [ccells_int] at g0 g1 g2 g3
      obtain ⟨n0, q0, _, w0⟩ := DataW.trod_int Try.underlying3 g0
      obtain ⟨n1, q1, _, w1⟩ := DataW.trod_int Try.underlying3 g1
      obtain ⟨n2, q2, _, w2⟩ := DataW.trod_int Try.underlying3 g2
      obtain ⟨n3, q3, _, w3⟩ := DataW.trod_int Try.underlying3 g3
      simp at q0 q1 q2 q3
      subst q0 q1 q2 q3
      have e0 := hcell 0 (by omega)
      have e1 := hcell 1 (by omega)
      have e2 := hcell 2 (by omega)
      have e3 := hcell 3 (by omega)
      rw [Deep.add_add] at e0 e1 e2 e3
      exact ⟨⟨n0, n1, n2, n3⟩, by simpa using e0, by simpa using e1, by simpa using e2, by simpa using e3⟩
  haveI : Inhabited Cl := ⟨⟨0, 0, 0, 0⟩⟩
  obtain ⟨q, hq⟩ := Deep.choose_lt each
  have hnth : ∀ j, j < len → cnth ((List.range len).map q) j = q j := by
    intro j hj
    simp [cnth, List.getD_eq_getElem?_getD, hj]
  refine ⟨some a', len, m, (List.range len).map q, rfl, ?_, by simp, by omega⟩
  by_cases h0 : len = 0
  · exact .inl (by simp [h0])
  · obtain ⟨b, off, spot⟩ := a'
    have hc := (hq 0 (by omega)).1
    have hspot : spot = none := by simpa [Addr.add] using World.cell?_spot hc
    subst hspot
    refine .inr ⟨b, off, rfl, clt_of_cell hc, fun j hj => ?_⟩
    have hj' : j < len := by simpa using hj
    have := hq j (by omega)
    simp only [Addr.add_lit] at this
    rw [hnth j hj']
    simpa [ClIs, Nat.add_assoc] using this
end Go.Proofs.Ytciblhkcchaobaa
