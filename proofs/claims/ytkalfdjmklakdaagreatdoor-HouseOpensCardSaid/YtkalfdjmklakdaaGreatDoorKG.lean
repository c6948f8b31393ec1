/-
  Rows of a history: how they lie in memory, how a list of them that came in is opened; when a history is right.
  Promise D1: when a history is right; walks of isRow, Check and of the reference's CheckHistory.
  Promise D2: what holds at a day, as known at another one; walks of check, holds, At and of the reference's Holds and HistoryAt.
  Promise D2: the walk of holds.
-/
import Derived.Test.YtkalfdjmklakdaaGreatDoorKA
import Derived.Lib.Hide
import Derived.Deep.Slices
import Derived.ChangeSame
namespace Go.Proofs.YtkalfdjmklakdaaGreatDoor.Hst
open Go.RowKit
theorem cret_bool {a b : Bool} (h : a = b) : Ending.returned (.bool a) = .returned (.bool b) := by rw [h]
theorem cret_int {k : IntKind} {a b : Int} (h : a = b) : Ending.returned (.int k a) = .returned (.int k b) := by rw [h]
structure Rw where
 frm : Int
 seen : Int
 val : Int
 gone : Bool
def rnth (l : List Rw) (j : Nat) : Rw := l.getD j ⟨0, 0, 0, false⟩
def RAt (w : World) (b off : Nat) (l : List Rw) : Prop := b < w.heap.size ∧ ∀ j, j < l.length → w.cell? ⟨b, off + j * 4, none⟩ = some (.int .i64 (rnth l j).frm) ∧ w.cell? ⟨b, off + j * 4 + 1, none⟩ = some (.int .i64 (rnth l j).seen) ∧ w.cell? ⟨b, off + j * 4 + 2, none⟩ = some (.int .i64 (rnth l j).val) ∧ w.cell? ⟨b, off + j * 4 + 3, none⟩ = some (.bool (rnth l j).gone)
theorem RAt.below {B : Nat} {w w' : World} {b off : Nat} {l : List Rw} (h : RAt w b off l) (hb : Below B w w') (hB : b < B) : RAt w' b off l :=
 ⟨Nat.lt_of_lt_of_le h.1 hb.size, fun j hj => ⟨(hb.cell (p := ⟨b, off + j * 4, none⟩) hB).trans (h.2 j hj).1, (hb.cell (p := ⟨b, off + j * 4 + 1, none⟩) hB).trans (h.2 j hj).2.1, (hb.cell (p := ⟨b, off + j * 4 + 2, none⟩) hB).trans (h.2 j hj).2.2.1, (hb.cell (p := ⟨b, off + j * 4 + 3, none⟩) hB).trans (h.2 j hj).2.2.2⟩⟩
def CameR (w : World) (a : Option Addr) (l : List Rw) : Prop := l.length = 0 ∨ ∃ b off, a = some ⟨b, off, none⟩ ∧ RAt w b off l
theorem CameR.below {w w' : World} {a : Option Addr} {l : List Rw} (h : CameR w a l) (hb : Below w.heap.size w w') : CameR w' a l := by
 rcases h with h | ⟨b, off, rfl, h⟩
 ·exact .inl h
 ·exact .inr ⟨b, off, rfl, h.below hb h.1⟩
theorem rlt_of_cell {W : World} {p : Addr} {v : Value} (h : W.cell? p = some v) : p.block < W.heap.size := by
 by_cases hb : p.block < W.heap.size
 ·exact hb
 ·have : W.heap[p.block]? = none := Array.getElem?_eq_none (by omega)
  simp [World.cell?, this] at h
def RowWf (r : Rw) : Prop := (Lit.int .i64 r.frm).wf = true ∧ (Lit.int .i64 r.seen).wf = true ∧ (Lit.int .i64 r.val).wf = true
theorem cells_row : Tryz.prog.cellsOf 52 = 4 := by kernel_rfl
theorem cells_int : Tryz.prog.cellsOf 3 = 1 := by kernel_rfl
theorem cells_bool : Tryz.prog.cellsOf 4 = 1 := by kernel_rfl
set_option maxRecDepth 100000 in
theorem open_rows {H : Type} {enc : TypeId × Value → H} {W : World} {fuel : Nat} {a : Option Addr} {len cap : Nat} {x : DataW H × List MemPlace}
 (h : DataW.trod enc Tryz.prog W 0 (fun _ => true) true fuel 58 [.slice a len cap] = some x) :
 ∃ l : List Rw, CameR W a l ∧ l.length = len ∧ len ≤ maxLen ∧ ∀ r ∈ l, RowWf r := by
 rcases Deep.open_slice Tryz.underlying58 h with ⟨hcs, _⟩ | ⟨a', len', cap', m, n, D, Pl, hcs, hb, hl, hm, hmm, _, hx⟩
 ·simp at hcs
  obtain ⟨rfl, rfl, rfl⟩ := hcs
  exact ⟨[], .inl rfl, rfl, Nat.zero_le _, by simp⟩
 simp at hcs
 obtain ⟨rfl, rfl, rfl⟩ := hcs
 have hmc : m = cap := by rw [hmm]; simp
 subst hmc
 have each : ∀ i, i < m → ∃ r : Rw, RowWf r ∧ W.cell? (a'.add (i * 4)) = some (.int .i64 r.frm) ∧ W.cell? (a'.add (i * 4 + 1)) = some (.int .i64 r.seen) ∧ W.cell? (a'.add (i * 4 + 2)) = some (.int .i64 r.val) ∧ W.cell? (a'.add (i * 4 + 3)) = some (.bool r.gone) := by
  intro i hi
  obtain ⟨cs', h1, h2⟩ := hx i hi
  rw [cells_row] at h1
  obtain ⟨_, hlen, hcell⟩ := World.cells?_some h1
  obtain ⟨xs, k, hk, hxy, _, hxl, hf⟩ := DataW.trod_struct Tryz.underlying52 h2
  match xs, hxl, cs', hlen with
  | [y0, y1, y2, y3], _, [v0, v1, v2, v3], _ =>
    have g0 := hf 0 _ rfl
    have g1 := hf 1 _ rfl
    have g2 := hf 2 _ rfl
    have g3 := hf 3 _ rfl
    simp [cells_int, cells_bool] at g0 g1 g2 g3
    obtain ⟨n0, q0, _, w0⟩ := DataW.trod_int Tryz.underlying3 g0
    obtain ⟨n1, q1, _, w1⟩ := DataW.trod_int Tryz.underlying3 g1
    obtain ⟨n2, q2, _, w2⟩ := DataW.trod_int Tryz.underlying3 g2
    obtain ⟨n3, q3, _⟩ := DataW.trod_bool Tryz.underlying4 g3
    simp at q0 q1 q2 q3
    subst q0 q1 q2 q3
    have e0 := hcell 0 (by omega)
    have e1 := hcell 1 (by omega)
    have e2 := hcell 2 (by omega)
    have e3 := hcell 3 (by omega)
    rw [Deep.add_add] at e0 e1 e2 e3
    exact ⟨⟨n0, n1, n2, n3⟩, ⟨w0, w1, w2⟩, by simpa using e0, by simpa using e1, by simpa using e2, by simpa using e3⟩
 haveI : Inhabited Rw := ⟨⟨0, 0, 0, false⟩⟩
 obtain ⟨q, hq⟩ := Deep.choose_lt each
 have hnth : ∀ j, j < len → rnth ((List.range len).map q) j = q j := by
  intro j hj
  simp [rnth, List.getD_eq_getElem?_getD, hj]
 refine ⟨(List.range len).map q, ?_, by simp, by omega, ?_⟩
 ·by_cases h0 : len = 0
  ·exact .inl (by simp [h0])
  ·obtain ⟨b, off, spot⟩ := a'
   have hc := (hq 0 (by omega)).2.1
   have hspot : spot = none := by simpa [Addr.add] using World.cell?_spot hc
   subst hspot
   refine .inr ⟨b, off, rfl, rlt_of_cell hc, fun j hj => ?_⟩
   have hj' : j < len := by simpa using hj
   have := (hq j (by omega)).2
   simp only [Addr.add_lit] at this
   rw [hnth j hj']
   simpa [Nat.add_assoc] using this
 ·intro r hr
  obtain ⟨j, hj, rfl⟩ := List.mem_map.1 hr
  exact (hq j (by have := List.mem_range.1 hj; omega)).1
end Go.Proofs.YtkalfdjmklakdaaGreatDoor.Hst
namespace Go.Proofs.YtkalfdjmklakdaaGreatDoor.Hst
open Go.RowKit
theorem below_dN {B : Nat} {a w : World} (h : Below B a w) (k : Nat) : Below B a (w.drewN k) := h.trans ⟨rfl, rfl, rfl, Nat.le_refl _, fun _ _ => rfl⟩
def dayB (n : Int) : Bool := decide (0 ≤ n ∧ n ≤ 73048)
def monB (n : Int) : Bool := decide (-1000000000000 ≤ n ∧ n ≤ 1000000000000)
theorem dayB_iff {x : Int} : dayB x = true ↔ 0 ≤ x ∧ x ≤ 73048 := by unfold dayB; exact decide_eq_true_iff
theorem isDay_any (n : Int) (w : World) : Calls Tryz.prog 22 #[.int .i64 n] w fun e w' => e = .returned (.bool (dayB n)) ∧ w' = w := by
 by_cases h1 : 0 ≤ n
 ·by_cases h2 : n ≤ 73048
  ·have H : Hid (dayB n = true) := decide_eq_true ⟨h1, h2⟩
   go_enter Tryz.func22, Tryz.ntmps22
   go_wp2
   go_ret
   exact ⟨cret_bool (by rw [H.out]; try (simp <;> omega)), rfl⟩
  ·have H : Hid (dayB n = false) := decide_eq_false (by omega)
   go_enter Tryz.func22, Tryz.ntmps22
   go_wp2
   go_ret
   exact ⟨cret_bool (by rw [H.out]; try (simp <;> omega)), rfl⟩
 ·have H : Hid (dayB n = false) := decide_eq_false (by omega)
  have hd : decide (0 ≤ n) = false := decide_eq_false h1
  go_enter Tryz.func22, Tryz.ntmps22
  go_wp2
  go_ret
  exact ⟨cret_bool (by rw [H.out]), rfl⟩
theorem isDay_ref (n : Int) (w : World) : Calls Tryz.prog 37 #[.int .i64 n] w fun e w' => e = .returned (.bool (dayB n)) ∧ w' = w := by
 by_cases h1 : 0 ≤ n
 ·by_cases h2 : n ≤ 73048
  ·have H : Hid (dayB n = true) := decide_eq_true ⟨h1, h2⟩
   go_enter Tryz.func37, Tryz.ntmps37
   go_wp2
   go_ret
   exact ⟨cret_bool (by rw [H.out]; try (simp <;> omega)), rfl⟩
  ·have H : Hid (dayB n = false) := decide_eq_false (by omega)
   go_enter Tryz.func37, Tryz.ntmps37
   go_wp2
   go_ret
   exact ⟨cret_bool (by rw [H.out]; try (simp <;> omega)), rfl⟩
 ·have H : Hid (dayB n = false) := decide_eq_false (by omega)
  have hd : decide (0 ≤ n) = false := decide_eq_false h1
  go_enter Tryz.func37, Tryz.ntmps37
  go_wp2
  go_ret
  exact ⟨cret_bool (by rw [H.out]), rfl⟩
theorem isMoney_any (n : Int) (w : World) : Calls Tryz.prog 212 #[.int .i64 n] w fun e w' => e = .returned (.bool (monB n)) ∧ w' = w := by
 by_cases h1 : -1000000000000 ≤ n
 ·by_cases h2 : n ≤ 1000000000000
  ·have H : Hid (monB n = true) := decide_eq_true ⟨h1, h2⟩
   go_enter Tryz.func212, Tryz.ntmps212
   go_wp2
   go_ret
   exact ⟨cret_bool (by rw [H.out]; try (simp <;> omega)), rfl⟩
  ·have H : Hid (monB n = false) := decide_eq_false (by omega)
   go_enter Tryz.func212, Tryz.ntmps212
   go_wp2
   go_ret
   exact ⟨cret_bool (by rw [H.out]; try (simp <;> omega)), rfl⟩
 ·have H : Hid (monB n = false) := decide_eq_false (by omega)
  have hd : decide (-1000000000000 ≤ n) = false := decide_eq_false h1
  go_enter Tryz.func212, Tryz.ntmps212
  go_wp2
  go_ret
  exact ⟨cret_bool (by rw [H.out]), rfl⟩
theorem isMoney_ref (n : Int) (w : World) : Calls Tryz.prog 68 #[.int .i64 n] w fun e w' => e = .returned (.bool (monB n)) ∧ w' = w := by
 by_cases h1 : -1000000000000 ≤ n
 ·by_cases h2 : n ≤ 1000000000000
  ·have H : Hid (monB n = true) := decide_eq_true ⟨h1, h2⟩
   go_enter Tryz.func68, Tryz.ntmps68
   go_wp2
   go_ret
   exact ⟨cret_bool (by rw [H.out]; try (simp <;> omega)), rfl⟩
  ·have H : Hid (monB n = false) := decide_eq_false (by omega)
   go_enter Tryz.func68, Tryz.ntmps68
   go_wp2
   go_ret
   exact ⟨cret_bool (by rw [H.out]; try (simp <;> omega)), rfl⟩
 ·have H : Hid (monB n = false) := decide_eq_false (by omega)
  have hd : decide (-1000000000000 ≤ n) = false := decide_eq_false h1
  go_enter Tryz.func68, Tryz.ntmps68
  go_wp2
  go_ret
  exact ⟨cret_bool (by rw [H.out]), rfl⟩
def rowB (r : Rw) : Bool := dayB r.frm && dayB r.seen && monB r.val && !(r.gone && decide (r.val ≠ 0))
set_option maxHeartbeats 1000000 in
theorem isRow_any (f s v : Int) (g : Bool) (w : World) :
 Calls Tryz.prog 177 #[.agg #[.int .i64 f, .int .i64 s, .int .i64 v, .bool g]] w fun e w' => e = .returned (.bool (rowB ⟨f, s, v, g⟩)) ∧ w' = w.alloc (.cells #[.int .i64 f, .int .i64 s, .int .i64 v, .bool g] 52) := by
 cases hf : dayB f
 ·have HR : Hid (rowB ⟨f, s, v, g⟩ = false) := by unfold Hid rowB; simp [hf]
  go_enter Tryz.func177, Tryz.ntmps177
  go_wp2_with (first
   | (go_at_call 22; refine (isDay_any _ _).mono ?_; rintro e w' ⟨rfl, h'⟩; subst w')
   | (go_at_call 212; refine (isMoney_any _ _).mono ?_; rintro e w' ⟨rfl, h'⟩; subst w'))
  go_ret
  exact ⟨cret_bool (by rw [HR.out]; try simp [and_true]), rfl⟩
 ·cases hs : dayB s
  ·have HR : Hid (rowB ⟨f, s, v, g⟩ = false) := by unfold Hid rowB; simp [hs]
   go_enter Tryz.func177, Tryz.ntmps177
   go_wp2_with (first
    | (go_at_call 22; refine (isDay_any _ _).mono ?_; rintro e w' ⟨rfl, h'⟩; subst w')
    | (go_at_call 212; refine (isMoney_any _ _).mono ?_; rintro e w' ⟨rfl, h'⟩; subst w'))
   go_ret
   exact ⟨cret_bool (by rw [HR.out]; try simp [and_true]), rfl⟩
  ·cases hv : monB v
   ·have HR : Hid (rowB ⟨f, s, v, g⟩ = false) := by unfold Hid rowB; simp [hv]
    go_enter Tryz.func177, Tryz.ntmps177
    go_wp2_with (first
     | (go_at_call 22; refine (isDay_any _ _).mono ?_; rintro e w' ⟨rfl, h'⟩; subst w')
     | (go_at_call 212; refine (isMoney_any _ _).mono ?_; rintro e w' ⟨rfl, h'⟩; subst w'))
    go_ret
    exact ⟨cret_bool (by rw [HR.out]; try simp [and_true]), rfl⟩
   ·cases g
    ·have HR : Hid (rowB ⟨f, s, v, false⟩ = true) := by unfold Hid rowB; simp [hf, hs, hv]
     go_enter Tryz.func177, Tryz.ntmps177
     go_wp2_with (first
      | (go_at_call 22; refine (isDay_any _ _).mono ?_; rintro e w' ⟨rfl, h'⟩; subst w')
      | (go_at_call 212; refine (isMoney_any _ _).mono ?_; rintro e w' ⟨rfl, h'⟩; subst w'))
     go_ret
     exact ⟨cret_bool (by rw [HR.out]; try simp [and_true]), rfl⟩
    ·by_cases h0 : v = 0
     ·subst h0
      have HR : Hid (rowB ⟨f, s, 0, true⟩ = true) := by unfold Hid rowB; rw [hf, hs, hv]; simp
      go_enter Tryz.func177, Tryz.ntmps177
      go_wp2_with (first
       | (go_at_call 22; refine (isDay_any _ _).mono ?_; rintro e w' ⟨rfl, h'⟩; subst w')
       | (go_at_call 212; refine (isMoney_any _ _).mono ?_; rintro e w' ⟨rfl, h'⟩; subst w'))
      go_ret
      exact ⟨cret_bool (by rw [HR.out]; try simp [and_true]), rfl⟩
     ·have HR : Hid (rowB ⟨f, s, v, true⟩ = false) := by unfold Hid rowB; simp [h0]
      have h0B : decide (v = 0) = false := decide_eq_false h0
      go_enter Tryz.func177, Tryz.ntmps177
      go_wp2_with (first
       | (go_at_call 22; refine (isDay_any _ _).mono ?_; rintro e w' ⟨rfl, h'⟩; subst w')
       | (go_at_call 212; refine (isMoney_any _ _).mono ?_; rintro e w' ⟨rfl, h'⟩; subst w'))
      go_ret
      exact ⟨cret_bool (by rw [HR.out]; try simp [h0]), rfl⟩
def seenB (l : List Rw) : Bool := (List.range (l.length - 1)).all fun j => decide ((rnth l j).seen ≤ (rnth l (j + 1)).seen)
theorem seenB_iff {l : List Rw} : seenB l = true ↔ ∀ j, j + 1 < l.length → (rnth l j).seen ≤ (rnth l (j + 1)).seen := by
 unfold seenB
 rw [List.all_eq_true]
 constructor
 ·intro h j hj
  exact of_decide_eq_true (h j (List.mem_range.2 (by omega)))
 ·intro h j hj
  exact decide_eq_true (h j (by have := List.mem_range.1 hj; omega))
theorem seenB_not {l : List Rw} {j : Nat} (hj : j + 1 < l.length) (h : (rnth l (j + 1)).seen < (rnth l j).seen) : seenB l = false := by
 rw [Bool.eq_false_iff]
 intro e
 have := seenB_iff.1 e j hj
 omega
def rowsB (l : List Rw) : Bool := l.all rowB
theorem rowsB_nth {l : List Rw} (h : rowsB l = true) {j : Nat} (hj : j < l.length) : rowB (rnth l j) = true := by
 have : rnth l j ∈ l := by
  unfold rnth
  rw [List.getD_eq_getElem?_getD, List.getElem?_eq_getElem hj]
  exact List.getElem_mem hj
 exact List.all_eq_true.1 h _ this
theorem rowsB_of {l : List Rw} (h : ∀ j, j < l.length → rowB (rnth l j) = true) : rowsB l = true := by
 unfold rowsB
 rw [List.all_eq_true]
 intro x hx
 obtain ⟨j, hj, rfl⟩ := List.mem_iff_getElem.1 hx
 have := h j hj
 simpa [rnth, List.getD_eq_getElem?_getD, hj] using this
theorem rowsB_not {l : List Rw} {j : Nat} (hj : j < l.length) (h : rowB (rnth l j) = false) : rowsB l = false := by
 rw [Bool.eq_false_iff]
 intro e
 rw [rowsB_nth e hj] at h
 cases h
def histE (l : List Rw) : Int := if 50 < l.length then 2 else if rowsB l = false then 3 else if seenB l = false then 4 else 0
theorem histE_bd (l : List Rw) : 0 ≤ histE l ∧ histE l ≤ 4 := by
 unfold histE
 (repeat' split) <;> omega
theorem histE_ok {l : List Rw} (h : histE l = 0) : l.length ≤ 50 ∧ rowsB l = true ∧ seenB l = true := by
 unfold histE at h
 split at h
 ·cases h
 ·split at h
  ·cases h
  ·split at h
   ·cases h
   ·rename_i h1 h2 h3
    exact ⟨by omega, by simpa using h2, by simpa using h3⟩
def RowIs (w : World) (b o : Nat) (r : Rw) : Prop := w.cell? ⟨b, o, none⟩ = some (.int .i64 r.frm) ∧ w.cell? ⟨b, o + 1, none⟩ = some (.int .i64 r.seen) ∧ w.cell? ⟨b, o + 2, none⟩ = some (.int .i64 r.val) ∧ w.cell? ⟨b, o + 3, none⟩ = some (.bool r.gone)
theorem RowIs.below {B : Nat} {w w' : World} {b o : Nat} {r : Rw} (h : RowIs w b o r) (hb : Below B w w') (hB : b < B) : RowIs w' b o r :=
 ⟨(hb.cell (p := ⟨b, o, none⟩) hB).trans h.1, (hb.cell (p := ⟨b, o + 1, none⟩) hB).trans h.2.1, (hb.cell (p := ⟨b, o + 2, none⟩) hB).trans h.2.2.1, (hb.cell (p := ⟨b, o + 3, none⟩) hB).trans h.2.2.2⟩
theorem CameR.open {w : World} {a : Option Addr} {l : List Rw} (h : CameR w a l) {n : Nat} (hn : l.length = n) (h0 : 0 < n) : ∃ b off, a = some ⟨b, off, none⟩ ∧ ∀ w', Below w.heap.size w w' → ∀ k, k < n → RowIs w' b (off + k * 4) (rnth l k) := by
 rcases h with h | ⟨b, off, rfl, h⟩
 ·omega
 ·exact ⟨b, off, rfl, fun w' hb k hk => RowIs.below (h.2 k (by omega)) hb h.1⟩
set_option maxRecDepth 100000 in
set_option maxHeartbeats 2000000 in
theorem Check_any (a : Option Addr) (n cap : Nat) (l : List Rw) (w : World) (hc : CameR w a l) (hn : l.length = n) (hm : n ≤ maxLen) :
 Calls Tryz.prog 138 #[.slice a n cap] w fun e w' => e = .returned (.int .i64 (histE l)) ∧ Below w.heap.size w w' := by
 have hm' : n ≤ 9223372036854775807 := by unfold maxLen at hm; omega
 have HO := Lib.hid (fun h0 => hc.open hn h0)
 clear hm hc
 by_cases h50 : 50 < n
 ·have HE : Hid (histE l = 2) := by unfold Hid histE; rw [if_pos (by omega)]
  have h50' : (50 : Int) < (n : Int) := by omega
  go_enter Tryz.func138, Tryz.ntmps138
  go_wp2_with fail
  go_ret
  exact ⟨cret_int HE.out.symm, Below.refl _ _⟩
 ·have h50' : ¬ ((50 : Int) < (n : Int)) := by omega
  go_enter Tryz.func138, Tryz.ntmps138
  go_wp2_with fail
  go_loopw [11] (fun i wr => ∃ k : Nat, k ≤ n ∧ i = .int .i64 k ∧ (∀ j, j < k → rowB (rnth l j) = true) ∧ Below w.heap.size w wr) (fun i _ => n - (intOf i).toNat)
  case atStart => exact ⟨0, Nat.zero_le _, rfl, fun j hj => by omega, Below.refl _ _⟩
  case round =>
   obtain ⟨k, hk, rfl, hall, hb⟩ := hrel
   have HA := Lib.hid hall
   have HB := Lib.hid hb
   clear hall hb
   by_cases hlt : k < n
   ·have hlt' : (k : Int) < (n : Int) := by omega
    obtain ⟨b, off, rfl, hcell⟩ := HO.out (by omega)
    obtain ⟨x0, x1, x2, x3⟩ := hcell wr HB.out k hlt
    clear hcell
    cases hr : rowB (rnth l k)
    ·have HE : Hid (histE l = 3) := by unfold Hid histE; rw [if_neg (by omega), if_pos (rowsB_not (l := l) (j := k) (by omega) hr)]
     go_wp2_with (go_at_call 177; refine (isRow_any _ _ _ _ _).mono ?_; rintro e w' ⟨rfl, h'⟩; subst w')
     go_ret
     exact ⟨cret_int HE.out.symm, (HB.out.alloc HB.out.size _).alloc (by have := HB.out.size; simp; omega) _⟩
    ·go_wp2_with (go_at_call 177; refine (isRow_any _ _ _ _ _).mono ?_; rintro e w' ⟨rfl, h'⟩; subst w')
     go_roundw
     case rel =>
      refine ⟨k + 1, by omega, by go_num, ?_, (HB.out.alloc HB.out.size _).alloc (by have := HB.out.size; simp; omega) _⟩
      intro j hj
      by_cases e : j = k
      ·subst e; exact hr
      ·exact HA.out j (by omega)
     case measure => simp [intOf]; omega
   ·have hkn : k = n := by omega
    subst hkn
    have HL := Lib.hid (rowsB_of (l := l) (fun j hj => HA.out j (by omega)))
    have HE0 : Hid (histE l = if seenB l = false then 4 else 0) := by
     unfold Hid histE
     rw [if_neg (by omega), if_neg (by rw [HL.out]; simp)]
    clear HA HL
    go_wp2_with fail
    go_loopw [5] (fun i wr => ∃ r : Nat, (r + 1 ≤ k ∨ r = 0) ∧ i = .int .i64 ((r : Int) + 1) ∧ Below w.heap.size w wr ∧ ∀ j, j < r → (rnth l j).seen ≤ (rnth l (j + 1)).seen) (fun i _ => k - (intOf i).toNat)
    case atStart => exact ⟨0, .inr rfl, rfl, HB.out, fun j hj => by omega⟩
    case round =>
     clear HB
     obtain ⟨r, hrk, rfl, hb, hall⟩ := hrel
     have HA := Lib.hid hall
     have HB := Lib.hid hb
     clear hall hb
     by_cases hlt : r + 1 < k
     ·have hlt' : (r : Int) + 1 < (k : Int) := by omega
      have hlt0 : (r : Int) < (k : Int) := by omega
      obtain ⟨b, off, rfl, hcell⟩ := HO.out (by omega)
      obtain ⟨_, x1, _, _⟩ := hcell _ HB.out r (by omega)
      obtain ⟨_, y1, _, _⟩ := hcell _ HB.out (r + 1) (by omega)
      clear hcell
      have hsub : (r : Int) + 1 - 1 = (r : Int) := by omega
      have htn : ((r : Int) + 1).toNat = r + 1 := by omega
      by_cases hr : (rnth l (r + 1)).seen < (rnth l r).seen
      ·have HF := Lib.hid (seenB_not (l := l) (j := r) (by omega) hr)
       have HE : Hid (histE l = 4) := by unfold Hid; rw [HE0.out, if_pos HF.out]
       go_wp2_with fail
       go_quiet (fail)
       go_wp2_with fail
       go_ret
       exact ⟨cret_int HE.out.symm, below_dN HB.out _⟩
      ·have hrB : decide ((rnth l (r + 1)).seen < (rnth l r).seen) = false := decide_eq_false hr
       go_wp2_with fail
       go_quiet (fail)
       go_wp2_with fail
       go_roundw
       case rel =>
        refine ⟨r + 1, .inl (by omega), by go_num, below_dN HB.out _, ?_⟩
        intro j hj
        by_cases e : j = r
        ·subst e; omega
        ·exact HA.out j (by omega)
       case measure => simp [intOf]; omega
     ·have hnl : ¬ ((r : Int) + 1 < (k : Int)) := by omega
      have HF := Lib.hid (seenB_iff (l := l).2 (fun j hj => HA.out j (by omega)))
      have HE : Hid (histE l = 0) := by unfold Hid; rw [HE0.out, HF.out]; rfl
      go_wp2_with fail
      go_ret
      exact ⟨cret_int HE.out.symm, HB.out⟩
set_option maxRecDepth 100000 in
set_option maxHeartbeats 4000000 in
theorem check_ref (a : Option Addr) (n cap : Nat) (l : List Rw) (w : World) (hc : CameR w a l) (hn : l.length = n) (hm : n ≤ maxLen) :
 Calls Tryz.prog 18 #[.slice a n cap] w fun e w' => e = .returned (.int .i64 (histE l)) ∧ Below w.heap.size w w' := by
 have hm' : n ≤ 9223372036854775807 := by unfold maxLen at hm; omega
 have HO := Lib.hid (fun h0 => hc.open hn h0)
 clear hm hc
 by_cases h50 : 50 < n
 ·have HE : Hid (histE l = 2) := by unfold Hid histE; rw [if_pos (by omega)]
  have h50' : (50 : Int) < (n : Int) := by omega
  go_enter Tryz.func18, Tryz.ntmps18
  go_wp2_with fail
  go_ret
  exact ⟨cret_int HE.out.symm, Below.refl _ _⟩
 ·have h50' : ¬ ((50 : Int) < (n : Int)) := by omega
  go_enter Tryz.func18, Tryz.ntmps18
  go_wp2_with fail
  go_loop [3] (fun i => ∃ k : Nat, k ≤ n ∧ i = .int .i64 k ∧ (∀ j, j < k → rowB (rnth l j) = true)) (fun i => n - (intOf i).toNat)
  case atStart => exact ⟨0, Nat.zero_le _, rfl, fun j hj => by omega⟩
  case round =>
   obtain ⟨k, hk, rfl, hall⟩ := hrel
   have HA := Lib.hid hall
   clear hall
   by_cases hlt : k < n
   ·have hlt' : (k : Int) < (n : Int) := by omega
    obtain ⟨b, off, rfl, hcell⟩ := HO.out (by omega)
    obtain ⟨x0, x1, x2, x3⟩ := hcell w (Below.refl _ _) k hlt
    clear hcell
    have HNO : Hid (rowB (rnth l k) = false → histE l = 3) := fun hr => by unfold histE; rw [if_neg (by omega), if_pos (rowsB_not (l := l) (j := k) (by omega) hr)]
    have HYES : Hid (rowB (rnth l k) = true → ∀ j, j < k + 1 → rowB (rnth l j) = true) := fun hr j hj => by
     by_cases e : j = k
     ·subst e; exact hr
     ·exact HA.out j (by omega)
    generalize rnth l k = r at *
    obtain ⟨f, s, v, g⟩ := r
    simp only at x0 x1 x2 x3
    cases hf : dayB f
    ·have HE := Lib.hid (HNO.out (by unfold rowB; simp [hf]))
     go_wp2_with (first
      | (go_at_call 37; refine (isDay_ref _ _).mono ?_; rintro e w' ⟨rfl, h'⟩; subst w')
      | (go_at_call 68; refine (isMoney_ref _ _).mono ?_; rintro e w' ⟨rfl, h'⟩; subst w'))
     go_ret
     exact ⟨cret_int HE.out.symm, Below.refl _ _⟩
    ·cases hs : dayB s
     ·have HE := Lib.hid (HNO.out (by unfold rowB; simp [hs]))
      go_wp2_with (first
       | (go_at_call 37; refine (isDay_ref _ _).mono ?_; rintro e w' ⟨rfl, h'⟩; subst w')
       | (go_at_call 68; refine (isMoney_ref _ _).mono ?_; rintro e w' ⟨rfl, h'⟩; subst w'))
      go_ret
      exact ⟨cret_int HE.out.symm, Below.refl _ _⟩
     ·cases hv : monB v
      ·have HE := Lib.hid (HNO.out (by unfold rowB; simp [hv]))
       go_wp2_with (first
        | (go_at_call 37; refine (isDay_ref _ _).mono ?_; rintro e w' ⟨rfl, h'⟩; subst w')
        | (go_at_call 68; refine (isMoney_ref _ _).mono ?_; rintro e w' ⟨rfl, h'⟩; subst w'))
       go_ret
       exact ⟨cret_int HE.out.symm, Below.refl _ _⟩
      ·cases g
       ·have HY := Lib.hid (HYES.out (by unfold rowB; simp [hf, hs, hv]))
        go_wp2_with (first
         | (go_at_call 37; refine (isDay_ref _ _).mono ?_; rintro e w' ⟨rfl, h'⟩; subst w')
         | (go_at_call 68; refine (isMoney_ref _ _).mono ?_; rintro e w' ⟨rfl, h'⟩; subst w'))
        go_round
        case rel => exact ⟨k + 1, by omega, by go_num, HY.out⟩
        case measure => simp [intOf]; omega
       ·by_cases h0 : v = 0
        ·have HY := Lib.hid (HYES.out (by unfold rowB; rw [hf, hs, hv]; simp [h0]))
         go_wp2_with (first
          | (go_at_call 37; refine (isDay_ref _ _).mono ?_; rintro e w' ⟨rfl, h'⟩; subst w')
          | (go_at_call 68; refine (isMoney_ref _ _).mono ?_; rintro e w' ⟨rfl, h'⟩; subst w'))
         go_round
         case rel => exact ⟨k + 1, by omega, by go_num, HY.out⟩
         case measure => simp [intOf]; omega
        ·have HE := Lib.hid (HNO.out (by unfold rowB; simp [h0]))
         have h0B : decide (v = 0) = false := decide_eq_false h0
         go_wp2_with (first
          | (go_at_call 37; refine (isDay_ref _ _).mono ?_; rintro e w' ⟨rfl, h'⟩; subst w')
          | (go_at_call 68; refine (isMoney_ref _ _).mono ?_; rintro e w' ⟨rfl, h'⟩; subst w'))
         go_ret
         exact ⟨cret_int HE.out.symm, Below.refl _ _⟩
   ·have hkn : k = n := by omega
    subst hkn
    have HL := Lib.hid (rowsB_of (l := l) (fun j hj => HA.out j (by omega)))
    have HE0 : Hid (histE l = if seenB l = false then 4 else 0) := by
     unfold Hid histE
     rw [if_neg (by omega), if_neg (by rw [HL.out]; simp)]
    have HB := Lib.hid (Below.refl w.heap.size w)
    clear HA HL
    go_wp2_with fail
    go_loopw [4] (fun i wr => ∃ r : Nat, (r + 1 ≤ k ∨ r = 0) ∧ i = .int .i64 ((r : Int) + 1) ∧ Below w.heap.size w wr ∧ ∀ j, j < r → (rnth l j).seen ≤ (rnth l (j + 1)).seen) (fun i _ => k - (intOf i).toNat)
    case atStart => exact ⟨0, .inr rfl, rfl, HB.out, fun j hj => by omega⟩
    case round =>
     clear HB
     obtain ⟨r, hrk, rfl, hb, hall⟩ := hrel
     have HA := Lib.hid hall
     have HB := Lib.hid hb
     clear hall hb
     by_cases hlt : r + 1 < k
     ·have hlt' : (r : Int) + 1 < (k : Int) := by omega
      have hlt0 : (r : Int) < (k : Int) := by omega
      obtain ⟨b, off, rfl, hcell⟩ := HO.out (by omega)
      obtain ⟨_, x1, _, _⟩ := hcell _ HB.out r (by omega)
      obtain ⟨_, y1, _, _⟩ := hcell _ HB.out (r + 1) (by omega)
      clear hcell
      have hsub : (r : Int) + 1 - 1 = (r : Int) := by omega
      have htn : ((r : Int) + 1).toNat = r + 1 := by omega
      by_cases hr : (rnth l (r + 1)).seen < (rnth l r).seen
      ·have HF := Lib.hid (seenB_not (l := l) (j := r) (by omega) hr)
       have HE : Hid (histE l = 4) := by unfold Hid; rw [HE0.out, if_pos HF.out]
       go_wp2_with fail
       go_quiet (fail)
       go_wp2_with fail
       go_ret
       exact ⟨cret_int HE.out.symm, below_dN HB.out _⟩
      ·have hrB : decide ((rnth l (r + 1)).seen < (rnth l r).seen) = false := decide_eq_false hr
       go_wp2_with fail
       go_quiet (fail)
       go_wp2_with fail
       go_roundw
       case rel =>
        refine ⟨r + 1, .inl (by omega), by go_num, below_dN HB.out _, ?_⟩
        intro j hj
        by_cases e : j = r
        ·subst e; omega
        ·exact HA.out j (by omega)
       case measure => simp [intOf]; omega
     ·have hnl : ¬ ((r : Int) + 1 < (k : Int)) := by omega
      have HF := Lib.hid (seenB_iff (l := l).2 (fun j hj => HA.out j (by omega)))
      have HE : Hid (histE l = 0) := by unfold Hid; rw [HE0.out, HF.out]; rfl
      go_wp2_with fail
      go_ret
      exact ⟨cret_int HE.out.symm, HB.out⟩
end Go.Proofs.YtkalfdjmklakdaaGreatDoor.Hst
namespace Go.Proofs.YtkalfdjmklakdaaGreatDoor.Hst
open Go.RowKit
def best (l : List Rw) (d s : Int) : Nat → Rw
 | 0 => ⟨-1, 0, 0, true⟩
 | k + 1 => if (rnth l k).seen ≤ s ∧ (rnth l k).frm ≤ d ∧ (best l d s k).frm ≤ (rnth l k).frm then rnth l k else best l d s k
theorem best_yes {l : List Rw} {d s : Int} {k : Nat} (h1 : (rnth l k).seen ≤ s) (h2 : (rnth l k).frm ≤ d) (h3 : (best l d s k).frm ≤ (rnth l k).frm) : best l d s (k + 1) = rnth l k := if_pos ⟨h1, h2, h3⟩
theorem best_no {l : List Rw} {d s : Int} {k : Nat} (h : ¬ ((rnth l k).seen ≤ s ∧ (rnth l k).frm ≤ d ∧ (best l d s k).frm ≤ (rnth l k).frm)) : best l d s (k + 1) = best l d s k := if_neg h
def atV (r : Rw) : Int := if r.gone = true then 0 else r.val
def atS (r : Rw) : Bool := !r.gone
def RBox (w : World) (g : Nat) (r : Rw) : Prop := RowIs w g 0 r ∧ w.frozen? ⟨g, 0, none⟩ = false ∧ w.frozen? ⟨g, 1, none⟩ = false ∧ w.frozen? ⟨g, 2, none⟩ = false ∧ w.frozen? ⟨g, 3, none⟩ = false
theorem RBox.lt {w : World} {g : Nat} {r : Rw} (h : RBox w g r) : g < w.heap.size := rlt_of_cell h.1.1
theorem RBox.made (w : World) (f s v : Int) (b : Bool) (t : TypeId) : RBox (w.alloc (.cells #[.int .i64 f, .int .i64 s, .int .i64 v, .bool b] t)) w.heap.size ⟨f, s, v, b⟩ := by
 refine ⟨⟨?_, ?_, ?_, ?_⟩, ?_, ?_, ?_, ?_⟩ <;> simp
theorem RBox.alloc {w : World} {g : Nat} {r : Rw} (h : RBox w g r) (o : Obj) : RBox (w.alloc o) g r := by
 have hg := h.lt
 obtain ⟨⟨a0, a1, a2, a3⟩, b0, b1, b2, b3⟩ := h
 refine ⟨⟨?_, ?_, ?_, ?_⟩, ?_, ?_, ?_, ?_⟩
 ·rw [World.cell?_alloc_past (w := w) o g _ hg]; exact a0
 ·rw [World.cell?_alloc_past (w := w) o g _ hg]; exact a1
 ·rw [World.cell?_alloc_past (w := w) o g _ hg]; exact a2
 ·rw [World.cell?_alloc_past (w := w) o g _ hg]; exact a3
 ·rw [World.frozen?_alloc_past (w := w) o g _ hg]; exact b0
 ·rw [World.frozen?_alloc_past (w := w) o g _ hg]; exact b1
 ·rw [World.frozen?_alloc_past (w := w) o g _ hg]; exact b2
 ·rw [World.frozen?_alloc_past (w := w) o g _ hg]; exact b3
theorem RBox.set {w : World} {g : Nat} {r : Rw} (h : RBox w g r) (f s v : Int) (b : Bool) : RBox ((((w.setCell ⟨g, 0, none⟩ (.int .i64 f)).setCell ⟨g, 1, none⟩ (.int .i64 s)).setCell ⟨g, 2, none⟩ (.int .i64 v)).setCell ⟨g, 3, none⟩ (.bool b)) g ⟨f, s, v, b⟩ := by
 obtain ⟨⟨a0, a1, a2, a3⟩, b0, b1, b2, b3⟩ := h
 simp only [Nat.zero_add] at a1 a2 a3
 have n01 : (⟨g, 0, none⟩ : Addr) ≠ ⟨g, 1, none⟩ := by simp
 have n02 : (⟨g, 0, none⟩ : Addr) ≠ ⟨g, 2, none⟩ := by simp
 have n03 : (⟨g, 0, none⟩ : Addr) ≠ ⟨g, 3, none⟩ := by simp
 have n12 : (⟨g, 1, none⟩ : Addr) ≠ ⟨g, 2, none⟩ := by simp
 have n13 : (⟨g, 1, none⟩ : Addr) ≠ ⟨g, 3, none⟩ := by simp
 have n23 : (⟨g, 2, none⟩ : Addr) ≠ ⟨g, 3, none⟩ := by simp
 refine ⟨⟨?_, ?_, ?_, ?_⟩, ?_, ?_, ?_, ?_⟩
 ·rw [World.cell?_setCell_other (h := n03.symm), World.cell?_setCell_other (h := n02.symm), World.cell?_setCell_other (h := n01.symm)]
  exact World.cell?_setCell_same _ _ _ a0
 ·rw [Nat.zero_add, World.cell?_setCell_other (h := n13.symm), World.cell?_setCell_other (h := n12.symm)]
  exact World.cell?_setCell_same _ _ _ ((World.cell?_setCell_other _ _ _ _ n01).trans a1)
 ·rw [Nat.zero_add, World.cell?_setCell_other (h := n23.symm)]
  exact World.cell?_setCell_same _ _ _ ((World.cell?_setCell_other _ _ _ _ n12).trans ((World.cell?_setCell_other _ _ _ _ n02).trans a2))
 ·rw [Nat.zero_add]
  exact World.cell?_setCell_same _ _ _ ((World.cell?_setCell_other _ _ _ _ n23).trans ((World.cell?_setCell_other _ _ _ _ n13).trans ((World.cell?_setCell_other _ _ _ _ n03).trans a3)))
 ·simp only [World.frozen?_setCell]; exact b0
 ·simp only [World.frozen?_setCell]; exact b1
 ·simp only [World.frozen?_setCell]; exact b2
 ·simp only [World.frozen?_setCell]; exact b3
def HBox (w : World) (g : Nat) : Prop := (∃ u, w.cell? ⟨g, 0, none⟩ = some u) ∧ (∃ u, w.cell? ⟨g, 1, none⟩ = some u) ∧ w.frozen? ⟨g, 0, none⟩ = false ∧ w.frozen? ⟨g, 1, none⟩ = false
theorem HBox.lt {w : World} {g : Nat} (h : HBox w g) : g < w.heap.size := by obtain ⟨⟨u, hu⟩, _⟩ := h; exact rlt_of_cell hu
theorem HBox.made (w : World) (u v : Value) (t : TypeId) : HBox (w.alloc (.cells #[u, v] t)) w.heap.size := by
 refine ⟨⟨u, ?_⟩, ⟨v, ?_⟩, ?_, ?_⟩ <;> simp
theorem HBox.alloc {w : World} {g : Nat} (h : HBox w g) (o : Obj) : HBox (w.alloc o) g := by
 have hg := h.lt
 obtain ⟨⟨u, hu⟩, ⟨v, hv⟩, b0, b1⟩ := h
 refine ⟨⟨u, ?_⟩, ⟨v, ?_⟩, ?_, ?_⟩
 ·rw [World.cell?_alloc_past (w := w) o g _ hg]; exact hu
 ·rw [World.cell?_alloc_past (w := w) o g _ hg]; exact hv
 ·rw [World.frozen?_alloc_past (w := w) o g _ hg]; exact b0
 ·rw [World.frozen?_alloc_past (w := w) o g _ hg]; exact b1
theorem HBox.other {w : World} {g : Nat} (h : HBox w g) {p : Addr} (hp : p.block ≠ g) (x : Value) : HBox (w.setCell p x) g := by
 obtain ⟨⟨u, hu⟩, ⟨v, hv⟩, b0, b1⟩ := h
 have n : ∀ j, p ≠ ⟨g, j, none⟩ := fun j e => hp (congrArg Addr.block e)
 refine ⟨⟨u, ?_⟩, ⟨v, ?_⟩, ?_, ?_⟩
 ·rw [World.cell?_setCell_other (h := n 0)]; exact hu
 ·rw [World.cell?_setCell_other (h := n 1)]; exact hv
 ·rw [World.frozen?_setCell]; exact b0
 ·rw [World.frozen?_setCell]; exact b1
theorem HBox.put {w : World} {g : Nat} (h : HBox w g) (x y : Value) : ((w.setCell ⟨g, 0, none⟩ x).setCell ⟨g, 1, none⟩ y).cell? ⟨g, 0, none⟩ = some x ∧ ((w.setCell ⟨g, 0, none⟩ x).setCell ⟨g, 1, none⟩ y).cell? ⟨g, 1, none⟩ = some y := by
 obtain ⟨⟨u, hu⟩, ⟨v, hv⟩, b0, b1⟩ := h
 have n01 : (⟨g, 0, none⟩ : Addr) ≠ ⟨g, 1, none⟩ := by simp
 constructor
 ·rw [World.cell?_setCell_other (h := n01.symm)]
  exact World.cell?_setCell_same _ _ _ hu
 ·exact World.cell?_setCell_same _ _ _ ((World.cell?_setCell_other _ _ _ _ n01).trans hv)
end Go.Proofs.YtkalfdjmklakdaaGreatDoor.Hst
namespace Go.Proofs.YtkalfdjmklakdaaGreatDoor.Hst
open Go.RowKit
def dayE (l : List Rw) (q : List Int) : Int := if histE l ≠ 0 then histE l else if q.all dayB = true then 0 else 3
theorem dayE_bad {l : List Rw} (q : List Int) (h : histE l ≠ 0) : dayE l q = histE l := if_pos h
theorem dayE_ok {l : List Rw} {q : List Int} (h : dayE l q = 0) : histE l = 0 ∧ q.all dayB = true := by
 unfold dayE at h
 split at h
 ·contradiction
 ·split at h
  ·rename_i h1 h2
   exact ⟨by simpa using h1, h2⟩
  ·cases h
theorem all_nth {P : Int → Bool} {l : List Int} (h : ∀ j, j < l.length → P (nth l j) = true) : l.all P = true := by
 rw [List.all_eq_true]
 intro x hx
 obtain ⟨j, hj, rfl⟩ := List.mem_iff_getElem.1 hx
 have := h j hj
 simpa [nth, List.getD_eq_getElem?_getD, hj] using this
theorem not_all_nth {P : Int → Bool} {l : List Int} {j : Nat} (hj : j < l.length) (h : P (nth l j) = false) : l.all P = false := by
 rw [Bool.eq_false_iff]
 intro e
 have : nth l j ∈ l := by
  unfold nth
  rw [List.getD_eq_getElem?_getD, List.getElem?_eq_getElem hj]
  exact List.getElem_mem hj
 rw [List.all_eq_true.1 e _ this] at h
 cases h
theorem two_cells (w : World) (d e : Int) : ∀ k, k < 2 → (w.alloc (.cells #[.int .i64 d, .int .i64 e] 3)).cell? ⟨w.heap.size, k, none⟩ = some (.int .i64 (nth [d, e] k)) := by
 intro k hk
 have : k = 0 ∨ k = 1 := by omega
 rcases this with rfl | rfl
 ·simp [nth]
 ·simp [nth]
def AtIs (l : List Rw) (d s v : Int) (b : Bool) (e : Int) : Prop := (dayE l [d, s] ≠ 0 ∧ v = 0 ∧ b = false ∧ e = dayE l [d, s]) ∨ (dayE l [d, s] = 0 ∧ v = atV (best l d s l.length) ∧ b = atS (best l d s l.length) ∧ e = 0)
theorem AtIs.unique {l : List Rw} {d s v e v' e' : Int} {b b' : Bool} (h : AtIs l d s v b e) (h' : AtIs l d s v' b' e') : v = v' ∧ b = b' ∧ e = e' := by
 rcases h with ⟨a1, a2, a3, a4⟩ | ⟨a1, a2, a3, a4⟩ <;> rcases h' with ⟨b1, b2, b3, b4⟩ | ⟨b1, b2, b3, b4⟩
 ·exact ⟨by omega, by rw [a3, b3], by omega⟩
 ·exact absurd b1 a1
 ·exact absurd a1 b1
 ·exact ⟨by omega, by rw [a3, b3], by omega⟩
end Go.Proofs.YtkalfdjmklakdaaGreatDoor.Hst
