/-
  Promise P3: payments, as they lie in memory; what is wrong with them; the walks of isName, placesByRef and checkPayments.
-/
import Derived.Test.YtdfgkngfpedgdaaDoorBAcc
import Derived.Maps.OwnSet
import Derived.OpenShut
import Derived.Deep.Slices
import Derived.Lib.SmallJoins
namespace Go.Proofs.YtdfgkngfpedgdaaDoor
open Go.RowKit Go.Maps Go.WideMaps

structure Py where
  acc : ByteArray
  nam : ByteArray
  mon : Int
  ref : Int
def pnth (l : List Py) (j : Nat) : Py := l.getD j ⟨nilT, nilT, 0, 0⟩
def FitP (p : Py) : Prop := (p.acc.size ≤ 9223372036854775807 ∧ p.nam.size ≤ 9223372036854775807) ∧ (Lit.int .i64 p.mon).wf = true ∧ (Lit.int .i64 p.ref).wf = true
/-- A payment at a place. -/
def PyAt (w : World) (b o : Nat) (p : Py) : Prop := w.cell? ⟨b, o, none⟩ = some (.string p.acc) ∧ w.cell? ⟨b, o + 1, none⟩ = some (.string p.nam) ∧ w.cell? ⟨b, o + 2, none⟩ = some (.int .i64 p.mon) ∧ w.cell? ⟨b, o + 3, none⟩ = some (.int .i64 p.ref)
theorem PyAt.below {B : Nat} {w w' : World} {b o : Nat} {p : Py} (h : PyAt w b o p) (hb : Below B w w') (hB : b < B) : PyAt w' b o p :=
  ⟨(hb.cell (p := ⟨b, o, none⟩) hB).trans h.1, (hb.cell (p := ⟨b, o + 1, none⟩) hB).trans h.2.1, (hb.cell (p := ⟨b, o + 2, none⟩) hB).trans h.2.2.1, (hb.cell (p := ⟨b, o + 3, none⟩) hB).trans h.2.2.2⟩
/-- A list of payments: where it lies. -/
def CameP (w : World) (a : Option Addr) (l : List Py) : Prop := l.length = 0 ∨ ∃ b off, a = some ⟨b, off, none⟩ ∧ b < w.heap.size ∧ ∀ j, j < l.length → PyAt w b (off + j * 4) (pnth l j)
theorem CameP.below {w w' : World} {a : Option Addr} {l : List Py} (h : CameP w a l) (hb : Below w.heap.size w w') : CameP w' a l := by
  rcases h with h | ⟨b, off, rfl, hlt, h⟩
  · exact .inl h
  · exact .inr ⟨b, off, rfl, Nat.lt_of_lt_of_le hlt hb.size, fun j hj => (h j hj).below hb hlt⟩
theorem CameP.open {w : World} {a : Option Addr} {l : List Py} (h : CameP w a l) {n : Nat} (hn : l.length = n) (h0 : 0 < n) : ∃ b off, a = some ⟨b, off, none⟩ ∧ b < w.heap.size ∧ ∀ w', Below w.heap.size w w' → ∀ j, j < n → PyAt w' b (off + j * 4) (pnth l j) := by
  rcases h with h | ⟨b, off, rfl, hlt, h⟩
  · omega
  · exact ⟨b, off, rfl, hlt, fun w' hb j hj => (h j (by omega)).below hb hlt⟩
theorem pcells_int : Tryd.prog.cellsOf 3 = 1 := by kernel_rfl
theorem pcells_str : Tryd.prog.cellsOf 9 = 1 := by kernel_rfl
theorem pcells_pay : Tryd.prog.cellsOf 46 = 4 := by kernel_rfl
set_option maxRecDepth 100000 in
theorem open_pays {H : Type} {enc : TypeId × Value → H} {W : World} {fuel : Nat} {v : Value} {x : DataW H × List MemPlace}
    (h : DataW.trod enc Tryd.prog W 0 (fun _ => true) true fuel 31 [v] = some x) :
    ∃ (a : Option Addr) (len cap : Nat) (l : List Py), v = .slice a len cap ∧ CameP W a l ∧ l.length = len ∧ len ≤ maxLen ∧ ∀ j, j < len → FitP (pnth l j) := by
  rcases Deep.open_slice Tryd.underlying31 h with ⟨hcs, _⟩ | ⟨a', len, cap, m, n, D, Pl, hcs, hb, hl, hm, hmm, _, hx⟩
  · simp at hcs
    exact ⟨none, 0, 0, [], hcs, .inl rfl, rfl, Nat.zero_le _, fun j hj => by omega⟩
  simp at hcs
  subst hcs
  have hmc : m = cap := by rw [hmm]; simp
  subst hmc
  have each : ∀ i, i < m → ∃ r : Py, (W.cell? (a'.add (i * 4)) = some (.string r.acc) ∧ W.cell? (a'.add (i * 4 + 1)) = some (.string r.nam) ∧ W.cell? (a'.add (i * 4 + 2)) = some (.int .i64 r.mon) ∧ W.cell? (a'.add (i * 4 + 3)) = some (.int .i64 r.ref)) ∧ FitP r := by
    intro i hi
    obtain ⟨cs', h1, h2⟩ := hx i hi
    rw [pcells_pay] at h1
    obtain ⟨_, hlen, hcell⟩ := World.cells?_some h1
    obtain ⟨xs, k, hk, hxy, _, hxl, hf⟩ := DataW.trod_struct Tryd.underlying46 h2
    match xs, hxl, cs', hlen with
    | [y0, y1, y2, y3], _, [v0, v1, v2, v3], _ =>
      have g0 := hf 0 _ rfl
      have g1 := hf 1 _ rfl
      have g2 := hf 2 _ rfl
      have g3 := hf 3 _ rfl
      simp [pcells_int, pcells_str] at g0 g1 g2 g3
      obtain ⟨n0, q0, _, w0⟩ := DataW.trod_string Tryd.underlying9 g0
      obtain ⟨n1, q1, _, w1⟩ := DataW.trod_string Tryd.underlying9 g1
      obtain ⟨n2, q2, _, w2⟩ := DataW.trod_int Tryd.underlying3 g2
      obtain ⟨n3, q3, _, w3⟩ := DataW.trod_int Tryd.underlying3 g3
      simp at q0 q1 q2 q3
      subst q0 q1 q2 q3
      have e0 := hcell 0 (by omega)
      have e1 := hcell 1 (by omega)
      have e2 := hcell 2 (by omega)
      have e3 := hcell 3 (by omega)
      rw [Deep.add_add] at e0 e1 e2 e3
      exact ⟨⟨n0, n1, n2, n3⟩, ⟨by simpa using e0, by simpa using e1, by simpa using e2, by simpa using e3⟩, ⟨by unfold maxLen at w0; omega, by unfold maxLen at w1; omega⟩, w2, w3⟩
  haveI : Inhabited Py := ⟨⟨nilT, nilT, 0, 0⟩⟩
  obtain ⟨q, hq⟩ := Deep.choose_lt each
  have hnth : ∀ j, j < len → pnth ((List.range len).map q) j = q j := by
    intro j hj
    simp [pnth, List.getD_eq_getElem?_getD, hj]
  refine ⟨some a', len, m, (List.range len).map q, rfl, ?_, by simp, by omega, fun j hj => by rw [hnth j hj]; exact (hq j (by omega)).2⟩
  by_cases h0 : len = 0
  · exact .inl (by simp [h0])
  · obtain ⟨b, off, spot⟩ := a'
    have hc := (hq 0 (by omega)).1.1
    have hspot : spot = none := by simpa [Addr.add] using World.cell?_spot hc
    subst hspot
    refine .inr ⟨b, off, rfl, lt_of_cell hc, fun j hj => ?_⟩
    have hj' : j < len := by simpa using hj
    have := (hq j (by omega)).1
    simp only [Addr.add_lit] at this
    rw [hnth j hj']
    simpa [PyAt, Nat.add_assoc] using this
/-- What is wrong with one. -/
def rngB (p : Py) : Bool := decide ((1 ≤ p.mon ∧ p.mon ≤ 1000000000000) ∧ 0 ≤ p.ref ∧ p.ref ≤ 999999)
def wrongP (p : Py) : Int := if (accB p.acc && nameB p.nam) = true then (if rngB p = true then 0 else 3) else 1
theorem wrongP_acc {p : Py} (h : accB p.acc = false) : wrongP p = 1 := by unfold wrongP; rw [h]; rfl
theorem wrongP_nam {p : Py} (h : nameB p.nam = false) : wrongP p = 1 := by unfold wrongP; rw [h, Bool.and_false]; rfl
theorem wrongP_rng {p : Py} (h : accB p.acc = true) (h2 : nameB p.nam = true) (h3 : ¬ ((1 ≤ p.mon ∧ p.mon ≤ 1000000000000) ∧ 0 ≤ p.ref ∧ p.ref ≤ 999999)) : wrongP p = 3 := by unfold wrongP rngB; rw [h, h2, decide_eq_false h3]; rfl
theorem wrongP_ok {p : Py} (h : accB p.acc = true) (h2 : nameB p.nam = true) (h3 : (1 ≤ p.mon ∧ p.mon ≤ 1000000000000) ∧ 0 ≤ p.ref ∧ p.ref ≤ 999999) : wrongP p = 0 := by unfold wrongP rngB; rw [h, h2, decide_eq_true h3]; rfl
theorem wrongP_zero {p : Py} (h : wrongP p = 0) : accB p.acc = true ∧ nameB p.nam = true ∧ (1 ≤ p.mon ∧ p.mon ≤ 1000000000000) ∧ 0 ≤ p.ref ∧ p.ref ≤ 999999 := by
  cases h1 : accB p.acc
  · rw [wrongP_acc h1] at h; omega
  · cases h2 : nameB p.nam
    · rw [wrongP_nam h2] at h; omega
    · by_cases h3 : (1 ≤ p.mon ∧ p.mon ≤ 1000000000000) ∧ 0 ≤ p.ref ∧ p.ref ≤ 999999
      · exact ⟨rfl, rfl, h3⟩
      · rw [wrongP_rng h1 h2 h3] at h; omega
def firstP (l : List Py) : Nat → Int
  | 0 => 0
  | k + 1 => if firstP l k = 0 then wrongP (pnth l k) else firstP l k
theorem firstP_ok {l : List Py} : ∀ {k : Nat}, (∀ j, j < k → wrongP (pnth l j) = 0) → firstP l k = 0
  | 0, _ => rfl
  | k + 1, h => by rw [firstP, firstP_ok (k := k) (fun j hj => h j (by omega)), if_pos rfl, h k (by omega)]
theorem firstP_at {l : List Py} {k : Nat} (h : ∀ j, j < k → wrongP (pnth l j) = 0) (hk : wrongP (pnth l k) ≠ 0) : ∀ {n : Nat}, k < n → firstP l n = wrongP (pnth l k)
  | 0, hn => by omega
  | n + 1, hn => by
    by_cases e : k = n
    · subst e; rw [firstP, firstP_ok h, if_pos rfl]
    · rw [firstP, firstP_at h hk (n := n) (by omega), if_neg hk]
/-- Has one of the first k this ref? Have two of them one? How many are there? -/
def metR (l : List Py) (x : Int) : Nat → Bool
  | 0 => false
  | k + 1 => metR l x k || (pnth l k).ref == x
def dupB (l : List Py) : Nat → Bool
  | 0 => false
  | k + 1 => dupB l k || metR l (pnth l k).ref k
def cntR (l : List Py) : Nat → Nat
  | 0 => 0
  | k + 1 => if metR l (pnth l k).ref k then cntR l k else cntR l k + 1
theorem cntR_dup (l : List Py) : ∀ k, cntR l k ≤ k ∧ (cntR l k < k ↔ dupB l k = true)
  | 0 => ⟨Nat.le_refl _, by simp [cntR, dupB]⟩
  | k + 1 => by
    obtain ⟨h1, h2⟩ := cntR_dup l k
    rw [cntR, dupB]
    cases hm : metR l (pnth l k).ref k
    · rw [if_neg (by simp), Bool.or_false, ← h2]
      exact ⟨by omega, by omega⟩
    · rw [if_pos rfl, Bool.or_true]
      exact ⟨by omega, ⟨fun _ => rfl, fun _ => by omega⟩⟩
/-- What is wrong with payments. -/
def payE (l : List Py) (n : Nat) : Int := if 300 < n then 2 else if firstP l n = 0 then (if dupB l n = true then 6 else 0) else firstP l n
theorem payE_many {l : List Py} {n : Nat} (h : 300 < n) : payE l n = 2 := if_pos h
theorem payE_at {l : List Py} {n k : Nat} (hn : ¬ 300 < n) (h : ∀ j, j < k → wrongP (pnth l j) = 0) (hk : wrongP (pnth l k) ≠ 0) (hkn : k < n) : payE l n = wrongP (pnth l k) := by
  unfold payE; rw [if_neg hn, firstP_at h hk hkn, if_neg hk]
theorem payE_all {l : List Py} {n : Nat} (hn : ¬ 300 < n) (h : ∀ j, j < n → wrongP (pnth l j) = 0) : payE l n = if dupB l n = true then 6 else 0 := by
  unfold payE; rw [if_neg hn, firstP_ok h, if_pos rfl]
theorem firstP_zero {l : List Py} : ∀ {n : Nat}, firstP l n = 0 → ∀ j, j < n → wrongP (pnth l j) = 0
  | 0, _, j, hj => by omega
  | n + 1, h, j, hj => by
    rw [firstP] at h
    by_cases h0 : firstP l n = 0
    · rw [if_pos h0] at h
      by_cases e : j = n
      · subst e; exact h
      · exact firstP_zero h0 j (by omega)
    · rw [if_neg h0] at h; exact absurd h h0
theorem payE_zero {l : List Py} {n : Nat} (h : payE l n = 0) : n ≤ 300 ∧ (∀ j, j < n → wrongP (pnth l j) = 0) ∧ dupB l n = false := by
  unfold payE at h
  by_cases h1 : 300 < n
  · rw [if_pos h1] at h; omega
  · rw [if_neg h1] at h
    by_cases h2 : firstP l n = 0
    · rw [if_pos h2] at h
      cases h3 : dupB l n
      · exact ⟨by omega, firstP_zero h2, rfl⟩
      · rw [if_pos h3] at h; omega
    · rw [if_neg h2] at h; exact absurd h h2
set_option maxRecDepth 100000 in
set_option maxHeartbeats 1000000 in
theorem isName_any (s : ByteArray) (w : World) (hs : s.size ≤ 9223372036854775807) : Calls Tryd.prog 50 #[.string s] w fun e w' => e = .returned (.bool (nameB s)) ∧ Below w.heap.size w w' := by
  by_cases h0 : s.size = 0
  · have hE : s.toList.isEmpty = true := by rw [ByteArray.toList_eq]; rw [size_toList] at h0; simp [List.eq_nil_of_length_eq_zero h0]
    have HF : Hid (nameB s = false) := by unfold Hid nameB; rw [decide_eq_false (by omega), Bool.and_false]
    clear h0
    go_enter Tryd.func50, Tryd.ntmps50
    go_wp2_with fail
    go_ret
    exact ⟨tret_bool HF.out.symm, Below.refl _ _⟩
  · have hE : s.toList.isEmpty = false := by
      rw [ByteArray.toList_eq]
      rw [size_toList] at h0
      cases h : s.data.toList with
      | nil => rw [h] at h0; exact absurd rfl h0
      | cons a b => rfl
    by_cases h12 : s.size ≤ 12
    · have h12' : (s.size : Int) ≤ 12 := by omega
      have HF : Hid (nameB s = allT letB s) := by unfold Hid nameB; rw [decide_eq_true (by omega), Bool.and_true]
      clear h0
      go_enter Tryd.func50, Tryd.ntmps50
      go_wp2_with fail
      refine (isAll_let s _).mono ?_
      rintro e w1 ⟨rfl, hb1⟩
      have HB1 := Lib.hid hb1
      clear hb1
      go_wp2_with fail
      go_ret
      exact ⟨tret_bool HF.out.symm, HB1.out⟩
    · have h12B : decide ((s.size : Int) ≤ 12) = false := decide_eq_false (by omega)
      have h12N : decide (s.size ≤ 12) = false := decide_eq_false h12
      have HF : Hid (nameB s = false) := by unfold Hid nameB; rw [decide_eq_false (by omega), Bool.and_false]
      clear h0
      go_enter Tryd.func50, Tryd.ntmps50
      go_wp2_with fail
      go_ret
      exact ⟨tret_bool HF.out.symm, Below.refl _ _⟩
end Go.Proofs.YtdfgkngfpedgdaaDoor
