/-
  Promise D2: the walk of Put: what comes is a new list, with the row at its end.
-/
import Derived.Test.YtjokgohnpnhhdaaHCheck
import Derived.Deep.RegionLaw
import Derived.Laws.IdiomCopy
import Derived.Laws.MakeOwn
import Derived.OwnWalk
namespace Go.Proofs.Ytjokgohnpnhhdaa
open Go.RowKit

def rowV (r : Rw) : List Value := [.int .i64 r.frm, .int .i64 r.seen, .int .i64 r.val, .bool r.gone]
def cellsR : List Rw → List Value
  | [] => []
  | r :: l => rowV r ++ cellsR l
theorem cellsR_length : ∀ l : List Rw, (cellsR l).length = l.length * 4
  | [] => rfl
  | r :: l => by
    rw [cellsR, List.length_append, cellsR_length l, List.length_cons]
    simp [rowV]
    omega
theorem cellsR_append : ∀ l m : List Rw, cellsR (l ++ m) = cellsR l ++ cellsR m
  | [], _ => rfl
  | r :: l, m => by rw [List.cons_append, cellsR, cellsR, cellsR_append l m, List.append_assoc]
theorem cellsR_one (r : Rw) : cellsR [r] = rowV r := by simp [cellsR]
theorem rnth_cons (r : Rw) (l : List Rw) (k : Nat) : rnth (r :: l) (k + 1) = rnth l k := rfl
theorem rnth_zero (r : Rw) (l : List Rw) : rnth (r :: l) 0 = r := rfl
theorem cellsR_get : ∀ (l : List Rw) (k c : Nat), k < l.length → c < 4 → (cellsR l)[k * 4 + c]? = (rowV (rnth l k))[c]?
  | [], k, c, hk, _ => absurd hk (by simp)
  | r :: l, 0, c, _, hc => by
    rw [cellsR, rnth_zero, List.getElem?_append_left (by simp [rowV]; omega), Nat.zero_mul, Nat.zero_add]
  | r :: l, k + 1, c, hk, hc => by
    rw [cellsR, rnth_cons, List.getElem?_append_right (by simp [rowV]; omega), ← cellsR_get l k c (by simpa using hk) hc]
    congr 1
    simp [rowV]
    omega
/-- The cells from (b, off) on hold these values. -/
def HoldsC (w : World) (b off : Nat) (vs : List Value) : Prop := ∀ j u, vs[j]? = some u → w.cell? ⟨b, off + j, none⟩ = some u
theorem rat_of_holds {w : World} {b off : Nat} {l : List Rw} (hb : b < w.heap.size) (h : HoldsC w b off (cellsR l)) : RAt w b off l := by
  refine ⟨hb, fun j hj => ?_⟩
  have e0 := h (j * 4 + 0) _ ((cellsR_get l j 0 hj (by omega)).trans rfl)
  have e1 := h (j * 4 + 1) _ ((cellsR_get l j 1 hj (by omega)).trans rfl)
  have e2 := h (j * 4 + 2) _ ((cellsR_get l j 2 hj (by omega)).trans rfl)
  have e3 := h (j * 4 + 3) _ ((cellsR_get l j 3 hj (by omega)).trans rfl)
  exact ⟨e0, by rw [Nat.add_assoc]; exact e1, by rw [Nat.add_assoc]; exact e2, by rw [Nat.add_assoc]; exact e3⟩
theorem holds_of_rat {w : World} {b off : Nat} {l : List Rw} (h : RAt w b off l) : HoldsC w b off (cellsR l) := by
  intro j u hu
  have hj : j < l.length * 4 := by
    rw [← cellsR_length]
    by_cases h' : j < (cellsR l).length
    · exact h'
    · rw [List.getElem?_eq_none (by omega)] at hu; cases hu
  have hk : j / 4 < l.length := by omega
  obtain ⟨h0, h1, h2, h3⟩ := h.2 (j / 4) hk
  have hje : j / 4 * 4 + j % 4 = j := by omega
  have hg := cellsR_get l (j / 4) (j % 4) hk (by omega)
  rw [hje, hu] at hg
  have hc : j % 4 = 0 ∨ j % 4 = 1 ∨ j % 4 = 2 ∨ j % 4 = 3 := by omega
  rcases hc with hc | hc | hc | hc <;> rw [hc] at hg hje <;> simp only [rowV, List.getElem?_cons_zero, List.getElem?_cons_succ, Option.some.injEq] at hg <;> subst hg
  · rw [show off + j = off + j / 4 * 4 from by omega]; exact h0
  · rw [show off + j = off + j / 4 * 4 + 1 from by omega]; exact h1
  · rw [show off + j = off + j / 4 * 4 + 2 from by omega]; exact h2
  · rw [show off + j = off + j / 4 * 4 + 3 from by omega]; exact h3
theorem cellsR_one_cell : ∀ (l : List Rw) (u : Value), u ∈ cellsR l → u.oneCell' = true
  | [], u, h => by simp [cellsR] at h
  | r :: l, u, h => by
    rw [cellsR, List.mem_append] at h
    rcases h with h | h
    · simp only [rowV, List.mem_cons, List.not_mem_nil, or_false] at h
      rcases h with rfl | rfl | rfl | rfl <;> rfl
    · exact cellsR_one_cell l u h
theorem below_setCells {B : Nat} {a : World} : ∀ (vs : List Value) (g o : Nat) (w : World), Below B a w → B ≤ g → Below B a (w.setCells g o vs)
  | [], _, _, _, h, _ => h
  | v :: vs, g, o, _, h, hg => below_setCells vs g (o + 1) _ (h.setCell (p := ⟨g, o, none⟩) hg v) hg
theorem size_setCells : ∀ (vs : List Value) (g o : Nat) (w : World), (w.setCells g o vs).heap.size = w.heap.size
  | [], _, _, _ => rfl
  | v :: vs, g, o, w => by
    show ((w.setCell ⟨g, o, none⟩ v).setCells g (o + 1) vs).heap.size = _
    rw [size_setCells vs g (o + 1)]
    simp [World.setCell]

theorem row_info : (Try.prog.info? 24).map (fun i => (i.zero, i.size, i.bytes)) = some (some (.agg #[.int .i64 0, .int .i64 0, .int .i64 0, .bool false]), 4, 32) := by kernel_rfl
theorem make_rows (n : Nat) (h : n ≤ 60) (w : World) :
    (Instr.makeSlice 22 (.int .i64 0) (.int .i64 ((n : Int) + 1))).run Try.prog w = .ok (.slice (some ⟨w.heap.size, 0, none⟩) 0 (n + 1)) (w.alloc (.cells (madeCells #[.int .i64 0, .int .i64 0, .int .i64 0, .bool false] ((n + 1) * 4)) 24)) := by
  obtain ⟨i0, hi, hz0, hz1, hz2⟩ := info_parts row_info
  have h := run_make (P := Try.prog) w 22 24 i0 _ Try.underlying22 hi hz0 .i64 .i64 0 ((n : Int) + 1) (by omega) (by omega) (by rw [hz2]; omega) (by omega)
  have e : ((n : Int) + 1).toNat = n + 1 := by omega
  rw [e, hz1] at h
  simpa [Value.cells] using h
theorem made_there (w : World) (n j : Nat) (hj : j < n * 4) : ((w.alloc (.cells (madeCells #[.int .i64 0, .int .i64 0, .int .i64 0, .bool false] (n * 4)) 24)).cell? ⟨w.heap.size, j, none⟩).isSome = true ∧ (w.alloc (.cells (madeCells #[.int .i64 0, .int .i64 0, .int .i64 0, .bool false] (n * 4)) 24)).frozen? ⟨w.heap.size, j, none⟩ = false := by
  rw [World.cell?_alloc_at (w := w) _ _ _ _ rfl, World.frozen?_alloc_at (w := w) _ _ _ _ rfl]
  refine ⟨?_, rfl⟩
  rw [Array.getElem?_eq_getElem (by rw [size_madeCells]; exact hj)]
  rfl
/-- Two pieces, stored one behind the other. -/
theorem holds_two {w : World} {g : Nat} {u v : List Value} (h1 : HoldsC w g 0 u) (ht : ∀ j, j < v.length → (w.cell? ⟨g, u.length + j, none⟩).isSome = true) : HoldsC (w.setCells g u.length v) g 0 (u ++ v) := by
  intro j x hx
  by_cases hj : j < u.length
  · rw [List.getElem?_append_left hj] at hx
    rw [World.cell?_setCells_out g v u.length w ⟨g, 0 + j, none⟩ (fun _ _ => .inl (by simpa using hj))]
    exact h1 j x hx
  · rw [List.getElem?_append_right (by omega)] at hx
    have hl : j - u.length < v.length := by
      by_cases h' : j - u.length < v.length
      · exact h'
      · rw [List.getElem?_eq_none (by omega)] at hx; cases hx
    have := World.cell?_setCells_in g v u.length w ht (j - u.length) hl
    rw [show u.length + (j - u.length) = 0 + j from by omega] at this
    rw [this]
    rw [List.getElem?_eq_getElem hl] at hx
    exact hx
theorem holds_one {w : World} {g : Nat} {u : List Value} (ht : ∀ j, j < u.length → (w.cell? ⟨g, j, none⟩).isSome = true) : HoldsC (w.setCells g 0 u) g 0 u := by
  intro j x hx
  have hl : j < u.length := by
    by_cases h' : j < u.length
    · exact h'
    · rw [List.getElem?_eq_none (by omega)] at hx; cases hx
  rw [World.cell?_setCells_in g u 0 w (by simpa using ht) j hl]
  rw [List.getElem?_eq_getElem hl] at hx
  exact hx
/-- What append wants of its source. -/
def SrcIs (w : World) (a : Addr) (vs : List Value) : Prop := ∀ j u, vs[j]? = some u → w.cell? (a.add j) = some u
/-- Cells that may be written. -/
def Room (w : World) (g o m : Nat) : Prop := ∀ j, j < m → (w.cell? ⟨g, o + j, none⟩).isSome = true ∧ w.frozen? ⟨g, o + j, none⟩ = false
theorem Room.below {B : Nat} {w w' : World} {g o m : Nat} (h : Room w g o m) (hb : Below B w w') (hg : g < B) : Room w' g o m := fun j hj => by
  rw [hb.cell (p := ⟨g, o + j, none⟩) hg, hb.frozen (p := ⟨g, o + j, none⟩) hg]
  exact h j hj
theorem Room.part {w : World} {g o m o' m' : Nat} (h : Room w g o m) (h1 : o ≤ o') (h2 : o' + m' ≤ o + m) : Room w g o' m' := fun j hj => by
  have := h (o' - o + j) (by omega)
  rwa [show o + (o' - o + j) = o' + j from by omega] at this
theorem isSome_setCells (b : Nat) : ∀ (vs : List Value) (o : Nat) (w : World) (x : Addr), (w.cell? x).isSome = true → ((w.setCells b o vs).cell? x).isSome = true
  | [], _, _, _, h => h
  | v :: vs, o, w, x, h => isSome_setCells b vs (o + 1) _ x (by
    by_cases e : (⟨b, o, none⟩ : Addr) = x
    · subst e
      obtain ⟨u, hu⟩ := Option.isSome_iff_exists.1 h
      rw [World.cell?_setCell_same w _ v hu]
      rfl
    · rw [World.cell?_setCell_other (h := e)]; exact h)
theorem Room.set {w : World} {g o m : Nat} (h : Room w g o m) (o' : Nat) (vs : List Value) : Room (w.setCells g o' vs) g o m := fun j hj =>
  ⟨isSome_setCells g vs o' w _ (h j hj).1, by rw [World.frozen?_setCells]; exact (h j hj).2⟩
theorem Room.alloc {w : World} {g o m : Nat} (h : Room w g o m) (hg : g < w.heap.size) (x : Obj) : Room (w.alloc x) g o m := fun j hj => by
  rw [World.cell?_alloc_past (w := w) x g _ hg, World.frozen?_alloc_past (w := w) x g _ hg]
  exact h j hj
theorem srcRow_new (w : World) (f s v : Int) (g : Bool) (t : TypeId) : SrcIs (w.alloc (.cells #[.int .i64 f, .int .i64 s, .int .i64 v, .bool g] t)) ⟨w.heap.size, 0, none⟩ (rowV ⟨f, s, v, g⟩) := by
  intro j u hu
  rw [Addr.add_lit, Nat.zero_add, World.cell?_alloc_at (w := w) _ _ _ _ rfl]
  simpa [rowV] using hu
theorem SrcIs.set {w : World} {a : Addr} {vs : List Value} (h : SrcIs w a vs) {g : Nat} (hg : a.block ≠ g) (o : Nat) (us : List Value) : SrcIs (w.setCells g o us) a vs := by
  intro j u hu
  rw [World.cell?_setCells_out g us o w (a.add j) (fun e _ => absurd e (by obtain ⟨b, o, sp⟩ := a; by_cases e : j = 0 <;> simp [Addr.add, e] <;> exact hg))]
  exact h j u hu

/-- What Put answers. -/
def PutIs (w' : World) (l : List Rw) (r : Rw) (v : Value) (er : Int) : Prop :=
  (histE l ≠ 0 ∧ v = .slice none 0 0 ∧ er = histE l) ∨ (histE l = 0 ∧ histE (l ++ [r]) ≠ 0 ∧ v = .slice none 0 0 ∧ er = histE (l ++ [r])) ∨
  (histE l = 0 ∧ histE (l ++ [r]) = 0 ∧ er = 0 ∧ ∃ g cap, v = .slice (some ⟨g, 0, none⟩) (l.length + 1) cap ∧ RAt w' g 0 (l ++ [r]))
/-- What came is new memory, and may be written. -/
def PutNew (B : Nat) (w' : World) (x : Value) (m : Nat) : Prop := ∀ g c k, x = .slice (some ⟨g, 0, none⟩) k c → B ≤ g ∧ Room w' g 0 (m * 4)
theorem PutNew.nil (B : Nat) (w' : World) (m : Nat) : PutNew B w' (.slice none 0 0) m := fun _ _ _ h => by cases h
theorem PutNew.mk {B : Nat} {w' : World} {g k c m : Nat} (h : B ≤ g) (hr : Room w' g 0 (m * 4)) : PutNew B w' (.slice (some ⟨g, 0, none⟩) k c) m := fun _ _ _ e => by cases e; exact ⟨h, hr⟩
set_option maxRecDepth 100000 in
set_option maxHeartbeats 2000000 in
theorem Put_own (a : Option Addr) (n cap : Nat) (l : List Rw) (f s v : Int) (g : Bool) (w : World) (hc : CameR w a l) (hn : l.length = n) (hm : n ≤ maxLen) :
    Calls Try.prog 7 #[.slice a n cap, .agg #[.int .i64 f, .int .i64 s, .int .i64 v, .bool g]] w fun e w' => ∃ (x : Value) (er : Int), e = .returned (.tuple #[x, .int .i64 er]) ∧ PutIs w' l ⟨f, s, v, g⟩ x er ∧ Below w.heap.size w w' ∧ PutNew w.heap.size w' x (l.length + 1) := by
  have HC := Lib.hid hc
  have hb0 := (Below.refl w.heap.size w).alloc (Nat.le_refl _) (.cells #[.int .i64 f, .int .i64 s, .int .i64 v, .bool g] 24)
  have HK := Lib.hid (Check_any a n cap l _ (hc.below hb0) hn hm)
  have HB0 := Lib.hid hb0
  have hbd := histE_bd l
  clear hc hb0 hm
  go_enter Try.func7, Try.ntmps7
  go_wp2_with fail
  refine HK.out.mono ?_
  rintro e w1 ⟨rfl, hb1⟩
  have HB1 := Lib.hid (HB0.out.trans (hb1.mono HB0.out.size))
  have hgs : w.heap.size < w1.heap.size := Nat.lt_of_lt_of_le (by simp) hb1.size
  have c0 : w1.cell? ⟨w.heap.size, 0, none⟩ = some (.int .i64 f) := (hb1.cell (p := ⟨w.heap.size, 0, none⟩) (by simp)).trans (by simp)
  have c1 : w1.cell? ⟨w.heap.size, 1, none⟩ = some (.int .i64 s) := (hb1.cell (p := ⟨w.heap.size, 1, none⟩) (by simp)).trans (by simp)
  have c2 : w1.cell? ⟨w.heap.size, 2, none⟩ = some (.int .i64 v) := (hb1.cell (p := ⟨w.heap.size, 2, none⟩) (by simp)).trans (by simp)
  have c3 : w1.cell? ⟨w.heap.size, 3, none⟩ = some (.bool g) := (hb1.cell (p := ⟨w.heap.size, 3, none⟩) (by simp)).trans (by simp)
  clear hb1 HK
  by_cases hz : histE l = 0
  · have hok := histE_ok hz
    have hn50 : n ≤ 50 := by omega
    have hmk := make_rows n (by omega)
    clear hok hbd
    obtain ⟨i0, hi, _, hz1, _⟩ := info_parts row_info
    have HRM : Hid (Room (w1.alloc (.cells (madeCells #[.int .i64 0, .int .i64 0, .int .i64 0, .bool false] ((n + 1) * 4)) 24)) w1.heap.size 0 ((n + 1) * 4)) := fun j hj => by
      rw [Nat.zero_add]; exact made_there w1 (n + 1) j hj
    have HBW := Lib.hid (HB1.out.alloc HB1.out.size (.cells (madeCells #[.int .i64 0, .int .i64 0, .int .i64 0, .bool false] ((n + 1) * 4)) 24))
    have hsz : (w1.alloc (.cells (madeCells #[.int .i64 0, .int .i64 0, .int .i64 0, .bool false] ((n + 1) * 4)) 24)).heap.size = w1.heap.size + 1 := by simp
    go_wp2_with fail
    have d0 : (w1.alloc (.cells (madeCells #[.int .i64 0, .int .i64 0, .int .i64 0, .bool false] ((n + 1) * 4)) 24)).cell? ⟨w.heap.size, 0, none⟩ = some (.int .i64 f) := (World.cell?_alloc_past (w := w1) _ _ _ hgs).trans c0
    have d1 : (w1.alloc (.cells (madeCells #[.int .i64 0, .int .i64 0, .int .i64 0, .bool false] ((n + 1) * 4)) 24)).cell? ⟨w.heap.size, 1, none⟩ = some (.int .i64 s) := (World.cell?_alloc_past (w := w1) _ _ _ hgs).trans c1
    have d2 : (w1.alloc (.cells (madeCells #[.int .i64 0, .int .i64 0, .int .i64 0, .bool false] ((n + 1) * 4)) 24)).cell? ⟨w.heap.size, 2, none⟩ = some (.int .i64 v) := (World.cell?_alloc_past (w := w1) _ _ _ hgs).trans c2
    have d3 : (w1.alloc (.cells (madeCells #[.int .i64 0, .int .i64 0, .int .i64 0, .bool false] ((n + 1) * 4)) 24)).cell? ⟨w.heap.size, 3, none⟩ = some (.bool g) := (World.cell?_alloc_past (w := w1) _ _ _ hgs).trans c3
    generalize (w1.alloc (.cells (madeCells #[.int .i64 0, .int .i64 0, .int .i64 0, .bool false] ((n + 1) * 4)) 24)) = W at *
    generalize w1.heap.size = G at *
    have HG0 : Hid (w.heap.size ≤ G) := Nat.le_of_lt hgs
    clear c0 c1 c2 c3 hmk HB0 HB1
    cases a with
    | none =>
      have hl0 : l = [] := by
        rcases HC.out with h0 | ⟨b, off, he, _⟩
        · exact List.eq_nil_of_length_eq_zero h0
        · cases he
      subst hl0
      have hn0 : n = 0 := by simpa using hn.symm
      subst hn0
      have hGW : G < W.heap.size := by omega
      have HO2 := Lib.hid (fun u (hu : u ∈ rowV ⟨f, s, v, g⟩) => cellsR_one_cell [⟨f, s, v, g⟩] u (by rw [cellsR_one]; exact hu))
      have HSB := Lib.hid (srcRow_new W.drew f s v g 24)
      have HRB : Hid (∀ j, j < 4 → ((W.drew.alloc (.cells #[.int .i64 f, .int .i64 s, .int .i64 v, .bool g] 24)).cell? ⟨G, 0 + 0 * 4 + j, none⟩).isSome = true ∧ (W.drew.alloc (.cells #[.int .i64 f, .int .i64 s, .int .i64 v, .bool g] 24)).frozen? ⟨G, 0 + 0 * 4 + j, none⟩ = false) := fun j hj => by
        have := (HRM.out.alloc (w := W.drew) hGW (.cells #[.int .i64 f, .int .i64 s, .int .i64 v, .bool g] 24)) j (by omega)
        simpa using this
      have HFB : Hid (RAt ((W.alloc (.cells #[.int .i64 f, .int .i64 s, .int .i64 v, .bool g] 24)).drew.setCells G 0 (rowV ⟨f, s, v, g⟩)) G 0 ([] ++ [⟨f, s, v, g⟩]) ∧ Below w.heap.size w ((W.alloc (.cells #[.int .i64 f, .int .i64 s, .int .i64 v, .bool g] 24)).drew.setCells G 0 (rowV ⟨f, s, v, g⟩))) := by
        have hrm : Room (W.alloc (.cells #[.int .i64 f, .int .i64 s, .int .i64 v, .bool g] 24)).drew G 0 4 := HRM.out.alloc (w := W) hGW _
        refine ⟨rat_of_holds ?_ ?_, ?_⟩
        · rw [size_setCells]; simp; omega
        · rw [List.nil_append, cellsR_one]
          exact holds_one (fun j hj => by have := (hrm j (by simpa [rowV] using hj)).1; rwa [Nat.zero_add] at this)
        · exact below_setCells _ _ _ _ (HBW.out.alloc HBW.out.size _).drew (by omega)
      have HRXB : Hid (Room ((W.alloc (.cells #[.int .i64 f, .int .i64 s, .int .i64 v, .bool g] 24)).drew.setCells G 0 (rowV ⟨f, s, v, g⟩)) G 0 (1 * 4)) := by
        have hrm : Room (W.alloc (.cells #[.int .i64 f, .int .i64 s, .int .i64 v, .bool g] 24)).drew G 0 (1 * 4) := HRM.out.alloc (w := W) hGW _
        exact hrm.set _ _
      have hrl : (([] : List Rw) ++ [(⟨f, s, v, g⟩ : Rw)]).length = 0 + 1 := by simp
      have hb2 := histE_bd (([] : List Rw) ++ [(⟨f, s, v, g⟩ : Rw)])
      go_region_law (refine step_append_room rfl (.tmp 20) (.tmp 22) 22 rfl 24 i0 4 Try.underlying22 hi hz1 G 0 0 1 (by simp [Act.eval]) ⟨W.heap.size, 0, none⟩ 1 1 (rowV ⟨f, s, v, g⟩) (by simp [Act.eval]; try omega) rfl HSB.out HO2.out (by omega) HRB.out ?_)
      · have HX := HFB
        have HRX : Hid (Room ((W.alloc (.cells #[.int .i64 f, .int .i64 s, .int .i64 v, .bool g] 24)).drew.setCells G 0 (rowV ⟨f, s, v, g⟩)) G 0 (1 * 4)) := HRXB
        generalize ((W.alloc (.cells #[.int .i64 f, .int .i64 s, .int .i64 v, .bool g] 24)).drew.setCells G 0 (rowV ⟨f, s, v, g⟩)) = X at *
        go_wp2_with fail
        refine (Check_any (some ⟨G, 0, none⟩) 1 1 ([] ++ [⟨f, s, v, g⟩]) X (.inr ⟨G, 0, rfl, HX.out.1⟩) hrl (by unfold maxLen; omega)).mono ?_
        rintro e w5 ⟨rfl, hb5⟩
        have HB5 := Lib.hid (HX.out.2.trans (hb5.mono HX.out.2.size))
        have HR5 := Lib.hid (HX.out.1.below hb5 HX.out.1.1)
        have HRX5 := Lib.hid (HRX.out.below hb5 HX.out.1.1)
        clear hb5
        generalize hE2 : histE ([] ++ [⟨f, s, v, g⟩]) = E at *
        have HE2 := Lib.hid hE2
        clear hE2
        by_cases hz2 : E = 0
        · subst hz2
          go_wp2_with fail
          go_ret2
          exact ⟨_, _, rfl, .inr (.inr ⟨hz, HE2.out, rfl, G, 1, by rw [hn]; rfl, HR5.out⟩), HB5.out, PutNew.mk HG0.out (by rw [hn]; exact HRX5.out)⟩
        · have hz2B : decide (E = 0) = false := decide_eq_false hz2
          go_wp2_with fail
          go_ret2
          exact ⟨_, _, rfl, .inr (.inl ⟨hz, by rw [HE2.out]; exact hz2, rfl, HE2.out.symm⟩), HB5.out, PutNew.nil _ _ _⟩
      · have HX := HFB
        have HRX : Hid (Room ((W.alloc (.cells #[.int .i64 f, .int .i64 s, .int .i64 v, .bool g] 24)).drew.setCells G 0 (rowV ⟨f, s, v, g⟩)) G 0 (1 * 4)) := HRXB
        generalize ((W.alloc (.cells #[.int .i64 f, .int .i64 s, .int .i64 v, .bool g] 24)).drew.setCells G 0 (rowV ⟨f, s, v, g⟩)) = X at *
        go_wp2_with fail
        refine (Check_any (some ⟨G, 0, none⟩) 1 1 ([] ++ [⟨f, s, v, g⟩]) X (.inr ⟨G, 0, rfl, HX.out.1⟩) hrl (by unfold maxLen; omega)).mono ?_
        rintro e w5 ⟨rfl, hb5⟩
        have HB5 := Lib.hid (HX.out.2.trans (hb5.mono HX.out.2.size))
        have HR5 := Lib.hid (HX.out.1.below hb5 HX.out.1.1)
        have HRX5 := Lib.hid (HRX.out.below hb5 HX.out.1.1)
        clear hb5
        generalize hE2 : histE ([] ++ [⟨f, s, v, g⟩]) = E at *
        have HE2 := Lib.hid hE2
        clear hE2
        by_cases hz2 : E = 0
        · subst hz2
          go_wp2_with fail
          go_ret2
          exact ⟨_, _, rfl, .inr (.inr ⟨hz, HE2.out, rfl, G, 1, by rw [hn]; rfl, HR5.out⟩), HB5.out, PutNew.mk HG0.out (by rw [hn]; exact HRX5.out)⟩
        · have hz2B : decide (E = 0) = false := decide_eq_false hz2
          go_wp2_with fail
          go_ret2
          exact ⟨_, _, rfl, .inr (.inl ⟨hz, by rw [HE2.out]; exact hz2, rfl, HE2.out.symm⟩), HB5.out, PutNew.nil _ _ _⟩
      · have HX := HFB
        have HRX : Hid (Room ((W.alloc (.cells #[.int .i64 f, .int .i64 s, .int .i64 v, .bool g] 24)).drew.setCells G 0 (rowV ⟨f, s, v, g⟩)) G 0 (1 * 4)) := HRXB
        generalize ((W.alloc (.cells #[.int .i64 f, .int .i64 s, .int .i64 v, .bool g] 24)).drew.setCells G 0 (rowV ⟨f, s, v, g⟩)) = X at *
        go_wp2_with fail
        refine (Check_any (some ⟨G, 0, none⟩) 1 1 ([] ++ [⟨f, s, v, g⟩]) X (.inr ⟨G, 0, rfl, HX.out.1⟩) hrl (by unfold maxLen; omega)).mono ?_
        rintro e w5 ⟨rfl, hb5⟩
        have HB5 := Lib.hid (HX.out.2.trans (hb5.mono HX.out.2.size))
        have HR5 := Lib.hid (HX.out.1.below hb5 HX.out.1.1)
        have HRX5 := Lib.hid (HRX.out.below hb5 HX.out.1.1)
        clear hb5
        generalize hE2 : histE ([] ++ [⟨f, s, v, g⟩]) = E at *
        have HE2 := Lib.hid hE2
        clear hE2
        by_cases hz2 : E = 0
        · subst hz2
          go_wp2_with fail
          go_ret2
          exact ⟨_, _, rfl, .inr (.inr ⟨hz, HE2.out, rfl, G, 1, by rw [hn]; rfl, HR5.out⟩), HB5.out, PutNew.mk HG0.out (by rw [hn]; exact HRX5.out)⟩
        · have hz2B : decide (E = 0) = false := decide_eq_false hz2
          go_wp2_with fail
          go_ret2
          exact ⟨_, _, rfl, .inr (.inl ⟨hz, by rw [HE2.out]; exact hz2, rfl, HE2.out.symm⟩), HB5.out, PutNew.nil _ _ _⟩
    | some ad =>
      have HS1 : Hid (∀ U, Below W.heap.size W U → SrcIs U ad (cellsR l)) := fun U hU => by
        have hcu := (HC.out.below HBW.out).below hU
        rcases hcu with h0 | ⟨b, off, he, hr⟩
        · have : l = [] := List.eq_nil_of_length_eq_zero h0
          subst this
          intro j u hu; simp [cellsR] at hu
        · cases he
          intro j u hu
          rw [Addr.add_lit]
          exact holds_of_rat hr j u hu
      have HL : Hid ((cellsR l).length = n * 4) := by unfold Hid; rw [cellsR_length, hn]
      have HO := Lib.hid (cellsR_one_cell l)
      have HO2 := Lib.hid (fun u (hu : u ∈ rowV ⟨f, s, v, g⟩) => cellsR_one_cell [⟨f, s, v, g⟩] u (by rw [cellsR_one]; exact hu))
      have hGW : G < W.heap.size := by omega
      have hne : w.heap.size ≠ G := by omega
      have HR1 : Hid (∀ U, Below W.heap.size W U → ∀ j, j < (cellsR l).length → (U.cell? ⟨G, 0 + 0 * 4 + j, none⟩).isSome = true ∧ U.frozen? ⟨G, 0 + 0 * 4 + j, none⟩ = false) := fun U hU j hj => by
        have := (HRM.out.below hU hGW) j (by rw [HL.out] at hj; omega)
        simpa using this
      have HBX : Hid (∀ j, (W.drew.setCells G 0 (cellsR l)).cell? ⟨w.heap.size, j, none⟩ = W.cell? ⟨w.heap.size, j, none⟩) := fun j => World.cell?_setCells_out G _ _ _ ⟨w.heap.size, j, none⟩ (fun e _ => absurd e hne)
      have e0 := (HBX.out 0).trans d0
      have e1 := (HBX.out 1).trans d1
      have e2 := (HBX.out 2).trans d2
      have e3 := (HBX.out 3).trans d3
      have hszA : (W.drew.setCells G 0 (cellsR l)).heap.size = W.heap.size := size_setCells _ _ _ _
      have HSA := Lib.hid (srcRow_new (W.drew.setCells G 0 (cellsR l)) f s v g 24)
      have HSA' := HSA
      rw [hszA] at HSA'
      have HSB : Hid (SrcIs ((W.drew.alloc (.cells #[.int .i64 f, .int .i64 s, .int .i64 v, .bool g] 24)).setCells G 0 (cellsR l)) ⟨W.heap.size, 0, none⟩ (rowV ⟨f, s, v, g⟩)) := (srcRow_new W.drew f s v g 24).set (by simp; omega) _ _
      have HRA : Hid (Room ((W.drew.setCells G 0 (cellsR l)).alloc (.cells #[.int .i64 f, .int .i64 s, .int .i64 v, .bool g] 24)) G (0 + (0 + n) * 4) 4) := ((HRM.out.set (w := W.drew) 0 (cellsR l)).alloc (by rw [hszA]; exact hGW) _).part (by omega) (by omega)
      have HRB : Hid (Room ((W.drew.alloc (.cells #[.int .i64 f, .int .i64 s, .int .i64 v, .bool g] 24)).setCells G 0 (cellsR l)) G (0 + (0 + n) * 4) 4) := ((HRM.out.alloc (w := W.drew) hGW _).set 0 (cellsR l)).part (by omega) (by omega)
      have HFA : Hid (RAt (((W.drew.setCells G 0 (cellsR l)).alloc (.cells #[.int .i64 f, .int .i64 s, .int .i64 v, .bool g] 24)).setCells G (n * 4) (rowV ⟨f, s, v, g⟩)) G 0 (l ++ [⟨f, s, v, g⟩]) ∧ Below w.heap.size w (((W.drew.setCells G 0 (cellsR l)).alloc (.cells #[.int .i64 f, .int .i64 s, .int .i64 v, .bool g] 24)).setCells G (n * 4) (rowV ⟨f, s, v, g⟩))) := by
        have hh : HoldsC ((W.drew.setCells G 0 (cellsR l)).alloc (.cells #[.int .i64 f, .int .i64 s, .int .i64 v, .bool g] 24)) G 0 (cellsR l) := by
          intro j u hu
          rw [World.cell?_alloc_past (w := W.drew.setCells G 0 (cellsR l)) _ _ _ (by rw [hszA]; exact hGW)]
          exact holds_one (w := W.drew) (fun j hj => by have := (HRM.out j (by rw [HL.out] at hj; omega)).1; rwa [Nat.zero_add] at this) j u hu
        have h2 := holds_two (v := rowV ⟨f, s, v, g⟩) hh (fun j hj => by rw [HL.out]; have := (HRA.out j (by simpa [rowV] using hj)).1; simpa using this)
        rw [HL.out] at h2
        refine ⟨rat_of_holds ?_ ?_, ?_⟩
        · rw [size_setCells]; simp [hszA]; omega
        · rw [cellsR_append, cellsR_one]; exact h2
        · exact below_setCells _ _ _ _ ((below_setCells _ _ _ _ HBW.out.drew (by omega)).alloc (by rw [hszA]; exact HBW.out.size) _) (by omega)
      have HFB : Hid (RAt (((W.alloc (.cells #[.int .i64 f, .int .i64 s, .int .i64 v, .bool g] 24)).drew.setCells G 0 (cellsR l)).setCells G (n * 4) (rowV ⟨f, s, v, g⟩)) G 0 (l ++ [⟨f, s, v, g⟩]) ∧ Below w.heap.size w (((W.alloc (.cells #[.int .i64 f, .int .i64 s, .int .i64 v, .bool g] 24)).drew.setCells G 0 (cellsR l)).setCells G (n * 4) (rowV ⟨f, s, v, g⟩))) := by
        have hrm : Room (W.alloc (.cells #[.int .i64 f, .int .i64 s, .int .i64 v, .bool g] 24)).drew G 0 ((n + 1) * 4) := HRM.out.alloc (w := W) hGW _
        have hh : HoldsC ((W.alloc (.cells #[.int .i64 f, .int .i64 s, .int .i64 v, .bool g] 24)).drew.setCells G 0 (cellsR l)) G 0 (cellsR l) :=
          holds_one (fun j hj => by have := (hrm j (by rw [HL.out] at hj; omega)).1; rwa [Nat.zero_add] at this)
        have h2 := holds_two (v := rowV ⟨f, s, v, g⟩) hh (fun j hj => by rw [HL.out]; have hj4 : j < 4 := by simpa [rowV] using hj
                                                                         have := ((hrm.set 0 (cellsR l)) (n * 4 + j) (by omega)).1; simpa using this)
        rw [HL.out] at h2
        refine ⟨rat_of_holds ?_ ?_, ?_⟩
        · rw [size_setCells, size_setCells]; simp; omega
        · rw [cellsR_append, cellsR_one]; exact h2
        · exact below_setCells _ _ _ _ (below_setCells _ _ _ _ (HBW.out.alloc HBW.out.size _).drew (by omega)) (by omega)
      have HRXA : Hid (Room (((W.drew.setCells G 0 (cellsR l)).alloc (.cells #[.int .i64 f, .int .i64 s, .int .i64 v, .bool g] 24)).setCells G (n * 4) (rowV ⟨f, s, v, g⟩)) G 0 ((n + 1) * 4)) := by
        have h1 : Room (W.drew.setCells G 0 (cellsR l)) G 0 ((n + 1) * 4) := HRM.out.set (w := W.drew) 0 (cellsR l)
        have h2 : Room ((W.drew.setCells G 0 (cellsR l)).alloc (.cells #[.int .i64 f, .int .i64 s, .int .i64 v, .bool g] 24)) G 0 ((n + 1) * 4) := h1.alloc (by rw [hszA]; exact hGW) _
        exact h2.set _ _
      have HRXB : Hid (Room (((W.alloc (.cells #[.int .i64 f, .int .i64 s, .int .i64 v, .bool g] 24)).drew.setCells G 0 (cellsR l)).setCells G (n * 4) (rowV ⟨f, s, v, g⟩)) G 0 ((n + 1) * 4)) := by
        have hrm : Room (W.alloc (.cells #[.int .i64 f, .int .i64 s, .int .i64 v, .bool g] 24)).drew G 0 ((n + 1) * 4) := HRM.out.alloc (w := W) hGW _
        have h1 := hrm.set 0 (cellsR l)
        exact h1.set _ _
      have hrl : (l ++ [(⟨f, s, v, g⟩ : Rw)]).length = n + 1 := by simp [hn]
      have hb2 := histE_bd (l ++ [(⟨f, s, v, g⟩ : Rw)])
      go_region_law (first
        | (refine step_append_room rfl (.tmp 18) (.tmp 19) 22 rfl 24 i0 4 Try.underlying22 hi hz1 G 0 0 (n + 1) (by simp [Act.eval, Act.put]) ad n cap (cellsR l) (by simp [Act.eval, Act.put]) HL.out (HS1.out _ (by first | exact Below.refl _ _ | exact (Below.refl _ _).drew | exact ((Below.refl _ _).drew).alloc (by simp) _)) HO.out (by omega) (HR1.out _ (by first | exact Below.refl _ _ | exact (Below.refl _ _).drew | exact ((Below.refl _ _).drew).alloc (by simp) _)) ?_)
        | (refine step_append_room rfl (.tmp 20) (.tmp 22) 22 rfl 24 i0 4 Try.underlying22 hi hz1 G 0 (0 + n) (n + 1) (by simp [Act.eval]) ⟨W.heap.size, 0, none⟩ 1 1 (rowV ⟨f, s, v, g⟩) (by simp [Act.eval]; try omega) rfl (by first | exact HSA'.out | exact HSB.out) HO2.out (by omega) (by first | exact HRA.out | exact HRB.out) ?_))
      · have HX := HFA
        have HRX : Hid (Room (((W.drew.setCells G 0 (cellsR l)).alloc (.cells #[.int .i64 f, .int .i64 s, .int .i64 v, .bool g] 24)).setCells G (n * 4) (rowV ⟨f, s, v, g⟩)) G 0 ((n + 1) * 4)) := HRXA
        generalize (((W.drew.setCells G 0 (cellsR l)).alloc (.cells #[.int .i64 f, .int .i64 s, .int .i64 v, .bool g] 24)).setCells G (n * 4) (rowV ⟨f, s, v, g⟩)) = X at *
        go_wp2_with fail
        refine (Check_any (some ⟨G, 0, none⟩) (n + 1) (n + 1) (l ++ [⟨f, s, v, g⟩]) X (.inr ⟨G, 0, rfl, HX.out.1⟩) hrl (by unfold maxLen; omega)).mono ?_
        rintro e w5 ⟨rfl, hb5⟩
        have HB5 := Lib.hid (HX.out.2.trans (hb5.mono HX.out.2.size))
        have HR5 := Lib.hid (HX.out.1.below hb5 HX.out.1.1)
        have HRX5 := Lib.hid (HRX.out.below hb5 HX.out.1.1)
        clear hb5
        generalize hE2 : histE (l ++ [⟨f, s, v, g⟩]) = E at *
        have HE2 := Lib.hid hE2
        clear hE2
        by_cases hz2 : E = 0
        · subst hz2
          go_wp2_with fail
          go_ret2
          exact ⟨_, _, rfl, .inr (.inr ⟨hz, HE2.out, rfl, G, (n + 1), by rw [hn]; rfl, HR5.out⟩), HB5.out, PutNew.mk HG0.out (by rw [hn]; exact HRX5.out)⟩
        · have hz2B : decide (E = 0) = false := decide_eq_false hz2
          go_wp2_with fail
          go_ret2
          exact ⟨_, _, rfl, .inr (.inl ⟨hz, by rw [HE2.out]; exact hz2, rfl, HE2.out.symm⟩), HB5.out, PutNew.nil _ _ _⟩
      · have HX := HFA
        have HRX : Hid (Room (((W.drew.setCells G 0 (cellsR l)).alloc (.cells #[.int .i64 f, .int .i64 s, .int .i64 v, .bool g] 24)).setCells G (n * 4) (rowV ⟨f, s, v, g⟩)) G 0 ((n + 1) * 4)) := HRXA
        generalize (((W.drew.setCells G 0 (cellsR l)).alloc (.cells #[.int .i64 f, .int .i64 s, .int .i64 v, .bool g] 24)).setCells G (n * 4) (rowV ⟨f, s, v, g⟩)) = X at *
        go_wp2_with fail
        refine (Check_any (some ⟨G, 0, none⟩) (n + 1) (n + 1) (l ++ [⟨f, s, v, g⟩]) X (.inr ⟨G, 0, rfl, HX.out.1⟩) hrl (by unfold maxLen; omega)).mono ?_
        rintro e w5 ⟨rfl, hb5⟩
        have HB5 := Lib.hid (HX.out.2.trans (hb5.mono HX.out.2.size))
        have HR5 := Lib.hid (HX.out.1.below hb5 HX.out.1.1)
        have HRX5 := Lib.hid (HRX.out.below hb5 HX.out.1.1)
        clear hb5
        generalize hE2 : histE (l ++ [⟨f, s, v, g⟩]) = E at *
        have HE2 := Lib.hid hE2
        clear hE2
        by_cases hz2 : E = 0
        · subst hz2
          go_wp2_with fail
          go_ret2
          exact ⟨_, _, rfl, .inr (.inr ⟨hz, HE2.out, rfl, G, (n + 1), by rw [hn]; rfl, HR5.out⟩), HB5.out, PutNew.mk HG0.out (by rw [hn]; exact HRX5.out)⟩
        · have hz2B : decide (E = 0) = false := decide_eq_false hz2
          go_wp2_with fail
          go_ret2
          exact ⟨_, _, rfl, .inr (.inl ⟨hz, by rw [HE2.out]; exact hz2, rfl, HE2.out.symm⟩), HB5.out, PutNew.nil _ _ _⟩
      · have HX := HFB
        have HRX : Hid (Room (((W.alloc (.cells #[.int .i64 f, .int .i64 s, .int .i64 v, .bool g] 24)).drew.setCells G 0 (cellsR l)).setCells G (n * 4) (rowV ⟨f, s, v, g⟩)) G 0 ((n + 1) * 4)) := HRXB
        generalize (((W.alloc (.cells #[.int .i64 f, .int .i64 s, .int .i64 v, .bool g] 24)).drew.setCells G 0 (cellsR l)).setCells G (n * 4) (rowV ⟨f, s, v, g⟩)) = X at *
        go_wp2_with fail
        refine (Check_any (some ⟨G, 0, none⟩) (n + 1) (n + 1) (l ++ [⟨f, s, v, g⟩]) X (.inr ⟨G, 0, rfl, HX.out.1⟩) hrl (by unfold maxLen; omega)).mono ?_
        rintro e w5 ⟨rfl, hb5⟩
        have HB5 := Lib.hid (HX.out.2.trans (hb5.mono HX.out.2.size))
        have HR5 := Lib.hid (HX.out.1.below hb5 HX.out.1.1)
        have HRX5 := Lib.hid (HRX.out.below hb5 HX.out.1.1)
        clear hb5
        generalize hE2 : histE (l ++ [⟨f, s, v, g⟩]) = E at *
        have HE2 := Lib.hid hE2
        clear hE2
        by_cases hz2 : E = 0
        · subst hz2
          go_wp2_with fail
          go_ret2
          exact ⟨_, _, rfl, .inr (.inr ⟨hz, HE2.out, rfl, G, (n + 1), by rw [hn]; rfl, HR5.out⟩), HB5.out, PutNew.mk HG0.out (by rw [hn]; exact HRX5.out)⟩
        · have hz2B : decide (E = 0) = false := decide_eq_false hz2
          go_wp2_with fail
          go_ret2
          exact ⟨_, _, rfl, .inr (.inl ⟨hz, by rw [HE2.out]; exact hz2, rfl, HE2.out.symm⟩), HB5.out, PutNew.nil _ _ _⟩
  · have hzB : decide (histE l = 0) = false := decide_eq_false hz
    go_wp2_with fail
    go_ret2
    exact ⟨_, _, rfl, .inl ⟨hz, rfl, rfl⟩, HB1.out, PutNew.nil _ _ _⟩
theorem Put_any (a : Option Addr) (n cap : Nat) (l : List Rw) (f s v : Int) (g : Bool) (w : World) (hc : CameR w a l) (hn : l.length = n) (hm : n ≤ maxLen) :
    Calls Try.prog 7 #[.slice a n cap, .agg #[.int .i64 f, .int .i64 s, .int .i64 v, .bool g]] w fun e w' => ∃ (x : Value) (er : Int), e = .returned (.tuple #[x, .int .i64 er]) ∧ PutIs w' l ⟨f, s, v, g⟩ x er ∧ Below w.heap.size w w' := 
  (Put_own a n cap l f s v g w hc hn hm).mono fun _ _ ⟨x, er, h1, h2, h3, _⟩ => ⟨x, er, h1, h2, h3⟩
end Go.Proofs.Ytjokgohnpnhhdaa
