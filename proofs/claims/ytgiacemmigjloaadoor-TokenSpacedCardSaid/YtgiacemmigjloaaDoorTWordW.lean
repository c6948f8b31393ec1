/-
  Promise E1: a word or a name: the walk of word.
-/
import Derived.Test.YtgiacemmigjloaaDoorTGive
namespace Go.Proofs.YtgiacemmigjloaaDoor
open Go.RowKit

/-- A token's five cells. -/
def TBox (w : World) (g : Nat) (k : Int) (s : ByteArray) (n : Int) (p : Bool) (a : Int) : Prop :=
  (w.cell? ⟨g, 0, none⟩ = some (.int .i64 k) ∧ w.cell? ⟨g, 1, none⟩ = some (.string s) ∧ w.cell? ⟨g, 2, none⟩ = some (.int .i64 n) ∧ w.cell? ⟨g, 3, none⟩ = some (.bool p) ∧ w.cell? ⟨g, 4, none⟩ = some (.int .i64 a)) ∧
  (w.frozen? ⟨g, 0, none⟩ = false ∧ w.frozen? ⟨g, 1, none⟩ = false ∧ w.frozen? ⟨g, 2, none⟩ = false ∧ w.frozen? ⟨g, 3, none⟩ = false ∧ w.frozen? ⟨g, 4, none⟩ = false)
theorem TBox.made (w : World) (T : TypeId) (k : Int) (s : ByteArray) (n : Int) (p : Bool) (a : Int) : TBox (w.alloc (.cells #[.int .i64 k, .string s, .int .i64 n, .bool p, .int .i64 a] T)) w.heap.size k s n p a := by
  refine ⟨⟨?_, ?_, ?_, ?_, ?_⟩, ?_, ?_, ?_, ?_, ?_⟩ <;> simp
theorem TBox.below {w w' : World} {g : Nat} {k : Int} {s : ByteArray} {n : Int} {p : Bool} {a : Int} (h : TBox w g k s n p a) (hb : Below w.heap.size w w') : TBox w' g k s n p a := by
  have hg : g < w.heap.size := by
    by_cases hb : g < w.heap.size
    · exact hb
    · have : w.heap[g]? = none := Array.getElem?_eq_none (by omega)
      have h0 := h.1.1
      simp [World.cell?, this] at h0
  obtain ⟨⟨a0, a1, a2, a3, a4⟩, b0, b1, b2, b3, b4⟩ := h
  exact ⟨⟨(hb.cell (p := ⟨g, 0, none⟩) hg).trans a0, (hb.cell (p := ⟨g, 1, none⟩) hg).trans a1, (hb.cell (p := ⟨g, 2, none⟩) hg).trans a2, (hb.cell (p := ⟨g, 3, none⟩) hg).trans a3, (hb.cell (p := ⟨g, 4, none⟩) hg).trans a4⟩,
    (hb.frozen (p := ⟨g, 0, none⟩) hg).trans b0, (hb.frozen (p := ⟨g, 1, none⟩) hg).trans b1, (hb.frozen (p := ⟨g, 2, none⟩) hg).trans b2, (hb.frozen (p := ⟨g, 3, none⟩) hg).trans b3, (hb.frozen (p := ⟨g, 4, none⟩) hg).trans b4⟩

/-- The world behind five stores. -/
def tput (w : World) (g : Nat) (v0 v1 v2 v3 v4 : Value) : World := ((((w.setCell ⟨g, 0, none⟩ v0).setCell ⟨g, 1, none⟩ v1).setCell ⟨g, 2, none⟩ v2).setCell ⟨g, 3, none⟩ v3).setCell ⟨g, 4, none⟩ v4
theorem TBox.far {w : World} {g : Nat} {k : Int} {s : ByteArray} {n : Int} {p : Bool} {a : Int} (h : TBox w g k s n p a) (v0 v1 v2 v3 : Value) :
    (w.setCell ⟨g, 0, none⟩ v0).cell? ⟨g, 1, none⟩ = some (.string s) ∧ ((w.setCell ⟨g, 0, none⟩ v0).setCell ⟨g, 1, none⟩ v1).cell? ⟨g, 2, none⟩ = some (.int .i64 n) ∧
    (((w.setCell ⟨g, 0, none⟩ v0).setCell ⟨g, 1, none⟩ v1).setCell ⟨g, 2, none⟩ v2).cell? ⟨g, 3, none⟩ = some (.bool p) ∧
    ((((w.setCell ⟨g, 0, none⟩ v0).setCell ⟨g, 1, none⟩ v1).setCell ⟨g, 2, none⟩ v2).setCell ⟨g, 3, none⟩ v3).cell? ⟨g, 4, none⟩ = some (.int .i64 a) := by
  obtain ⟨⟨a0, a1, a2, a3, a4⟩, -⟩ := h
  have ne : ∀ i j : Nat, i ≠ j → (⟨g, i, none⟩ : Addr) ≠ ⟨g, j, none⟩ := fun i j h e => h (by injection e)
  refine ⟨?_, ?_, ?_, ?_⟩
  · rw [World.cell?_setCell_other (h := ne 0 1 (by decide))]; exact a1
  · rw [World.cell?_setCell_other (h := ne 1 2 (by decide)), World.cell?_setCell_other (h := ne 0 2 (by decide))]; exact a2
  · rw [World.cell?_setCell_other (h := ne 2 3 (by decide)), World.cell?_setCell_other (h := ne 1 3 (by decide)), World.cell?_setCell_other (h := ne 0 3 (by decide))]; exact a3
  · rw [World.cell?_setCell_other (h := ne 3 4 (by decide)), World.cell?_setCell_other (h := ne 2 4 (by decide)), World.cell?_setCell_other (h := ne 1 4 (by decide)), World.cell?_setCell_other (h := ne 0 4 (by decide))]; exact a4
theorem TBox.put {w : World} {g : Nat} {k : Int} {s : ByteArray} {n : Int} {p : Bool} {a : Int} (h : TBox w g k s n p a) (k' : Int) (s' : ByteArray) (n' : Int) (p' : Bool) (a' : Int) :
    TBox (tput w g (.int .i64 k') (.string s') (.int .i64 n') (.bool p') (.int .i64 a')) g k' s' n' p' a' := by
  obtain ⟨f1, f2, f3, f4⟩ := h.far (.int .i64 k') (.string s') (.int .i64 n') (.bool p')
  obtain ⟨⟨a0, a1, a2, a3, a4⟩, b0, b1, b2, b3, b4⟩ := h
  have ne : ∀ i j : Nat, i ≠ j → (⟨g, i, none⟩ : Addr) ≠ ⟨g, j, none⟩ := fun i j h e => h (by injection e)
  unfold tput
  refine ⟨⟨?_, ?_, ?_, ?_, ?_⟩, ?_, ?_, ?_, ?_, ?_⟩
  · rw [World.cell?_setCell_other (h := ne 4 0 (by decide)), World.cell?_setCell_other (h := ne 3 0 (by decide)), World.cell?_setCell_other (h := ne 2 0 (by decide)), World.cell?_setCell_other (h := ne 1 0 (by decide))]
    exact World.cell?_setCell_same _ _ _ a0
  · rw [World.cell?_setCell_other (h := ne 4 1 (by decide)), World.cell?_setCell_other (h := ne 3 1 (by decide)), World.cell?_setCell_other (h := ne 2 1 (by decide))]
    exact World.cell?_setCell_same _ _ _ f1
  · rw [World.cell?_setCell_other (h := ne 4 2 (by decide)), World.cell?_setCell_other (h := ne 3 2 (by decide))]
    exact World.cell?_setCell_same _ _ _ f2
  · rw [World.cell?_setCell_other (h := ne 4 3 (by decide))]
    exact World.cell?_setCell_same _ _ _ f3
  · exact World.cell?_setCell_same _ _ _ f4
  all_goals (simp only [World.frozen?_setCell]; assumption)

set_option maxRecDepth 100000 in
set_option maxHeartbeats 1000000 in
theorem word_name (s : ByteArray) (a : Int) (n : Nat) (w : World) (hn : SpanIs letB s n) (h8 : n ≤ 8) (hw : wordB (s.extract 0 n) = false) :
    Calls Tryd.prog 28 #[.string s, .int .i64 a] w fun e w' => e = .returned (tokV 1 (s.extract 0 n) 0 false a) ∧ Below w.heap.size w w' := by
  have HN := Lib.hid hn
  have HZ := Lib.hid ((Below.refl w.heap.size w).alloc (Nat.le_refl _) (.cells #[.int .i64 0, .string ByteArray.empty, .int .i64 0, .bool false, .int .i64 0] 32))
  have HX := Lib.hid (TBox.made w 32 0 ByteArray.empty 0 false 0)
  have hle := hn.1
  have HW : Hid (∀ w, Calls Tryd.prog 19 #[.string (s.extract 0 n)] w fun e w' => e = .returned (.bool false) ∧ w' = w) := fun w => by rw [← hw]; exact isWord_any _ w
  clear hn hw
  go_enter Tryd.func28, Tryd.ntmps28
  go_wp2_with fail
  refine (letters_any s _).mono ?_
  rintro e w1 ⟨m, rfl, h1, h2⟩
  obtain rfl := h1.unique HN.out
  have HB1 := Lib.hid (HZ.out.trans (h2.mono HZ.out.size))
  have HX1 := Lib.hid (HX.out.below h2)
  have HX2 := Lib.hid (HX1.out.below ((Below.refl w1.heap.size w1).alloc (Nat.le_refl _) (.cells #[.int .i64 1, .string (s.extract 0 m), .int .i64 0, .bool false, .int .i64 a] 32)))
  have hne : w.heap.size < w1.heap.size := by
    have := h2.size
    simp at this
    omega
  clear h1 h2
  have h8' : (m : Int) ≤ 8 := by omega
  have h8B : decide ((8 : Int) < (m : Int)) = false := decide_eq_false (by omega)
  have hle' : (m : Int) ≤ (s.size : Int) := by omega
  go_wp2_with fail
  refine (HW.out _).mono ?_
  rintro e w2 ⟨rfl, h2⟩
  subst w2
  obtain ⟨⟨c0, c1, c2, c3, c4⟩, z0, z1, z2, z3, z4⟩ := HX1.out
  go_wp2_with fail
  refine bodyPost_ret (v := tokV 1 (s.extract 0 m) 0 false a) ?_ rfl ⟨rfl, ?_⟩
  · obtain ⟨⟨e0, e1, e2, e3, e4⟩, -⟩ := HX1.out.put 1 (s.extract 0 m) 0 false a
    unfold tput at e0 e1 e2 e3 e4
    simp [results, Tryd.results28, go_sem, e0, e1, e2, e3, e4, tokV, hne]
  · exact (((((HB1.out.setCell (by simp) _).setCell (by simp) _).setCell (by simp) _).setCell (by simp) _).setCell (by simp) _).alloc (by simp; omega) _
set_option maxRecDepth 100000 in
set_option maxHeartbeats 1000000 in
theorem word_word (s : ByteArray) (a : Int) (n : Nat) (w : World) (hn : SpanIs letB s n) (h8 : n ≤ 8) (hw : wordB (s.extract 0 n) = true) :
    Calls Tryd.prog 28 #[.string s, .int .i64 a] w fun e w' => e = .returned (tokV 4 (s.extract 0 n) 0 false a) ∧ Below w.heap.size w w' := by
  have HN := Lib.hid hn
  have HZ := Lib.hid ((Below.refl w.heap.size w).alloc (Nat.le_refl _) (.cells #[.int .i64 0, .string ByteArray.empty, .int .i64 0, .bool false, .int .i64 0] 32))
  have HX := Lib.hid (TBox.made w 32 0 ByteArray.empty 0 false 0)
  have hle := hn.1
  have HW : Hid (∀ w, Calls Tryd.prog 19 #[.string (s.extract 0 n)] w fun e w' => e = .returned (.bool true) ∧ w' = w) := fun w => by rw [← hw]; exact isWord_any _ w
  clear hn hw
  go_enter Tryd.func28, Tryd.ntmps28
  go_wp2_with fail
  refine (letters_any s _).mono ?_
  rintro e w1 ⟨m, rfl, h1, h2⟩
  obtain rfl := h1.unique HN.out
  have HB1 := Lib.hid (HZ.out.trans (h2.mono HZ.out.size))
  have HX1 := Lib.hid (HX.out.below h2)
  have HX2 := Lib.hid (HX1.out.below ((Below.refl w1.heap.size w1).alloc (Nat.le_refl _) (.cells #[.int .i64 1, .string (s.extract 0 m), .int .i64 0, .bool false, .int .i64 a] 32)))
  have hne : w.heap.size < w1.heap.size := by
    have := h2.size
    simp at this
    omega
  clear h1 h2
  have h8' : (m : Int) ≤ 8 := by omega
  have h8B : decide ((8 : Int) < (m : Int)) = false := decide_eq_false (by omega)
  have hle' : (m : Int) ≤ (s.size : Int) := by omega
  go_wp2_with fail
  refine (HW.out _).mono ?_
  rintro e w2 ⟨rfl, h2⟩
  subst w2
  obtain ⟨⟨c0, c1, c2, c3, c4⟩, z0, z1, z2, z3, z4⟩ := HX1.out
  go_wp2_with fail
  refine bodyPost_ret (v := tokV 4 (s.extract 0 m) 0 false a) ?_ rfl ⟨rfl, ?_⟩
  · obtain ⟨⟨e0, e1, e2, e3, e4⟩, -⟩ := HX1.out.put 4 (s.extract 0 m) 0 false a
    unfold tput at e0 e1 e2 e3 e4
    simp [results, Tryd.results28, go_sem, e0, e1, e2, e3, e4, tokV, hne]
  · exact (((((HB1.out.setCell (by simp) _).setCell (by simp) _).setCell (by simp) _).setCell (by simp) _).setCell (by simp) _).alloc (by simp; omega) _
end Go.Proofs.YtgiacemmigjloaaDoor
