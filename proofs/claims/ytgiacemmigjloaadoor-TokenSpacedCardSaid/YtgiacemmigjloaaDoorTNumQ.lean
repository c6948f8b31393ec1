/-
  Promise E1: numbers: the walk of number where two digits stand behind the point.
-/
import Derived.Test.YtgiacemmigjloaaDoorTNumP
import Derived.Deep.RegionHeld3
namespace Go.Proofs.YtgiacemmigjloaaDoor
open Go.RowKit


theorem TBox.two {w : World} {g : Nat} {k : Int} {s : ByteArray} {n : Int} {p : Bool} {a : Int} (h : TBox w g k s n p a) (p' : Bool) (s' : ByteArray) :
    TBox ((w.setCell ⟨g, 3, none⟩ (.bool p')).setCell ⟨g, 1, none⟩ (.string s')) g k s' n p' a := by
  obtain ⟨⟨a0, a1, a2, a3, a4⟩, b0, b1, b2, b3, b4⟩ := h
  have ne : ∀ i j : Nat, i ≠ j → (⟨g, i, none⟩ : Addr) ≠ ⟨g, j, none⟩ := fun i j h e => h (by injection e)
  refine ⟨⟨?_, ?_, ?_, ?_, ?_⟩, ?_, ?_, ?_, ?_, ?_⟩
  · rw [World.cell?_setCell_other (h := ne 1 0 (by decide)), World.cell?_setCell_other (h := ne 3 0 (by decide))]; exact a0
  · exact World.cell?_setCell_same _ _ _ (by rw [World.cell?_setCell_other (h := ne 3 1 (by decide))]; exact a1)
  · rw [World.cell?_setCell_other (h := ne 1 2 (by decide)), World.cell?_setCell_other (h := ne 3 2 (by decide))]; exact a2
  · rw [World.cell?_setCell_other (h := ne 1 3 (by decide))]; exact World.cell?_setCell_same _ _ _ a3
  · rw [World.cell?_setCell_other (h := ne 1 4 (by decide)), World.cell?_setCell_other (h := ne 3 4 (by decide))]; exact a4
  all_goals (simp only [World.frozen?_setCell]; assumption)
theorem TBox.away {w : World} {g : Nat} {k : Int} {s : ByteArray} {n : Int} {p : Bool} {a : Int} (h : TBox w g k s n p a) {b : Nat} (hb : g < b) (o : Nat) (v : Value) : TBox (w.setCell ⟨b, o, none⟩ v) g k s n p a := by
  obtain ⟨⟨a0, a1, a2, a3, a4⟩, b0, b1, b2, b3, b4⟩ := h
  have ne : ∀ j : Nat, (⟨b, o, none⟩ : Addr) ≠ ⟨g, j, none⟩ := fun j e => by injection e; omega
  refine ⟨⟨?_, ?_, ?_, ?_, ?_⟩, ?_, ?_, ?_, ?_, ?_⟩
  · rw [World.cell?_setCell_other (h := ne 0)]; exact a0
  · rw [World.cell?_setCell_other (h := ne 1)]; exact a1
  · rw [World.cell?_setCell_other (h := ne 2)]; exact a2
  · rw [World.cell?_setCell_other (h := ne 3)]; exact a3
  · rw [World.cell?_setCell_other (h := ne 4)]; exact a4
  all_goals (simp only [World.frozen?_setCell]; assumption)
theorem TBox.num {w : World} {g : Nat} {k : Int} {s : ByteArray} {n : Int} {p : Bool} {a : Int} (h : TBox w g k s n p a) (n' : Int) : TBox (w.setCell ⟨g, 2, none⟩ (.int .i64 n')) g k s n' p a := by
  obtain ⟨⟨a0, a1, a2, a3, a4⟩, b0, b1, b2, b3, b4⟩ := h
  have ne : ∀ j : Nat, 2 ≠ j → (⟨g, 2, none⟩ : Addr) ≠ ⟨g, j, none⟩ := fun j h e => h (by injection e)
  refine ⟨⟨?_, ?_, ?_, ?_, ?_⟩, ?_, ?_, ?_, ?_, ?_⟩
  · rw [World.cell?_setCell_other (h := ne 0 (by decide))]; exact a0
  · rw [World.cell?_setCell_other (h := ne 1 (by decide))]; exact a1
  · exact World.cell?_setCell_same _ _ _ a2
  · rw [World.cell?_setCell_other (h := ne 3 (by decide))]; exact a3
  · rw [World.cell?_setCell_other (h := ne 4 (by decide))]; exact a4
  all_goals (simp only [World.frozen?_setCell]; assumption)
theorem TBox.drawn {w : World} {g : Nat} {k : Int} {s : ByteArray} {n : Int} {p : Bool} {a : Int} (h : TBox w g k s n p a) : TBox w.drew g k s n p a := h
set_option maxRecDepth 100000 in
set_option maxHeartbeats 2000000 in
theorem number_point (s : ByteArray) (a : Int) (n k : Nat) (u : Int) (w : World) (hn : SpanIs digB s n) (hr : Reads s n u) (hu0 : 0 ≤ u) (hu : u ≤ 10000000000) (hn0 : 0 < n) (h0 : bt s 0 ≠ 48) (hp : bt s n = 46) (hk : SpanIs digB (s.extract (n + 1) s.size) k) (hk2 : 2 ≤ k) (ha : 0 ≤ a) (has : a + s.size ≤ 140737488351232) (hv : 100 * u + (10 * (bt s (n + 1) - 48) + (bt s (n + 2) - 48)) ≤ 1000000000000) :
    Calls Tryd.prog 30 #[.string s, .int .i64 a] w fun e w' => e = .returned (tokV 2 (s.extract 0 (n + 3)) (100 * u + (10 * (bt s (n + 1) - 48) + (bt s (n + 2) - 48))) true a) ∧ Below w.heap.size w w' := by
  have hs0 : 0 < s.size := by have := hn.1; omega
  have hs0' : (0 : Int) < (s.size : Int) := by omega
  have huB : decide ((10000000000 : Int) < u) = false := decide_eq_false (by omega)
  have hb : ((s[0].toNat : Int) == 48) = false := by rw [← bt_in hs0]; simpa using h0
  have HD := Lib.hid (dot_at s n true (decide_eq_true hp))
  have HK := Lib.hid hk
  have hk1 := hk.1
  rw [ByteArray.size_extract] at hk1
  have hnlt : n + 3 ≤ s.size := by omega
  have hnlt' : (n : Int) + 3 ≤ (s.size : Int) := by omega
  have hi1 : (n : Int) + 1 < (s.size : Int) := by omega
  have hi2 : (n : Int) + 2 < (s.size : Int) := by omega
  have hq1 : (0 : Int) ≤ (n : Int) + 1 := by omega
  have hq2 : (0 : Int) ≤ (n : Int) + 2 := by omega
  have hr1 : ((n : Int) + 1).toNat = n + 1 := by omega
  have hr2 : ((n : Int) + 2).toNat = n + 2 := by omega
  have hj1 : n + 1 < s.size := by omega
  have hj2 : n + 2 < s.size := by omega
  have hd1 := of_decide_eq_true (hk.2.1 0 (by omega))
  have hd2 := of_decide_eq_true (hk.2.1 1 (by omega))
  rw [bt_suffix] at hd1 hd2
  rw [Nat.add_zero] at hd1
  rw [show n + 1 + 1 = n + 2 from rfl] at hd2
  have hb1 : bt s (n + 1) = (s[n + 1].toNat : Int) := bt_in (by omega)
  have hb2 : bt s (n + 2) = (s[n + 2].toNat : Int) := bt_in (by omega)
  rw [hb1] at hd1 hv
  rw [hb2] at hd2 hv
  try rw [hb1, hb2]
  clear hp hk hb1 hb2 hk1
  have HN := Lib.hid hn
  have hle := hn.1
  have HR := Lib.hid hr
  have HZ := Lib.hid ((Below.refl w.heap.size w).alloc (Nat.le_refl _) (.cells #[.int .i64 0, .string ByteArray.empty, .int .i64 0, .bool false, .int .i64 0] 32))
  have HX := Lib.hid (TBox.made w 32 0 ByteArray.empty 0 false 0)
  clear hn hr
  go_enter Tryd.func30, Tryd.ntmps30
  go_wp2_with fail
  refine (digits_any s _).mono ?_
  rintro e w1 ⟨m, rfl, h1, h2⟩
  obtain rfl := h1.unique HN.out
  have HB1 := Lib.hid (HZ.out.trans (h2.mono HZ.out.size))
  have HX1 := Lib.hid (HX.out.below h2)
  clear h1 h2
  have hle' : (m : Int) ≤ (s.size : Int) := by omega
  go_wp2_with fail
  refine (HR.out _).mono ?_
  rintro e w2 ⟨rfl, h2⟩
  have HB2 := Lib.hid (HB1.out.trans (h2.mono HB1.out.size))
  have HX2 := Lib.hid (HX1.out.below h2)
  have hne : w.heap.size < w2.heap.size := by
    have h3 := h2.size
    by_cases hlt : w.heap.size < w2.heap.size
    · exact hlt
    · have := HX2.out.1.1
      have hz : w2.heap[w.heap.size]? = none := Array.getElem?_eq_none (by omega)
      simp [World.cell?, hz] at this
  clear h2 HX1 HX
  obtain ⟨⟨c0, c1, c2, c3, c4⟩, z0, z1, z2, z3, z4⟩ := HX2.out
  have HY := Lib.hid (TBox.made w2 32 2 (s.extract 0 m) (100 * u) false a)
  have HX3 := Lib.hid (HX2.out.below ((Below.refl w2.heap.size w2).alloc (Nat.le_refl _) (.cells #[.int .i64 2, .string (s.extract 0 m), .int .i64 (100 * u), .bool false, .int .i64 a] 32)))
  go_wp2_with fail
  refine (HD.out _).mono ?_
  rintro e w3 ⟨rfl, h3⟩
  subst w3
  go_wp2_with fail
  refine (digits_any _ _).mono ?_
  rintro e w3 ⟨k', rfl, h1, h2⟩
  obtain rfl := h1.unique HK.out
  have HB3 := Lib.hid ((HB2.out.alloc (by omega) (.cells #[.int .i64 2, .string (s.extract 0 m), .int .i64 (100 * u), .bool false, .int .i64 a] 32)).trans (h2.mono (by simp; omega)))
  have HY3 := Lib.hid (HY.out.below h2)
  have HX4 := Lib.hid (HX3.out.below h2)
  clear h1 h2 c0 c1 c2 c3 c4 z0 z1 z2 z3 z4 HX2 HX3 HY
  have hk2B : decide ((k' : Int) < 2) = false := decide_eq_false (by omega)
  obtain ⟨⟨c0, c1, c2, c3, c4⟩, z0, z1, z2, z3, z4⟩ := HX4.out
  obtain ⟨⟨y0, y1, y2, y3, y4⟩, x0, x1, x2, x3, x4⟩ := HY3.out
  have HY4 := Lib.hid (HY3.out.two true (s.extract 0 (m + 3)))
  have HX5 := Lib.hid ((HX4.out.away hne 3 (.bool true)).away hne 1 (.string (s.extract 0 (m + 3))))
  have HB4 : Hid (Below w.heap.size w ((w3.setCell ⟨w2.heap.size, 3, none⟩ (.bool true)).setCell ⟨w2.heap.size, 1, none⟩ (.string (s.extract 0 (m + 3))))) := (HB3.out.setCell (by simp; omega) _).setCell (by simp; omega) _
  go_wp2_with fail
  clear c0 c1 c2 c3 c4 z0 z1 z2 z3 z4 y0 y1 y2 y3 y4 x0 x1 x2 x3 x4
  generalize (w3.setCell ⟨w2.heap.size, 3, none⟩ (.bool true)).setCell ⟨w2.heap.size, 1, none⟩ (.string (s.extract 0 (m + 3))) = w4 at *
  obtain ⟨⟨c0, c1, c2, c3, c4⟩, z0, z1, z2, z3, z4⟩ := HX5.out
  obtain ⟨⟨y0, y1, y2, y3, y4⟩, x0, x1, x2, x3, x4⟩ := HY4.out
  go_region
  generalize hV : 100 * u + (10 * ((s[m + 1].toNat : Int) - 48) + ((s[m + 2].toNat : Int) - 48)) = V at *
  have HY5 := Lib.hid ((HY4.out.num V).drawn)
  have HX6 := Lib.hid ((HX5.out.away hne 2 (.int .i64 V)).drawn)
  have HB5 : Hid (Below w.heap.size w (w4.setCell ⟨w2.heap.size, 2, none⟩ (.int .i64 V)).drew) := (HB4.out.setCell (by simp; omega) _).drew
  clear c0 c1 c2 c3 c4 z0 z1 z2 z3 z4 y0 y1 y2 y3 y4 x0 x1 x2 x3 x4
  generalize (w4.setCell ⟨w2.heap.size, 2, none⟩ (.int .i64 V)).drew = w5 at *
  obtain ⟨⟨c0, c1, c2, c3, c4⟩, z0, z1, z2, z3, z4⟩ := HX6.out
  obtain ⟨⟨y0, y1, y2, y3, y4⟩, x0, x1, x2, x3, x4⟩ := HY5.out
  have hvB : decide ((1000000000000 : Int) < V) = false := decide_eq_false (by omega)
  go_wp2_with fail
  refine bodyPost_ret (v := tokV 2 (s.extract 0 (m + 3)) V true a) ?_ rfl ⟨by rw [hV], ?_⟩
  · obtain ⟨⟨e0, e1, e2, e3, e4⟩, -⟩ := HX6.out.put 2 (s.extract 0 (m + 3)) V true a
    unfold tput at e0 e1 e2 e3 e4
    simp [results, Tryd.results30, go_sem, e0, e1, e2, e3, e4, tokV]
  · exact ((((HB5.out.setCell (by simp) _).setCell (by simp) _).setCell (by simp) _).setCell (by simp) _).setCell (by simp) _
set_option maxRecDepth 100000 in
set_option maxHeartbeats 2000000 in
theorem number_pointZ (s : ByteArray) (a : Int) (n k : Nat) (u : Int) (w : World) (hn : SpanIs digB s n) (hr : Reads s n u) (hu0 : 0 ≤ u) (hu : u ≤ 10000000000) (hn0 : 0 < n) (h0 : bt s 0 = 48) (h1B : decide ((1 : Int) < (n : Int)) = false) (hp : bt s n = 46) (hk : SpanIs digB (s.extract (n + 1) s.size) k) (hk2 : 2 ≤ k) (ha : 0 ≤ a) (has : a + s.size ≤ 140737488351232) (hv : 100 * u + (10 * (bt s (n + 1) - 48) + (bt s (n + 2) - 48)) ≤ 1000000000000) :
    Calls Tryd.prog 30 #[.string s, .int .i64 a] w fun e w' => e = .returned (tokV 2 (s.extract 0 (n + 3)) (100 * u + (10 * (bt s (n + 1) - 48) + (bt s (n + 2) - 48))) true a) ∧ Below w.heap.size w w' := by
  have hs0 : 0 < s.size := by have := hn.1; omega
  have hs0' : (0 : Int) < (s.size : Int) := by omega
  have huB : decide ((10000000000 : Int) < u) = false := decide_eq_false (by omega)
  have hb : (s[0].toNat : Int) = 48 := by rw [← bt_in hs0]; exact h0
  have HD := Lib.hid (dot_at s n true (decide_eq_true hp))
  have HK := Lib.hid hk
  have hk1 := hk.1
  rw [ByteArray.size_extract] at hk1
  have hnlt : n + 3 ≤ s.size := by omega
  have hnlt' : (n : Int) + 3 ≤ (s.size : Int) := by omega
  have hi1 : (n : Int) + 1 < (s.size : Int) := by omega
  have hi2 : (n : Int) + 2 < (s.size : Int) := by omega
  have hq1 : (0 : Int) ≤ (n : Int) + 1 := by omega
  have hq2 : (0 : Int) ≤ (n : Int) + 2 := by omega
  have hr1 : ((n : Int) + 1).toNat = n + 1 := by omega
  have hr2 : ((n : Int) + 2).toNat = n + 2 := by omega
  have hj1 : n + 1 < s.size := by omega
  have hj2 : n + 2 < s.size := by omega
  have hd1 := of_decide_eq_true (hk.2.1 0 (by omega))
  have hd2 := of_decide_eq_true (hk.2.1 1 (by omega))
  rw [bt_suffix] at hd1 hd2
  rw [Nat.add_zero] at hd1
  rw [show n + 1 + 1 = n + 2 from rfl] at hd2
  have hb1 : bt s (n + 1) = (s[n + 1].toNat : Int) := bt_in (by omega)
  have hb2 : bt s (n + 2) = (s[n + 2].toNat : Int) := bt_in (by omega)
  rw [hb1] at hd1 hv
  rw [hb2] at hd2 hv
  try rw [hb1, hb2]
  clear hp hk hb1 hb2 hk1
  have HN := Lib.hid hn
  have hle := hn.1
  have HR := Lib.hid hr
  have HZ := Lib.hid ((Below.refl w.heap.size w).alloc (Nat.le_refl _) (.cells #[.int .i64 0, .string ByteArray.empty, .int .i64 0, .bool false, .int .i64 0] 32))
  have HX := Lib.hid (TBox.made w 32 0 ByteArray.empty 0 false 0)
  clear hn hr
  go_enter Tryd.func30, Tryd.ntmps30
  go_wp2_with fail
  refine (digits_any s _).mono ?_
  rintro e w1 ⟨m, rfl, h1, h2⟩
  obtain rfl := h1.unique HN.out
  have HB1 := Lib.hid (HZ.out.trans (h2.mono HZ.out.size))
  have HX1 := Lib.hid (HX.out.below h2)
  clear h1 h2
  have hle' : (m : Int) ≤ (s.size : Int) := by omega
  go_wp2_with fail
  refine (HR.out _).mono ?_
  rintro e w2 ⟨rfl, h2⟩
  have HB2 := Lib.hid (HB1.out.trans (h2.mono HB1.out.size))
  have HX2 := Lib.hid (HX1.out.below h2)
  have hne : w.heap.size < w2.heap.size := by
    have h3 := h2.size
    by_cases hlt : w.heap.size < w2.heap.size
    · exact hlt
    · have := HX2.out.1.1
      have hz : w2.heap[w.heap.size]? = none := Array.getElem?_eq_none (by omega)
      simp [World.cell?, hz] at this
  clear h2 HX1 HX
  obtain ⟨⟨c0, c1, c2, c3, c4⟩, z0, z1, z2, z3, z4⟩ := HX2.out
  have HY := Lib.hid (TBox.made w2 32 2 (s.extract 0 m) (100 * u) false a)
  have HX3 := Lib.hid (HX2.out.below ((Below.refl w2.heap.size w2).alloc (Nat.le_refl _) (.cells #[.int .i64 2, .string (s.extract 0 m), .int .i64 (100 * u), .bool false, .int .i64 a] 32)))
  go_wp2_with fail
  refine (HD.out _).mono ?_
  rintro e w3 ⟨rfl, h3⟩
  subst w3
  go_wp2_with fail
  refine (digits_any _ _).mono ?_
  rintro e w3 ⟨k', rfl, h1, h2⟩
  obtain rfl := h1.unique HK.out
  have HB3 := Lib.hid ((HB2.out.alloc (by omega) (.cells #[.int .i64 2, .string (s.extract 0 m), .int .i64 (100 * u), .bool false, .int .i64 a] 32)).trans (h2.mono (by simp; omega)))
  have HY3 := Lib.hid (HY.out.below h2)
  have HX4 := Lib.hid (HX3.out.below h2)
  clear h1 h2 c0 c1 c2 c3 c4 z0 z1 z2 z3 z4 HX2 HX3 HY
  have hk2B : decide ((k' : Int) < 2) = false := decide_eq_false (by omega)
  obtain ⟨⟨c0, c1, c2, c3, c4⟩, z0, z1, z2, z3, z4⟩ := HX4.out
  obtain ⟨⟨y0, y1, y2, y3, y4⟩, x0, x1, x2, x3, x4⟩ := HY3.out
  have HY4 := Lib.hid (HY3.out.two true (s.extract 0 (m + 3)))
  have HX5 := Lib.hid ((HX4.out.away hne 3 (.bool true)).away hne 1 (.string (s.extract 0 (m + 3))))
  have HB4 : Hid (Below w.heap.size w ((w3.setCell ⟨w2.heap.size, 3, none⟩ (.bool true)).setCell ⟨w2.heap.size, 1, none⟩ (.string (s.extract 0 (m + 3))))) := (HB3.out.setCell (by simp; omega) _).setCell (by simp; omega) _
  go_wp2_with fail
  clear c0 c1 c2 c3 c4 z0 z1 z2 z3 z4 y0 y1 y2 y3 y4 x0 x1 x2 x3 x4
  generalize (w3.setCell ⟨w2.heap.size, 3, none⟩ (.bool true)).setCell ⟨w2.heap.size, 1, none⟩ (.string (s.extract 0 (m + 3))) = w4 at *
  obtain ⟨⟨c0, c1, c2, c3, c4⟩, z0, z1, z2, z3, z4⟩ := HX5.out
  obtain ⟨⟨y0, y1, y2, y3, y4⟩, x0, x1, x2, x3, x4⟩ := HY4.out
  go_region
  generalize hV : 100 * u + (10 * ((s[m + 1].toNat : Int) - 48) + ((s[m + 2].toNat : Int) - 48)) = V at *
  have HY5 := Lib.hid ((HY4.out.num V).drawn)
  have HX6 := Lib.hid ((HX5.out.away hne 2 (.int .i64 V)).drawn)
  have HB5 : Hid (Below w.heap.size w (w4.setCell ⟨w2.heap.size, 2, none⟩ (.int .i64 V)).drew) := (HB4.out.setCell (by simp; omega) _).drew
  clear c0 c1 c2 c3 c4 z0 z1 z2 z3 z4 y0 y1 y2 y3 y4 x0 x1 x2 x3 x4
  generalize (w4.setCell ⟨w2.heap.size, 2, none⟩ (.int .i64 V)).drew = w5 at *
  obtain ⟨⟨c0, c1, c2, c3, c4⟩, z0, z1, z2, z3, z4⟩ := HX6.out
  obtain ⟨⟨y0, y1, y2, y3, y4⟩, x0, x1, x2, x3, x4⟩ := HY5.out
  have hvB : decide ((1000000000000 : Int) < V) = false := decide_eq_false (by omega)
  go_wp2_with fail
  refine bodyPost_ret (v := tokV 2 (s.extract 0 (m + 3)) V true a) ?_ rfl ⟨by rw [hV], ?_⟩
  · obtain ⟨⟨e0, e1, e2, e3, e4⟩, -⟩ := HX6.out.put 2 (s.extract 0 (m + 3)) V true a
    unfold tput at e0 e1 e2 e3 e4
    simp [results, Tryd.results30, go_sem, e0, e1, e2, e3, e4, tokV]
  · exact ((((HB5.out.setCell (by simp) _).setCell (by simp) _).setCell (by simp) _).setCell (by simp) _).setCell (by simp) _
set_option maxRecDepth 100000 in
set_option maxHeartbeats 2000000 in
theorem number_over (s : ByteArray) (a : Int) (n k : Nat) (u : Int) (w : World) (hn : SpanIs digB s n) (hr : Reads s n u) (hu0 : 0 ≤ u) (hu : u ≤ 10000000000) (hn0 : 0 < n) (h0 : bt s 0 ≠ 48) (hp : bt s n = 46) (hk : SpanIs digB (s.extract (n + 1) s.size) k) (hk2 : 2 ≤ k) (ha : 0 ≤ a) (has : a + s.size ≤ 140737488351232) (hv : 1000000000000 < 100 * u + (10 * (bt s (n + 1) - 48) + (bt s (n + 2) - 48))) :
    Calls Tryd.prog 30 #[.string s, .int .i64 a] w fun e w' => e = .panicked (gone 3 a) ∧ Below w.heap.size w w' := by
  have hs0 : 0 < s.size := by have := hn.1; omega
  have hs0' : (0 : Int) < (s.size : Int) := by omega
  have huB : decide ((10000000000 : Int) < u) = false := decide_eq_false (by omega)
  have hb : ((s[0].toNat : Int) == 48) = false := by rw [← bt_in hs0]; simpa using h0
  have HD := Lib.hid (dot_at s n true (decide_eq_true hp))
  have HK := Lib.hid hk
  have hk1 := hk.1
  rw [ByteArray.size_extract] at hk1
  have hnlt : n + 3 ≤ s.size := by omega
  have hnlt' : (n : Int) + 3 ≤ (s.size : Int) := by omega
  have hi1 : (n : Int) + 1 < (s.size : Int) := by omega
  have hi2 : (n : Int) + 2 < (s.size : Int) := by omega
  have hq1 : (0 : Int) ≤ (n : Int) + 1 := by omega
  have hq2 : (0 : Int) ≤ (n : Int) + 2 := by omega
  have hr1 : ((n : Int) + 1).toNat = n + 1 := by omega
  have hr2 : ((n : Int) + 2).toNat = n + 2 := by omega
  have hj1 : n + 1 < s.size := by omega
  have hj2 : n + 2 < s.size := by omega
  have hd1 := of_decide_eq_true (hk.2.1 0 (by omega))
  have hd2 := of_decide_eq_true (hk.2.1 1 (by omega))
  rw [bt_suffix] at hd1 hd2
  rw [Nat.add_zero] at hd1
  rw [show n + 1 + 1 = n + 2 from rfl] at hd2
  have hb1 : bt s (n + 1) = (s[n + 1].toNat : Int) := bt_in (by omega)
  have hb2 : bt s (n + 2) = (s[n + 2].toNat : Int) := bt_in (by omega)
  rw [hb1] at hd1 hv
  rw [hb2] at hd2 hv
  try rw [hb1, hb2]
  clear hp hk hb1 hb2 hk1
  have HN := Lib.hid hn
  have hle := hn.1
  have HR := Lib.hid hr
  have HZ := Lib.hid ((Below.refl w.heap.size w).alloc (Nat.le_refl _) (.cells #[.int .i64 0, .string ByteArray.empty, .int .i64 0, .bool false, .int .i64 0] 32))
  have HX := Lib.hid (TBox.made w 32 0 ByteArray.empty 0 false 0)
  clear hn hr
  go_enter Tryd.func30, Tryd.ntmps30
  go_wp2_with fail
  refine (digits_any s _).mono ?_
  rintro e w1 ⟨m, rfl, h1, h2⟩
  obtain rfl := h1.unique HN.out
  have HB1 := Lib.hid (HZ.out.trans (h2.mono HZ.out.size))
  have HX1 := Lib.hid (HX.out.below h2)
  clear h1 h2
  have hle' : (m : Int) ≤ (s.size : Int) := by omega
  go_wp2_with fail
  refine (HR.out _).mono ?_
  rintro e w2 ⟨rfl, h2⟩
  have HB2 := Lib.hid (HB1.out.trans (h2.mono HB1.out.size))
  have HX2 := Lib.hid (HX1.out.below h2)
  have hne : w.heap.size < w2.heap.size := by
    have h3 := h2.size
    by_cases hlt : w.heap.size < w2.heap.size
    · exact hlt
    · have := HX2.out.1.1
      have hz : w2.heap[w.heap.size]? = none := Array.getElem?_eq_none (by omega)
      simp [World.cell?, hz] at this
  clear h2 HX1 HX
  obtain ⟨⟨c0, c1, c2, c3, c4⟩, z0, z1, z2, z3, z4⟩ := HX2.out
  have HY := Lib.hid (TBox.made w2 32 2 (s.extract 0 m) (100 * u) false a)
  have HX3 := Lib.hid (HX2.out.below ((Below.refl w2.heap.size w2).alloc (Nat.le_refl _) (.cells #[.int .i64 2, .string (s.extract 0 m), .int .i64 (100 * u), .bool false, .int .i64 a] 32)))
  go_wp2_with fail
  refine (HD.out _).mono ?_
  rintro e w3 ⟨rfl, h3⟩
  subst w3
  go_wp2_with fail
  refine (digits_any _ _).mono ?_
  rintro e w3 ⟨k', rfl, h1, h2⟩
  obtain rfl := h1.unique HK.out
  have HB3 := Lib.hid ((HB2.out.alloc (by omega) (.cells #[.int .i64 2, .string (s.extract 0 m), .int .i64 (100 * u), .bool false, .int .i64 a] 32)).trans (h2.mono (by simp; omega)))
  have HY3 := Lib.hid (HY.out.below h2)
  have HX4 := Lib.hid (HX3.out.below h2)
  clear h1 h2 c0 c1 c2 c3 c4 z0 z1 z2 z3 z4 HX2 HX3 HY
  have hk2B : decide ((k' : Int) < 2) = false := decide_eq_false (by omega)
  obtain ⟨⟨c0, c1, c2, c3, c4⟩, z0, z1, z2, z3, z4⟩ := HX4.out
  obtain ⟨⟨y0, y1, y2, y3, y4⟩, x0, x1, x2, x3, x4⟩ := HY3.out
  have HY4 := Lib.hid (HY3.out.two true (s.extract 0 (m + 3)))
  have HX5 := Lib.hid ((HX4.out.away hne 3 (.bool true)).away hne 1 (.string (s.extract 0 (m + 3))))
  have HB4 : Hid (Below w.heap.size w ((w3.setCell ⟨w2.heap.size, 3, none⟩ (.bool true)).setCell ⟨w2.heap.size, 1, none⟩ (.string (s.extract 0 (m + 3))))) := (HB3.out.setCell (by simp; omega) _).setCell (by simp; omega) _
  go_wp2_with fail
  clear c0 c1 c2 c3 c4 z0 z1 z2 z3 z4 y0 y1 y2 y3 y4 x0 x1 x2 x3 x4
  generalize (w3.setCell ⟨w2.heap.size, 3, none⟩ (.bool true)).setCell ⟨w2.heap.size, 1, none⟩ (.string (s.extract 0 (m + 3))) = w4 at *
  obtain ⟨⟨c0, c1, c2, c3, c4⟩, z0, z1, z2, z3, z4⟩ := HX5.out
  obtain ⟨⟨y0, y1, y2, y3, y4⟩, x0, x1, x2, x3, x4⟩ := HY4.out
  go_region
  generalize hV : 100 * u + (10 * ((s[m + 1].toNat : Int) - 48) + ((s[m + 2].toNat : Int) - 48)) = V at *
  have HY5 := Lib.hid ((HY4.out.num V).drawn)
  have HX6 := Lib.hid ((HX5.out.away hne 2 (.int .i64 V)).drawn)
  have HB5 : Hid (Below w.heap.size w (w4.setCell ⟨w2.heap.size, 2, none⟩ (.int .i64 V)).drew) := (HB4.out.setCell (by simp; omega) _).drew
  clear c0 c1 c2 c3 c4 z0 z1 z2 z3 z4 y0 y1 y2 y3 y4 x0 x1 x2 x3 x4
  generalize (w4.setCell ⟨w2.heap.size, 2, none⟩ (.int .i64 V)).drew = w5 at *
  obtain ⟨⟨c0, c1, c2, c3, c4⟩, z0, z1, z2, z3, z4⟩ := HX6.out
  obtain ⟨⟨y0, y1, y2, y3, y4⟩, x0, x1, x2, x3, x4⟩ := HY5.out
  have hvB : (1000000000000 : Int) < V := by omega
  go_wp2_with fail
  refine (giveUp_any _ _ _).mono ?_
  rintro e w6 ⟨rfl, rfl⟩
  go_wp2_with fail
  exact ⟨rfl, rfl, HB5.out⟩
end Go.Proofs.YtgiacemmigjloaaDoor
