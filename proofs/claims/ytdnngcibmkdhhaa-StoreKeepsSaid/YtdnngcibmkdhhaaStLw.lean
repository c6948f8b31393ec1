/-
  Promise S1: what the law holds ahead of each round: where disk and store lie, and its own boxes.
-/
import Derived.Test.YtdnngcibmkdhhaaStTxt
import Derived.Test.YtdnngcibmkdhhaaStAft
set_option linter.unusedSimpArgs false
namespace Go.Proofs.Ytdnngcibmkdhhaa
open Go.RowKit

theorem gs_new {N : Nat} (h : 80 ≤ N) (h1 : N ≤ 100000) : GS (List.replicate N zero64) := by
  refine ⟨by simpa using ⟨h, h1⟩, fun j hj => by rw [dnth_rep (by simpa using hj)]; exact zero64_size, ?_⟩
  rw [dnth_rep (by omega)]
  decide
theorem kept_new {N : Nat} (h : 80 ≤ N) : keptT (List.replicate N zero64) = ⟨#[]⟩ := by
  unfold keptT
  rw [dnth_rep (by omega), show hdL zero64 = 0 from rfl, List.take_zero]
theorem DkAt.set1 {w : World} {b c : Nat} {x : Option Addr} {D : Dk} (h : DkAt w b x c D) {p i : Nat} (hp : p ≠ b) (hx : ∀ a, x = some a → p ≠ a.block) (v : Value) : DkAt (w.setCell ⟨p, i, none⟩ v) b x c D := by
  refine ⟨h.1.other (Ne.symm hp) i v, fun h0 => ?_⟩
  obtain ⟨g, e, h1, h2, h3⟩ := h.2 h0
  have e1 := hx _ e
  exact ⟨g, e, h1, by simpa using h2, fun j hj => ⟨set_oth _ (fun e => e1 (by injection e)) (h3 j hj).1, by rw [World.frozen?_setCell]; exact (h3 j hj).2⟩⟩
theorem StAt.set1 {w : World} {q b : Nat} {o : Bool} (h : StAt w q b o) {p i : Nat} (hp : p ≠ q) (v : Value) : StAt (w.setCell ⟨p, i, none⟩ v) q b o :=
  ⟨set_oth _ (fun e => hp (by injection e)) h.1, set_oth _ (fun e => hp (by injection e)) h.2.1, by rw [World.frozen?_setCell]; exact h.2.2⟩
theorem Kp.kq {q b : Nat} {x : Option Addr} {w w' : World} (h : Kp q none w w') : Kq q b x w w' :=
  ⟨h.1, h.2.1, h.2.2.1, h.2.2.2.1, fun k h1 h2 _ _ => h.2.2.2.2 k h1 h2 (fun a ha => by cases ha)⟩
theorem Kq.of {q b : Nat} {x : Option Addr} {w w' : World} (h : Below w.heap.size w w') : Kq q b x w w' := ⟨h.os, h.tape, h.output, h.size, fun k hk _ _ _ => h.block k hk⟩
theorem DkAt.kpq {w w' : World} {q b c : Nat} {x : Option Addr} {D : Dk} (h : DkAt w b x c D) (hk : Kp q none w w') (hq : q ≠ b) (hx : ∀ a, x = some a → q ≠ a.block) : DkAt w' b x c D := by
  refine ⟨?_, fun h0 => ?_⟩
  · unfold OB
    rw [hk.2.2.2.2 b h.lt (Ne.symm hq) (fun a ha => by cases ha)]
    exact h.1
  · obtain ⟨g, e, h1, h2, h3⟩ := h.2 h0
    have e1 := hx _ e
    refine ⟨g, e, h1, Nat.lt_of_lt_of_le h2 hk.2.2.2.1, fun j hj => ?_⟩
    have := hk.cell (p := ⟨g, j, none⟩) h2 (Ne.symm e1) (fun a ha => by cases ha)
    exact ⟨this.1.trans (h3 j hj).1, this.2.trans (h3 j hj).2⟩
/-- One of the law's boxes. -/
def B1 (w : World) (k : Nat) (v : Value) : Prop := w.cell? ⟨k, 0, none⟩ = some v ∧ w.frozen? ⟨k, 0, none⟩ = false
theorem B1.kq {w w' : World} {k q b : Nat} {x : Option Addr} {v : Value} (h : B1 w k v) (hk : Kq q b x w w') (h1 : k ≠ q) (h2 : k ≠ b) (h3 : ∀ a, x = some a → k ≠ a.block) : B1 w' k v := by
  have := hk.2.2.2.2 k (blt_of_cell h.1) h1 h2 h3
  unfold B1 World.cell? World.frozen? at *
  rw [this]
  exact h
theorem B1.set {w : World} {k p i : Nat} {v : Value} (h : B1 w k v) (hp : p ≠ k) (u : Value) : B1 (w.setCell ⟨p, i, none⟩ u) k v :=
  ⟨set_oth _ (fun e => hp (by injection e)) h.1, by rw [World.frozen?_setCell]; exact h.2⟩
theorem B1.put {w : World} {k : Nat} {v : Value} (h : B1 w k v) (u : Value) : B1 (w.setCell ⟨k, 0, none⟩ u) k u :=
  ⟨World.cell?_setCell_same _ _ _ h.1, by rw [World.frozen?_setCell]; exact h.2⟩
theorem B1.below {w w' : World} {k B : Nat} {v : Value} (h : B1 w k v) (hb : Below B w w') (hk : k < B) : B1 w' k v :=
  ⟨(hb.cell (p := ⟨k, 0, none⟩) hk).trans h.1, (hb.frozen (p := ⟨k, 0, none⟩) hk).trans h.2⟩
theorem B1.lt {w : World} {k : Nat} {v : Value} (h : B1 w k v) : k < w.heap.size := blt_of_cell h.1
/-- A block apart from a store and a disk. -/
def Ap (k q b : Nat) (x : Option Addr) : Prop := k ≠ q ∧ k ≠ b ∧ ∀ a, x = some a → k ≠ a.block
def LwI (w wr : World) (db sb eb : Nat) (D : Dk) (b : Nat) (x : Option Addr) (c q : Nat) (o : Bool) : Prop :=
  (DkAt wr b x c D ∧ StAt wr q b o ∧ GS D.secs ∧ (o = false → D.off = false)) ∧ (B1 wr db (.pointer (some ⟨b, 0, none⟩)) ∧ B1 wr sb (.pointer (some ⟨q, 0, none⟩)) ∧ B1 wr eb (.int .i64 0)) ∧ (Ap db q b x ∧ Ap sb q b x ∧ Ap eb q b x) ∧ (q ≠ b ∧ ∀ a, x = some a → q ≠ a.block) ∧ (w.heap.size ≤ b ∧ w.heap.size ≤ q ∧ ∀ a, x = some a → w.heap.size ≤ a.block) ∧ Below w.heap.size w wr
/-- The law's boxes lie apart. -/
def Bxs (B db sb eb : Nat) : Prop := (B ≤ db ∧ B ≤ sb ∧ B ≤ eb) ∧ db ≠ sb ∧ db ≠ eb ∧ sb ≠ eb
theorem LwI.drew {w wr : World} {db sb eb b c q : Nat} {D : Dk} {x : Option Addr} {o : Bool} (h : LwI w wr db sb eb D b x c q o) : LwI w wr.drew db sb eb D b x c q o :=
  ⟨h.1, h.2.1, h.2.2.1, h.2.2.2.1, h.2.2.2.2.1, kbelow_dN h.2.2.2.2.2 1⟩
theorem LwI.kq {w wr w' : World} {db sb eb b c q : Nat} {D D' : Dk} {x : Option Addr} {o o' : Bool} (h : LwI w wr db sb eb D b x c q o) (hk : Kq q b x wr w') (hd : DkAt w' b x c D') (hs : StAt w' q b o') (hg : GS D'.secs) (ho : o' = false → D'.off = false) : LwI w w' db sb eb D' b x c q o' := by
  obtain ⟨_, ⟨e1, e2, e3⟩, ⟨a1, a2, a3⟩, hq, hB, hb⟩ := h
  exact ⟨⟨hd, hs, hg, ho⟩, ⟨e1.kq hk a1.1 a1.2.1 a1.2.2, e2.kq hk a2.1 a2.2.1 a2.2.2, e3.kq hk a3.1 a3.2.1 a3.2.2⟩, ⟨a1, a2, a3⟩, hq, hB, hb.trans (hk.below hB.2.1 hB.1 hB.2.2 hb.size)⟩
theorem LwI.text {w wr w' : World} {db sb eb b c q : Nat} {D : Dk} {x : Option Addr} {o : Bool} (h : LwI w wr db sb eb D b x c q o) (hs : StAt w' q b o) (hk : Kp q none wr w') : LwI w w' db sb eb D b x c q o :=
  h.kq hk.kq (h.1.1.kpq hk h.2.2.2.1.1 h.2.2.2.1.2) hs h.1.2.2.1 h.1.2.2.2
theorem LwI.off {w wr w' : World} {db sb eb b c q : Nat} {D : Dk} {x : Option Addr} {o : Bool} (h : LwI w wr db sb eb D b x c q o) (hb : Below wr.heap.size wr w') : LwI w w' db sb eb D b x c q o :=
  h.kq (Kq.of hb) (h.1.1.below hb) (h.1.2.1.below hb h.1.2.1.lt) h.1.2.2.1 h.1.2.2.2
/-- The power is there again: another disk, another store. -/
theorem LwI.cut {w wr wa wc : World} {db sb eb b c q b' c' q' : Nat} {D : Dk} {x x' : Option Addr} {o : Bool} {p : Int} (h : LwI w wr db sb eb D b x c q o) (hx : Bxs w.heap.size db sb eb) (hb' : wr.heap.size ≤ b') (hda : DkAt wa b' x' c' ⟨D.secs, p, 0, false⟩) (hx' : ∀ a, x' = some a → wr.heap.size ≤ a.block) (hba : Below wr.heap.size wr wa) (hq' : wa.heap.size ≤ q') (hsc : StAt wc q' b' false) (hbc : Below wa.heap.size (wa.setCell ⟨db, 0, none⟩ (.pointer (some ⟨b', 0, none⟩))) wc) :
    LwI w ((wc.setCell ⟨sb, 0, none⟩ (.pointer (some ⟨q', 0, none⟩))).setCell ⟨eb, 0, none⟩ (.int .i64 0)) db sb eb ⟨D.secs, p, 0, false⟩ b' x' c' q' false := by
  obtain ⟨⟨_, _, hg, _⟩, ⟨e1, e2, e3⟩, _, _, hB, hb⟩ := h
  have l1 := e1.lt
  have l2 := e2.lt
  have l3 := e3.lt
  have ha := hba.size
  have hw := hb.size
  have hxa := hda.xlt (by have := hg.1.1; show 0 < D.secs.length; omega)
  have hda' := (hda.set1 (p := db) (i := 0) (by omega) (fun a ha => by have := hx' a ha; omega) (.pointer (some ⟨b', 0, none⟩))).below (by simpa using hbc)
  obtain ⟨⟨m1, m2, m3⟩, n1, n2, n3⟩ := hx
  have E1 := ((e1.below hba l1).put (.pointer (some ⟨b', 0, none⟩))).below hbc (by omega)
  have E2 := ((e2.below hba l2).set (p := db) (i := 0) n1 (.pointer (some ⟨b', 0, none⟩))).below hbc (by omega)
  have E3 := ((e3.below hba l3).set (p := db) (i := 0) n2 (.pointer (some ⟨b', 0, none⟩))).below hbc (by omega)
  refine ⟨⟨(hda'.set1 (p := sb) (by omega) (fun a ha => by have := hx' a ha; omega) _).set1 (p := eb) (by omega) (fun a ha => by have := hx' a ha; omega) _, (hsc.set1 (p := sb) (by omega) _).set1 (p := eb) (by omega) _, hg, fun _ => rfl⟩, ⟨(E1.set (Ne.symm n1) _).set (Ne.symm n2) _, (E2.put _).set (Ne.symm n3) _, (E3.set n3 _).put _⟩, ⟨⟨by omega, by omega, fun a ha => by have := hx' a ha; omega⟩, ⟨by omega, by omega, fun a ha => by have := hx' a ha; omega⟩, ⟨by omega, by omega, fun a ha => by have := hx' a ha; omega⟩⟩, ⟨by have := hda.lt; omega, fun a ha => by have := hxa a ha; omega⟩, ⟨by omega, by omega, fun a ha => by have := hx' a ha; omega⟩, ?_⟩
  exact (((hb.trans (hba.mono hw)).setCell (p := ⟨db, 0, none⟩) m1 _).trans (hbc.mono (by first | omega | (simp; omega)))).setCell (p := ⟨sb, 0, none⟩) m2 _ |>.setCell (p := ⟨eb, 0, none⟩) m3 _
theorem LwI.cutB {w wr wa wc : World} {db sb eb b c q b' : Nat} {D : Dk} {x : Option Addr} {o : Bool} (h : LwI w wr db sb eb D b x c q o) (hx : Bxs w.heap.size db sb eb) (hba : Below wr.heap.size wr wa) (hbc : Below wa.heap.size (wa.setCell ⟨db, 0, none⟩ (.pointer (some ⟨b', 0, none⟩))) wc) (q' : Nat) :
    B1 wc db (.pointer (some ⟨b', 0, none⟩)) ∧ B1 wc sb (.pointer (some ⟨q, 0, none⟩)) ∧ B1 wc eb (.int .i64 0) ∧ B1 (wc.setCell ⟨sb, 0, none⟩ (.pointer (some ⟨q', 0, none⟩))) eb (.int .i64 0) := by
  obtain ⟨_, ⟨e1, e2, e3⟩, _, _, _, _⟩ := h
  have l1 := e1.lt
  have l2 := e2.lt
  have l3 := e3.lt
  have ha := hba.size
  obtain ⟨_, n1, n2, n3⟩ := hx
  have E1 := ((e1.below hba l1).put (.pointer (some ⟨b', 0, none⟩))).below hbc (by omega)
  have E2 := ((e2.below hba l2).set (p := db) (i := 0) n1 (.pointer (some ⟨b', 0, none⟩))).below hbc (by omega)
  have E3 := ((e3.below hba l3).set (p := db) (i := 0) n2 (.pointer (some ⟨b', 0, none⟩))).below hbc (by omega)
  exact ⟨E1, E2, E3, E3.set n3 _⟩
end Go.Proofs.Ytdnngcibmkdhhaa
