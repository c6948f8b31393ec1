/-
  Promise H2: what names mean: the walk of MeantIn.
-/
import Derived.Test.YtoingnhiipfnlaaDoorNPl
import Derived.Deep.RegionHeld3
namespace Go.Proofs.YtoingnhiipfnlaaDoor
open Go.RowKit Go.Maps Go.WideMaps

theorem nfrom_drew {B : Nat} {w w' : World} (h : Below B w.drew w') : Below B w w' := (kbelow_dN (Below.refl B w) 1).trans h
/-- Of lines, inputs, tables, years: where each name stands. -/
def MeantIs (w : World) (b1 b2 b3 b4 : Nat) (l : List Ln) (k : Kn) : Prop :=
  MapIs w b1 l.length (lastN (fun j => (lnth l j).name) l.length) ∧ MapIs w b2 k.ins.length (lastN (fun j => (anth k.ins j).name) k.ins.length) ∧ MapIs w b3 k.tbs.length (lastN (fun j => (tnth k.tbs j).name) k.tbs.length) ∧ MapIs w b4 k.yrs.length (lastN (fun j => (anth k.yrs j).name) k.yrs.length)
def MeantRet (w : World) (l : List Ln) (k : Kn) (e : Ending) (w' : World) : Prop := ∃ b1 b2 b3 b4 : Nat, e = .returned (.agg #[.map (some b1), .map (some b2), .map (some b3), .map (some b4)]) ∧ w.heap.size ≤ b1 ∧ b1 < b2 ∧ b2 < b3 ∧ b3 < b4 ∧ MeantIs w' b1 b2 b3 b4 l k ∧ Below w.heap.size w w'
theorem MapIs.set {w : World} {b n : Nat} {g : ByteArray → Option Nat} {p : Addr} (h : MapIs w b n g) (v : Value) (hp : b ≠ p.block) : MapIs (w.setCell p v) b n g := by
  obtain ⟨D, ⟨es, clock, hbk, h3⟩, h2⟩ := h
  exact ⟨D, ⟨es, clock, by rw [Below.heap_setCell w p v b hp]; exact hbk, h3⟩, h2⟩
/-- The result's four cells, as they were made. -/
def row4 (w : World) (b : Nat) : Prop := w.cell? ⟨b, 0, none⟩ = some (.map none) ∧ w.cell? ⟨b, 1, none⟩ = some (.map none) ∧ w.cell? ⟨b, 2, none⟩ = some (.map none) ∧ w.cell? ⟨b, 3, none⟩ = some (.map none) ∧ w.frozen? ⟨b, 0, none⟩ = false ∧ w.frozen? ⟨b, 1, none⟩ = false ∧ w.frozen? ⟨b, 2, none⟩ = false ∧ w.frozen? ⟨b, 3, none⟩ = false
theorem row4.made (w : World) (o : Obj) (T : TypeId) : row4 ((w.alloc o).alloc (.cells #[.map none, .map none, .map none, .map none] T)) (w.heap.size + 1) := by
  refine ⟨?_, ?_, ?_, ?_, ?_, ?_, ?_, ?_⟩ <;> simp
theorem row4.below {w w' : World} {b : Nat} (h : row4 w b) (hb : Below w.heap.size w w') : row4 w' b := by
  have hB : b < w.heap.size := blt_of_cell h.1
  obtain ⟨h0, h1, h2, h3, f0, f1, f2, f3⟩ := h
  exact ⟨(hb.cell (p := ⟨b, 0, none⟩) hB).trans h0, (hb.cell (p := ⟨b, 1, none⟩) hB).trans h1, (hb.cell (p := ⟨b, 2, none⟩) hB).trans h2, (hb.cell (p := ⟨b, 3, none⟩) hB).trans h3, (hb.frozen (p := ⟨b, 0, none⟩) hB).trans f0, (hb.frozen (p := ⟨b, 1, none⟩) hB).trans f1, (hb.frozen (p := ⟨b, 2, none⟩) hB).trans f2, (hb.frozen (p := ⟨b, 3, none⟩) hB).trans f3⟩
set_option maxRecDepth 100000 in
set_option maxHeartbeats 2000000 in
theorem meantIn_any (a : Option Addr) (n cap : Nat) (l : List Ln) (a1 a2 a3 : Option Addr) (n1 n2 n3 c1 c2 c3 : Nat) (k : Kn) (w : World) (hl : CameL w a l) (hn : l.length = n) (hm : n ≤ 40) (hlf : ∀ j, j < n → (lnth l j).name.size ≤ maxLen) (hc : CameK w a1 a2 a3 k) (htf : ∀ j, j < n2 → (tnth k.tbs j).name.size ≤ maxLen) (h1 : k.ins.length = n1) (h2 : k.tbs.length = n2) (h3 : k.yrs.length = n3) (g1 : n1 ≤ 30) (g2 : n2 ≤ 30) (g3 : n3 ≤ 30) :
    Calls Tryd.prog 31 #[.slice a n cap, .agg #[.slice a1 n1 c1, .slice a2 n2 c2, .slice a3 n3 c3]] w fun e w' => MeantRet w l k e w' := by
  have HL := Lib.hid hl
  have HN := Lib.hid hn
  have HLF := Lib.hid hlf
  have HC := Lib.hid hc
  have HTF := Lib.hid htf
  have H1 := Lib.hid h1
  have H2 := Lib.hid h2
  have H3 := Lib.hid h3
  have HF1 : Hid (∀ j, j < n1 → (anth k.ins j).name.size ≤ maxLen) := fun j hj => hc.2.2.2.1 j (by omega)
  have HF3 : Hid (∀ j, j < n3 → (anth k.yrs j).name.size ≤ maxLen) := fun j hj => hc.2.2.2.2.1 j (by omega)
  clear hl hn hlf hc htf h1 h2 h3
  have HB0 := Lib.hid (kbelow_box w (.cells #[.slice a1 n1 c1, .slice a2 n2 c2, .slice a3 n3 c3] 25))
  have HK0 := Lib.hid (KAt.made w (.slice a1 n1 c1) (.slice a2 n2 c2) (.slice a3 n3 c3) 25)
  have HB1 := Lib.hid (HB0.out.alloc HB0.out.size (.cells #[.map none, .map none, .map none, .map none] 62))
  have HK1 := Lib.hid (KAt.below HK0.out (kbelow_box _ (.cells #[.map none, .map none, .map none, .map none] 62)))
  go_enter Tryd.func31, Tryd.ntmps31
  go_wp2_with fail
  have hsz : ((w.alloc (.cells #[.slice a1 n1 c1, .slice a2 n2 c2, .slice a3 n3 c3] 25)).alloc (.cells #[.map none, .map none, .map none, .map none] 62)).heap.size = w.heap.size + 2 := by simp
  have HRW := Lib.hid (row4.made w (.cells #[.slice a1 n1 c1, .slice a2 n2 c2, .slice a3 n3 c3] 25) 62)
  clear HK0 HB0
  generalize ((w.alloc (.cells #[.slice a1 n1 c1, .slice a2 n2 c2, .slice a3 n3 c3] 25)).alloc (.cells #[.map none, .map none, .map none, .map none] 62)) = W at *
  obtain ⟨_, k0, k1, k2⟩ := HK1.out
  have hgw : w.heap.size < W.heap.size := by omega
  have HSZ := Lib.hid hsz
  clear hsz
  go_region_held3 (fun w' => w'.cell? ⟨w.heap.size, 0, none⟩ = some (.slice a1 n1 c1) ∧ w'.cell? ⟨w.heap.size, 1, none⟩ = some (.slice a2 n2 c2) ∧ w'.cell? ⟨w.heap.size, 2, none⟩ = some (.slice a3 n3 c3)) (go_keep)
    (first
      | (have := HX3; go_at_call 70; refine (placesA a3 n3 c3 k.yrs _ (HC.out.2.2.1.below (HB1.out.trans (HX3.out.mono HB1.out.size))) HF3.out H3.out (by omega)).mono ?_; rintro e w4 ⟨rfl, hm4, hb4⟩
         have HM4 := Lib.hid hm4
         have HX4 := Lib.hid (HX3.out.trans (hb4.mono HX3.out.size))
         have HY4 := Lib.hid hb4
         have r0 := (HX4.out.cell (p := ⟨w.heap.size, 0, none⟩) hgw).trans k0
         have r1 := (HX4.out.cell (p := ⟨w.heap.size, 1, none⟩) hgw).trans k1
         have r2 := (HX4.out.cell (p := ⟨w.heap.size, 2, none⟩) hgw).trans k2
         obtain ⟨s0, s1, s2, s3, f0, f1, f2, f3⟩ := (HRW.out.below HX4.out)
         clear hm4 hb4)
      | (have := HX2; go_at_call 71; refine (placesT a2 n2 c2 k.tbs _ (HC.out.2.1.below (HB1.out.trans (HX2.out.mono HB1.out.size))) HTF.out H2.out (by omega)).mono ?_; rintro e w3 ⟨rfl, hm3, hb3⟩
         have HM3 := Lib.hid hm3
         have HX3 := Lib.hid (HX2.out.trans (hb3.mono HX2.out.size))
         have HY3 := Lib.hid hb3
         have r0 := (HX3.out.cell (p := ⟨w.heap.size, 0, none⟩) hgw).trans k0
         have r1 := (HX3.out.cell (p := ⟨w.heap.size, 1, none⟩) hgw).trans k1
         have r2 := (HX3.out.cell (p := ⟨w.heap.size, 2, none⟩) hgw).trans k2
         clear hm3 hb3)
      | (have := HX1; go_at_call 70; refine (placesA a1 n1 c1 k.ins _ (HC.out.1.below (HB1.out.trans (HX1.out.mono HB1.out.size))) HF1.out H1.out (by omega)).mono ?_; rintro e w2 ⟨rfl, hm2, hb2⟩
         have HM2 := Lib.hid hm2
         have HX2 := Lib.hid (HX1.out.trans (hb2.mono HX1.out.size))
         have HY2 := Lib.hid hb2
         have r0 := (HX2.out.cell (p := ⟨w.heap.size, 0, none⟩) hgw).trans k0
         have r1 := (HX2.out.cell (p := ⟨w.heap.size, 1, none⟩) hgw).trans k1
         have r2 := (HX2.out.cell (p := ⟨w.heap.size, 2, none⟩) hgw).trans k2
         clear hm2 hb2)
      | (go_at_call 68; refine (placesL a n cap l _ (HL.out.below HB1.out.drew) HLF.out HN.out hm).mono ?_; rintro e w1 ⟨rfl, hm1, hb1⟩
         have HM1 : Hid (MapIs w1 W.heap.size n (lastN (fun j => (lnth l j).name) n)) := Lib.hid hm1
         have HX1 := Lib.hid (nfrom_drew hb1)
         have r0 := (HX1.out.cell (p := ⟨w.heap.size, 0, none⟩) hgw).trans k0
         have r1 := (HX1.out.cell (p := ⟨w.heap.size, 1, none⟩) hgw).trans k1
         have r2 := (HX1.out.cell (p := ⟨w.heap.size, 2, none⟩) hgw).trans k2
         clear hm1 hb1))
  go_wp2_with fail
  refine bodyPost_ret (v := .agg #[.map (some W.heap.size), .map (some w1.heap.size), .map (some w2.heap.size), .map (some w3.heap.size)]) (by simp [results, Tryd.results31, go_sem, s0, s1, s2, s3] <;> rfl) rfl ?_
  have q1 := HM1.out.lt
  have q2 := HM2.out.lt
  have q3 := HM3.out.lt
  have hz := HSZ.out
  have e1 := HN.out
  have e2 := H1.out
  have e3 := H2.out
  have e4 := H3.out
  subst e1 e2 e3 e4
  have hx1 := HX1.out.size
  refine ⟨_, _, _, _, rfl, by omega, q1, q2, q3, ⟨?_, ?_, ?_, ?_⟩, ?_⟩
  · exact ((((((HM1.out.below HY2.out).below HY3.out).below HY4.out).set _ (by show _ ≠ w.heap.size + 1; omega)).set _ (by show _ ≠ w.heap.size + 1; omega)).set _ (by show _ ≠ w.heap.size + 1; omega)).set _ (by show _ ≠ w.heap.size + 1; omega)
  · exact (((((HM2.out.below HY3.out).below HY4.out).set _ (by show _ ≠ w.heap.size + 1; omega)).set _ (by show _ ≠ w.heap.size + 1; omega)).set _ (by show _ ≠ w.heap.size + 1; omega)).set _ (by show _ ≠ w.heap.size + 1; omega)
  · exact ((((HM3.out.below HY4.out).set _ (by show _ ≠ w.heap.size + 1; omega)).set _ (by show _ ≠ w.heap.size + 1; omega)).set _ (by show _ ≠ w.heap.size + 1; omega)).set _ (by show _ ≠ w.heap.size + 1; omega)
  · exact (((HM4.out.set _ (by show _ ≠ w.heap.size + 1; have := HX3.out.size; omega)).set _ (by show _ ≠ w.heap.size + 1; have := HX3.out.size; omega)).set _ (by show _ ≠ w.heap.size + 1; have := HX3.out.size; omega)).set _ (by show _ ≠ w.heap.size + 1; have := HX3.out.size; omega)
  · exact ((((HB1.out.trans (HX4.out.mono HB1.out.size)).setCell (by simp) _).setCell (by simp) _).setCell (by simp) _).setCell (by simp) _
end Go.Proofs.YtoingnhiipfnlaaDoor
