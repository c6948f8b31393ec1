/-
  Promise J3: the machine in memory; the walk of its take.
-/
import Derived.Test.YtmlpedgcpffpnaaGreatDoorKZ0
import Derived.Test.YtmlpedgcpffpnaaGreatDoorKQ8
import Derived.Laws.IdiomCopy
import Derived.Test.YtmlpedgcpffpnaaGreatDoorKQ9
import Derived.Lib.QuietBelow
import Derived.BigQuiet
set_option linter.unusedSimpArgs false
set_option maxRecDepth 100000
set_option maxHeartbeats 8000000
namespace Go.Proofs.YtmlpedgcpffpnaaGreatDoor
open Go.RowKit
structure MAt (w : World) (B mb pb vb most L : Nat) (a1 a2 a3 : Option Addr) (n1 c1 n2 c2 n3 c3 at_ m : Nat) (P V : Nat -> Int) : Prop where
 bx : Cbx w mb [.slice a1 n1 c1, .slice a2 n2 c2, .slice a3 n3 c3, .int .i64 (at_ : Int), .slice (some ⟨pb, 0, none⟩) m most, .slice (some ⟨vb, 0, none⟩) L L]
 room : ∀ j, j < most -> (∃ x, w.cell? ⟨pb, j, none⟩ = some (.int .i64 x)) /\ w.frozen? ⟨pb, j, none⟩ = false
 pile : ∀ j, j < m -> w.cell? ⟨pb, j, none⟩ = some (.int .i64 (P j))
 vals : ∀ j, j < L -> w.cell? ⟨vb, j, none⟩ = some (.int .i64 (V j)) /\ w.frozen? ⟨vb, j, none⟩ = false
 fit : m <= most
 lp : pb < w.heap.size
 lv : vb < w.heap.size
 bm : B <= mb
 bp : B <= pb
 bv : B <= vb
 mp : mb ≠ pb
 mv : mb ≠ vb
 pv : pb ≠ vb
section
variable {w w' : World} {B mb pb vb most L : Nat} {a1 a2 a3 : Option Addr} {n1 c1 n2 c2 n3 c3 at_ m : Nat} {P V : Nat -> Int}
theorem MAt.lt (h : MAt w B mb pb vb most L a1 a2 a3 n1 c1 n2 c2 n3 c3 at_ m P V) : mb < w.heap.size := h.bx.lt
theorem MAt.below (h : MAt w B mb pb vb most L a1 a2 a3 n1 c1 n2 c2 n3 c3 at_ m P V) (hb : Below w.heap.size w w') : MAt w' B mb pb vb most L a1 a2 a3 n1 c1 n2 c2 n3 c3 at_ m P V :=
 { h with
   bx := h.bx.below hb h.bx.lt
   room := fun j hj => by
    obtain ⟨⟨x, hx⟩, hf⟩ := h.room j hj;exact ⟨⟨x, (hb.cell (p := ⟨pb, j, none⟩) h.lp).trans hx⟩, (hb.frozen (p := ⟨pb, j, none⟩) h.lp).trans hf⟩
   pile := fun j hj => (hb.cell (p := ⟨pb, j, none⟩) h.lp).trans (h.pile j hj)
   vals := fun j hj => ⟨(hb.cell (p := ⟨vb, j, none⟩) h.lv).trans (h.vals j hj).1, (hb.frozen (p := ⟨vb, j, none⟩) h.lv).trans (h.vals j hj).2⟩
   lp := Nat.lt_of_lt_of_le h.lp hb.size
   lv := Nat.lt_of_lt_of_le h.lv hb.size }
theorem cell_apart (w : World) {b c i j : Nat} (hne : b ≠ c) (v : Value) : (w.setCell ⟨b, i, none⟩ v).cell? ⟨c, j, none⟩ = w.cell? ⟨c, j, none⟩ := World.cell?_setCell_other w _ _ _ (by intro e; injection e with e; exact hne e)
theorem cbx_set {g i : Nat} {vs : List Value} (h : Cbx w g vs) (v : Value) (hi : i < vs.length) : Cbx (w.setCell ⟨g, i, none⟩ v) g (vs.set i v) := by
 intro j u hu;have hj : j < vs.length := by
  by_cases hj : j < vs.length
  ·exact hj
  ·rw [List.getElem?_eq_none (by simp; omega)] at hu; cases hu
 refine ⟨?_, by rw [World.frozen?_setCell]; exact (h j _ (List.getElem?_eq_getElem hj)).2⟩
 by_cases hji : i = j
 ·subst hji;rw [List.getElem?_set_self (by simpa using hi)] at hu;injection hu with hu
  subst hu;exact World.cell?_setCell_same w _ _ (h i _ (List.getElem?_eq_getElem hi)).1
 ·rw [List.getElem?_set_ne hji] at hu;rw [World.cell?_setCell_other w _ _ _ (addr_ne hji)];exact (h j u hu).1
theorem MAt.setAt (h : MAt w B mb pb vb most L a1 a2 a3 n1 c1 n2 c2 n3 c3 at_ m P V) (at' : Nat) : MAt (w.setCell ⟨mb, 3, none⟩ (.int .i64 (at' : Int))) B mb pb vb most L a1 a2 a3 n1 c1 n2 c2 n3 c3 at' m P V :=
 { h with
   bx := cbx_set h.bx (.int .i64 (at' : Int)) (i := 3) (by simp)
   room := fun j hj => by rw [cell_apart w h.mp, World.frozen?_setCell]; exact h.room j hj
   pile := fun j hj => by rw [cell_apart w h.mp]; exact h.pile j hj
   vals := fun j hj => by rw [cell_apart w h.mv, World.frozen?_setCell]; exact h.vals j hj
   lp := by simpa using h.lp
   lv := by simpa using h.lv }
theorem MAt.setLen (h : MAt w B mb pb vb most L a1 a2 a3 n1 c1 n2 c2 n3 c3 at_ m P V) (m' : Nat) (hm : m' <= m) : MAt (w.setCell ⟨mb, 4, none⟩ (.slice (some ⟨pb, 0, none⟩) m' most)) B mb pb vb most L a1 a2 a3 n1 c1 n2 c2 n3 c3 at_ m' P V :=
 { h with
   bx := cbx_set h.bx (.slice (some ⟨pb, 0, none⟩) m' most) (i := 4) (by simp)
   room := fun j hj => by rw [cell_apart w h.mp, World.frozen?_setCell]; exact h.room j hj
   pile := fun j hj => by rw [cell_apart w h.mp]; exact h.pile j (by omega)
   vals := fun j hj => by rw [cell_apart w h.mv, World.frozen?_setCell]; exact h.vals j hj
   fit := Nat.le_trans hm h.fit
   lp := by simpa using h.lp
   lv := by simpa using h.lv }
def updF (P : Nat -> Int) (i : Nat) (x : Int) : Nat -> Int := fun j => if j = i then x else P j
theorem MAt.push (h : MAt w B mb pb vb most L a1 a2 a3 n1 c1 n2 c2 n3 c3 at_ m P V) (x : Int) (hm : m < most) : MAt ((w.setCell ⟨pb, m, none⟩ (.int .i64 x)).setCell ⟨mb, 4, none⟩ (.slice (some ⟨pb, 0, none⟩) (m + 1 : Nat) most)) B mb pb vb most L a1 a2 a3 n1 c1 n2 c2 n3 c3 at_ (m + 1) (updF P m x) V := by
 have hx : Cbx (w.setCell ⟨pb, m, none⟩ (.int .i64 x)) mb [.slice a1 n1 c1, .slice a2 n2 c2, .slice a3 n3 c3, .int .i64 (at_ : Int), .slice (some ⟨pb, 0, none⟩) m most, .slice (some ⟨vb, 0, none⟩) L L] := h.bx.to (Below.heap_setCell w ⟨pb, m, none⟩ _ mb h.mp);obtain ⟨⟨y, hy⟩, _⟩ := h.room m hm
 exact { h with
  bx := cbx_set hx (.slice (some ⟨pb, 0, none⟩) (m + 1 : Nat) most) (i := 4) (by simp)
  room := fun j hj => by
   obtain ⟨⟨z, hz⟩, hf⟩ := h.room j hj;rw [cell_apart _ h.mp, World.frozen?_setCell, World.frozen?_setCell, put_cell hy];exact ⟨by split; exact ⟨_, rfl⟩; exact ⟨z, hz⟩, hf⟩
  pile := fun j hj => by
   rw [cell_apart _ h.mp, put_cell hy];unfold updF
   split
   ·rfl
   ·exact h.pile j (by omega)
  vals := fun j hj => by rw [cell_apart _ h.mv, cell_apart _ h.pv, World.frozen?_setCell, World.frozen?_setCell]; exact h.vals j hj
  fit := hm
  lp := by simpa using h.lp
  lv := by simpa using h.lv }
theorem MAt.keep (h : MAt w B mb pb vb most L a1 a2 a3 n1 c1 n2 c2 n3 c3 at_ m P V) (z : Nat) (x : Int) (hz : z < L) : MAt (w.setCell ⟨vb, z, none⟩ (.int .i64 x)) B mb pb vb most L a1 a2 a3 n1 c1 n2 c2 n3 c3 at_ m P (updF V z x) :=
 { h with
   bx := h.bx.to (Below.heap_setCell w ⟨vb, z, none⟩ _ mb h.mv)
   room := fun j hj => by rw [cell_apart w (Ne.symm h.pv), World.frozen?_setCell]; exact h.room j hj
   pile := fun j hj => by rw [cell_apart w (Ne.symm h.pv)]; exact h.pile j hj
   vals := fun j hj => by
    rw [put_cell (h.vals z hz).1, World.frozen?_setCell];refine ⟨?_, (h.vals j hj).2⟩;unfold updF
    split
    ·rfl
    ·exact (h.vals j hj).1
   lp := by simpa using h.lp
   lv := by simpa using h.lv }
theorem MAt.to (h : MAt w B mb pb vb most L a1 a2 a3 n1 c1 n2 c2 n3 c3 at_ m P V) (hs : w.heap.size <= w'.heap.size) (h1 : w'.heap[mb]? = w.heap[mb]?) (h2 : w'.heap[pb]? = w.heap[pb]?) (h3 : w'.heap[vb]? = w.heap[vb]?) : MAt w' B mb pb vb most L a1 a2 a3 n1 c1 n2 c2 n3 c3 at_ m P V :=
 { h with
   bx := h.bx.to h1
   room := fun j hj => by
    obtain ⟨⟨x, hx⟩, hf⟩ := h.room j hj;exact ⟨⟨x, (World.cell?_of_block (a := ⟨pb, j, none⟩) h2).trans hx⟩, (World.frozen?_of_block (a := ⟨pb, j, none⟩) h2).trans hf⟩
   pile := fun j hj => (World.cell?_of_block (a := ⟨pb, j, none⟩) h2).trans (h.pile j hj)
   vals := fun j hj => ⟨(World.cell?_of_block (a := ⟨vb, j, none⟩) h3).trans (h.vals j hj).1, (World.frozen?_of_block (a := ⟨vb, j, none⟩) h3).trans (h.vals j hj).2⟩
   lp := Nat.lt_of_lt_of_le h.lp hs
   lv := Nat.lt_of_lt_of_le h.lv hs }
theorem MAt.aside (h : MAt w B mb pb vb most L a1 a2 a3 n1 c1 n2 c2 n3 c3 at_ m P V) {b : Nat} (hb : mb ≠ b /\ pb ≠ b /\ vb ≠ b) (i : Nat) (v : Value) : MAt (w.setCell ⟨b, i, none⟩ v) B mb pb vb most L a1 a2 a3 n1 c1 n2 c2 n3 c3 at_ m P V :=
 h.to (by simp) (Below.heap_setCell w ⟨b, i, none⟩ v mb hb.1) (Below.heap_setCell w ⟨b, i, none⟩ v pb hb.2.1) (Below.heap_setCell w ⟨b, i, none⟩ v vb hb.2.2)
end
structure Kp3 (mb pb vb : Nat) (w w' : World) : Prop where
 os : w'.os = w.os
 tape : w'.tape = w.tape
 output : w'.output = w.output
 size : w.heap.size <= w'.heap.size
 block : ∀ k, k < w.heap.size -> k ≠ mb -> k ≠ pb -> k ≠ vb -> w'.heap[k]? = w.heap[k]?
theorem Kp3.of {mb pb vb : Nat} {w w' : World} (h : Below w.heap.size w w') : Kp3 mb pb vb w w' := ⟨h.os, h.tape, h.output, h.size, fun k hk _ _ _ => h.block k hk⟩
theorem Kp3.trans {mb pb vb : Nat} {w w' w'' : World} (h : Kp3 mb pb vb w w') (k : Kp3 mb pb vb w' w'') : Kp3 mb pb vb w w'' := ⟨k.os.trans h.os, k.tape.trans h.tape, k.output.trans h.output, Nat.le_trans h.size k.size, fun i hi a b c => (k.block i (Nat.lt_of_lt_of_le hi h.size) a b c).trans (h.block i hi a b c)⟩
theorem Kp3.put {mb pb vb : Nat} {w w' : World} (h : Kp3 mb pb vb w w') (b i : Nat) (v : Value) (hb : b = mb \/ b = pb \/ b = vb \/ w.heap.size <= b) : Kp3 mb pb vb w (w'.setCell ⟨b, i, none⟩ v) :=
 ⟨h.os, h.tape, h.output, by simpa using h.size, fun k hk x y z => (Below.heap_setCell w' ⟨b, i, none⟩ v k (show k ≠ b by omega)).trans (h.block k hk x y z)⟩
theorem Kp3.below {mb pb vb B : Nat} {w w' : World} (h : Kp3 mb pb vb w w') (hB : B <= w.heap.size) (h1 : B <= mb) (h2 : B <= pb) (h3 : B <= vb) : Below B w w' := ⟨h.os, h.tape, h.output, h.size, fun k hk => h.block k (by omega) (by omega) (by omega) (by omega)⟩
theorem Kp3.cell {mb pb vb : Nat} {w w' : World} (h : Kp3 mb pb vb w w') {b i : Nat} {v : Value} (hc : w.cell? ⟨b, i, none⟩ = some v) (h1 : b ≠ mb) (h2 : b ≠ pb) (h3 : b ≠ vb) : w'.cell? ⟨b, i, none⟩ = some v := (World.cell?_of_block (a := ⟨b, i, none⟩) (h.block b (blt_of_cell hc) h1 h2 h3)).trans hc
theorem Kp3.cbx {mb pb vb : Nat} {w w' : World} (h : Kp3 mb pb vb w w') {b : Nat} {v : Value} {vs : List Value} (hc : Cbx w b (v :: vs)) (h1 : b ≠ mb) (h2 : b ≠ pb) (h3 : b ≠ vb) : Cbx w' b (v :: vs) := hc.to (h.block b hc.lt h1 h2 h3)
theorem info_int1 : (Tryz.prog.info? 3).map (·.size) = some 1 := by kernel_rfl
theorem two_boxes (w : World) (T : TypeId) : Cbx ((w.alloc (.cells #[.int .i64 0, .int .i64 0] T)).alloc (.cells #[.int .i64 0, .int .i64 0] T)) w.heap.size [.int .i64 0, .int .i64 0] /\ Cbx ((w.alloc (.cells #[.int .i64 0, .int .i64 0] T)).alloc (.cells #[.int .i64 0, .int .i64 0] T)) (w.heap.size + 1) [.int .i64 0, .int .i64 0] := by
 have s1 : (w.alloc (.cells #[.int .i64 0, .int .i64 0] T)).heap.size = w.heap.size + 1 := by simp
 have h1 := Cbx.made (w.alloc (.cells #[.int .i64 0, .int .i64 0] T)) [.int .i64 0, .int .i64 0] T;rw [s1] at h1;have h0 := Cbx.made w [.int .i64 0, .int .i64 0] T;exact ⟨h0.below (kbelow_box _ _) h0.lt, h1⟩
theorem take_1 (w : World) (B mb pb vb most L : Nat) (a1 a2 a3 : Option Addr) (n1 c1 n2 c2 n3 c3 at_ m : Nat) (P V : Nat -> Int) (h : MAt w B mb pb vb most L a1 a2 a3 n1 c1 n2 c2 n3 c3 at_ m P V) (hm : 1 <= m) (hmost : most <= 20000) :
 Calls Tryz.prog 98 #[.pointer (some ⟨mb, 0, none⟩), .int .i64 1] w fun e w' => e = .returned (.agg #[.int .i64 (P (m - 1)), .int .i64 0]) /\ MAt w' B mb pb vb most L a1 a2 a3 n1 c1 n2 c2 n3 c3 at_ (m - 1) P V /\ Kp3 mb pb vb w w' := by
 obtain ⟨u, rfl⟩ : ∃ u, m = u + 1 := ⟨m - 1, by omega⟩;have hu : u + 1 <= most := h.fit;have hw1 : IntKind.i64.wrap (((u + 1 : Nat) : Int) - 1) = (u : Int) := by rw [IntWalk.i64_in _ (by omega)]; omega
 have HH := Hd h;have HB1 := Hd (kbelow_box w (.cells #[.int .i64 0, .int .i64 0] 170));have HB2 := Hd (HB1.out.alloc HB1.out.size (.cells #[.int .i64 0, .int .i64 0] 170));have HM2 := Hd (h.below HB2.out);have HR := Hd (two_boxes w 170);have HLT : Hid (mb < w.heap.size /\ pb < w.heap.size /\ vb < w.heap.size) := ⟨h.lt, h.lp, h.lv⟩;have x4 := HM2.out.bx.at 4 rfl;clear h
 go_enter Tryz.func98, Tryz.ntmps98
 go_wp2_with fail
 clear hw1 x4;obtain ⟨W2, hW2⟩ : ∃ W2, W2 = ((w.alloc (.cells #[.int .i64 0, .int .i64 0] 170)).alloc (.cells #[.int .i64 0, .int .i64 0] 170)) := ⟨_, rfl⟩;rw [<- hW2] at HB2 HM2 HR ⊢;clear hW2 HB1;obtain ⟨p0, hp0⟩ : ∃ p0, w.heap.size = p0 := ⟨_, rfl⟩;obtain ⟨p1, hp1⟩ : ∃ p1, w.heap.size + 1 = p1 := ⟨_, rfl⟩;rw [hp1] at HR ⊢;rw [hp0] at HR ⊢;have HPP : Hid (w.heap.size <= p0 /\ w.heap.size <= p1 /\ p0 ≠ p1) := by unfold Hid; omega
 clear hp0 hp1;have HBd : Hid (Below W2.heap.size W2 W2.drew) := Hd (kbelow_dN (Below.refl _ _) 1);have HMd := Hd (HM2.out.below HBd.out);have y4 := HMd.out.bx.at 4 rfl
 have hcp := run_copy_cells (P := Tryz.prog) W2.drew 35 35 3 3 p1 0 2 2 ⟨pb, u, none⟩ 1 (most - u) [.int .i64 (P u)] Tryz.underlying35 info_int1 rfl (by
  intro j v hj
  match j, hj with
  | 0, hj => simp at hj; subst hj; simpa [Addr.add] using HMd.out.pile u (by omega)) (by
  intro j hj;have : j = 0 := by simp at hj; omega
  subst this;have := (HR.out.2.below HBd.out HR.out.2.lt).at 0 rfl;rw [Nat.add_zero, this]; rfl) (by
  intro j hj;have : j = 0 := by simp at hj; omega
  subst this;exact (HR.out.2.below HBd.out HR.out.2.lt).fr 0 rfl) (by intro v hv; simp at hv; subst hv; rfl)
 have hum : (u : Int) <= (most : Int) := by omega
 have hum2 : (u : Int) <= (u : Int) + 1 := by omega
 go_region
 clear hcp hum hum2 y4;obtain ⟨W3, hW3⟩ : ∃ W3, W3 = W2.drew.setCells p1 0 [.int .i64 (P u)] := ⟨_, rfl⟩;have hW3' : W3 = W2.drew.setCell ⟨p1, 0, none⟩ (.int .i64 (P u)) := hW3;have HM3 : Hid (MAt W3 B mb pb vb most L a1 a2 a3 n1 c1 n2 c2 n3 c3 at_ (u + 1) P V) := by rw [hW3']; exact HMd.out.aside (by have := HPP.out; have := HLT.out; omega) 0 _
 have HT3 : Hid (Cbx W3 p1 [.int .i64 (P u), .int .i64 0]) := by rw [hW3']; exact cbx_set (HR.out.2.below HBd.out HR.out.2.lt) (.int .i64 (P u)) (i := 0) (by simp)
 have HR3 : Hid (Cbx W3 p0 [.int .i64 0, .int .i64 0]) := by rw [hW3']; exact (HR.out.1.below HBd.out HR.out.1.lt).to (Below.heap_setCell W2.drew ⟨p1, 0, none⟩ _ p0 HPP.out.2.2)
 have HB3 : Hid (Below w.heap.size w W3) := by rw [hW3']; exact (HB2.out.trans (HBd.out.mono HB2.out.size)).setCell HPP.out.2.1 _
 rw [<- hW3];clear hW3 hW3' HM2 HMd HBd HB2 HR;have x4 := HM3.out.bx.at 4 rfl;have f4 := HM3.out.bx.fr 4 rfl;have t0 := HT3.out.at 0 rfl;have t1 := HT3.out.at 1 rfl;have g0 := HR3.out.at 0 rfl;have g1 := HR3.out.at 1 rfl;have e0 := HR3.out.fr 0 rfl;have e1 := HR3.out.fr 1 rfl;have hnm : mb ≠ p0 := by have := HPP.out; have := HLT.out; omega
 have hnp : p0 ≠ p1 := HPP.out.2.2;have hnq : mb ≠ p1 := by have := HPP.out; have := HLT.out; omega
 go_wp2_with fail
 clear x4 f4 t0 t1 g0 g1 e0 e1 hnm hnp hnq;have HM4 := Hd (HM3.out.setLen u (by omega));have HR4 : Hid (Cbx (W3.setCell ⟨mb, 4, none⟩ (.slice (some ⟨pb, 0, none⟩) u most)) p0 [.int .i64 0, .int .i64 0]) := HR3.out.to (Below.heap_setCell W3 ⟨mb, 4, none⟩ _ p0 (show p0 ≠ mb by have := HPP.out; have := HLT.out; omega));have HB4 : Hid (Kp3 mb pb vb w (W3.setCell ⟨mb, 4, none⟩ (.slice (some ⟨pb, 0, none⟩) u most))) := (Kp3.of HB3.out).put mb 4 _ (.inl rfl);generalize (W3.setCell ⟨mb, 4, none⟩ (.slice (some ⟨pb, 0, none⟩) u most)) = W4 at HM4 HR4 HB4 ⊢;obtain ⟨W5, hW5⟩ : ∃ W5, W5 = ((W4.setCell ⟨p0, 0, none⟩ (.int .i64 (P u))).setCell ⟨p0, 1, none⟩ (.int .i64 0)) := ⟨_, rfl⟩;have HR5 : Hid (Cbx W5 p0 [.int .i64 (P u), .int .i64 0]) := by rw [hW5]; exact HR4.out.put [.int .i64 (P u), .int .i64 0] rfl
 have HM5 : Hid (MAt W5 B mb pb vb most L a1 a2 a3 n1 c1 n2 c2 n3 c3 at_ u P V) := by rw [hW5]; exact (HM4.out.aside (by have := HPP.out; have := HLT.out; omega) 0 _).aside (by have := HPP.out; have := HLT.out; omega) 1 _
 have HB5 : Hid (Kp3 mb pb vb w W5) := by rw [hW5]; exact (HB4.out.put p0 0 _ (.inr (.inr (.inr HPP.out.1)))).put p0 1 _ (.inr (.inr (.inr HPP.out.1)))
 rw [<- hW5];clear hW5 HM4 HR4 HB4;have z0 := HR5.out.at 0 rfl;have z1 := HR5.out.at 1 rfl;refine bodyPost_ret (v := .agg #[.int .i64 (P u), .int .i64 0]) (by simp [results, Tryz.results98, go_sem, z0, z1] <;> rfl) rfl ?_;exact ⟨rfl, HM5.out, HB5.out⟩
theorem take_2 (w : World) (B mb pb vb most L : Nat) (a1 a2 a3 : Option Addr) (n1 c1 n2 c2 n3 c3 at_ m : Nat) (P V : Nat -> Int) (h : MAt w B mb pb vb most L a1 a2 a3 n1 c1 n2 c2 n3 c3 at_ m P V) (hm : 2 <= m) (hmost : most <= 20000) :
 Calls Tryz.prog 98 #[.pointer (some ⟨mb, 0, none⟩), .int .i64 2] w fun e w' => e = .returned (.agg #[.int .i64 (P (m - 2)), .int .i64 (P (m - 2 + 1))]) /\ MAt w' B mb pb vb most L a1 a2 a3 n1 c1 n2 c2 n3 c3 at_ (m - 2) P V /\ Kp3 mb pb vb w w' := by
 obtain ⟨u, rfl⟩ : ∃ u, m = u + 2 := ⟨m - 2, by omega⟩;have hu : u + 2 <= most := h.fit;have hw1 : IntKind.i64.wrap (((u + 2 : Nat) : Int) - 2) = (u : Int) := by rw [IntWalk.i64_in _ (by omega)]; omega
 have HH := Hd h;have HB1 := Hd (kbelow_box w (.cells #[.int .i64 0, .int .i64 0] 170));have HB2 := Hd (HB1.out.alloc HB1.out.size (.cells #[.int .i64 0, .int .i64 0] 170));have HM2 := Hd (h.below HB2.out);have HR := Hd (two_boxes w 170);have HLT : Hid (mb < w.heap.size /\ pb < w.heap.size /\ vb < w.heap.size) := ⟨h.lt, h.lp, h.lv⟩;have x4 := HM2.out.bx.at 4 rfl;clear h
 go_enter Tryz.func98, Tryz.ntmps98
 go_wp2_with fail
 clear hw1 x4;obtain ⟨W2, hW2⟩ : ∃ W2, W2 = ((w.alloc (.cells #[.int .i64 0, .int .i64 0] 170)).alloc (.cells #[.int .i64 0, .int .i64 0] 170)) := ⟨_, rfl⟩;rw [<- hW2] at HB2 HM2 HR ⊢;clear hW2 HB1;obtain ⟨p0, hp0⟩ : ∃ p0, w.heap.size = p0 := ⟨_, rfl⟩;obtain ⟨p1, hp1⟩ : ∃ p1, w.heap.size + 1 = p1 := ⟨_, rfl⟩;rw [hp1] at HR ⊢;rw [hp0] at HR ⊢;have HPP : Hid (w.heap.size <= p0 /\ w.heap.size <= p1 /\ p0 ≠ p1) := by unfold Hid; omega
 clear hp0 hp1;have HBd : Hid (Below W2.heap.size W2 W2.drew) := Hd (kbelow_dN (Below.refl _ _) 1);have HMd := Hd (HM2.out.below HBd.out);have y4 := HMd.out.bx.at 4 rfl
 have hcp := run_copy_cells (P := Tryz.prog) W2.drew 35 35 3 3 p1 0 2 2 ⟨pb, u, none⟩ 2 (most - u) [.int .i64 (P u), .int .i64 (P (u + 1))] Tryz.underlying35 info_int1 rfl (by
  intro j v hj
  match j, hj with
  | 0, hj => simp at hj; subst hj; simpa [Addr.add] using HMd.out.pile u (by omega)
  | 1, hj => simp at hj; subst hj; simpa [Addr.add] using HMd.out.pile (u + 1) (by omega)) (by
  intro j hj;have : j = 0 \/ j = 1 := by simp at hj; omega
  rcases this with rfl | rfl
  ·have := (HR.out.2.below HBd.out HR.out.2.lt).at 0 rfl;rw [Nat.add_zero, this]; rfl
  ·have := (HR.out.2.below HBd.out HR.out.2.lt).at 1 rfl;rw [Nat.zero_add, this]; rfl) (by
  intro j hj;have : j = 0 \/ j = 1 := by simp at hj; omega
  rcases this with rfl | rfl
  ·exact (HR.out.2.below HBd.out HR.out.2.lt).fr 0 rfl
  ·exact (HR.out.2.below HBd.out HR.out.2.lt).fr 1 rfl) (by intro v hv; simp at hv; rcases hv with rfl | rfl <;> rfl)
 have hum : (u : Int) <= (most : Int) := by omega
 have hum2 : (u : Int) <= (u : Int) + 2 := by omega
 go_region
 clear hcp hum hum2 y4;obtain ⟨W3, hW3⟩ : ∃ W3, W3 = W2.drew.setCells p1 0 [.int .i64 (P u), .int .i64 (P (u + 1))] := ⟨_, rfl⟩;have hW3' : W3 = (W2.drew.setCell ⟨p1, 0, none⟩ (.int .i64 (P u))).setCell ⟨p1, 1, none⟩ (.int .i64 (P (u + 1))) := hW3;have HM3 : Hid (MAt W3 B mb pb vb most L a1 a2 a3 n1 c1 n2 c2 n3 c3 at_ (u + 2) P V) := by rw [hW3']; exact (HMd.out.aside (by have := HPP.out; have := HLT.out; omega) 0 _).aside (by have := HPP.out; have := HLT.out; omega) 1 _
 have HT3 : Hid (Cbx W3 p1 [.int .i64 (P u), .int .i64 (P (u + 1))]) := by rw [hW3']; exact (HR.out.2.below HBd.out HR.out.2.lt).put [.int .i64 (P u), .int .i64 (P (u + 1))] rfl
 have HR3 : Hid (Cbx W3 p0 [.int .i64 0, .int .i64 0]) := by rw [hW3']; exact (HR.out.1.below HBd.out HR.out.1.lt).to (cput_block p1 HPP.out.2.2 [.int .i64 (P u), .int .i64 (P (u + 1))] 0 W2.drew)
 have HB3 : Hid (Below w.heap.size w W3) := by rw [hW3']; exact below_cput HPP.out.2.1 w W2.drew (HB2.out.trans (HBd.out.mono HB2.out.size)) [.int .i64 (P u), .int .i64 (P (u + 1))] 0
 rw [<- hW3];clear hW3 hW3' HM2 HMd HBd HB2 HR;have x4 := HM3.out.bx.at 4 rfl;have f4 := HM3.out.bx.fr 4 rfl;have t0 := HT3.out.at 0 rfl;have t1 := HT3.out.at 1 rfl;have g0 := HR3.out.at 0 rfl;have g1 := HR3.out.at 1 rfl;have e0 := HR3.out.fr 0 rfl;have e1 := HR3.out.fr 1 rfl;have hnm : mb ≠ p0 := by have := HPP.out; have := HLT.out; omega
 have hnp : p0 ≠ p1 := HPP.out.2.2;have hnq : mb ≠ p1 := by have := HPP.out; have := HLT.out; omega
 go_wp2_with fail
 clear x4 f4 t0 t1 g0 g1 e0 e1 hnm hnp hnq;have HM4 := Hd (HM3.out.setLen u (by omega));have HR4 : Hid (Cbx (W3.setCell ⟨mb, 4, none⟩ (.slice (some ⟨pb, 0, none⟩) u most)) p0 [.int .i64 0, .int .i64 0]) := HR3.out.to (Below.heap_setCell W3 ⟨mb, 4, none⟩ _ p0 (show p0 ≠ mb by have := HPP.out; have := HLT.out; omega));have HB4 : Hid (Kp3 mb pb vb w (W3.setCell ⟨mb, 4, none⟩ (.slice (some ⟨pb, 0, none⟩) u most))) := (Kp3.of HB3.out).put mb 4 _ (.inl rfl);generalize (W3.setCell ⟨mb, 4, none⟩ (.slice (some ⟨pb, 0, none⟩) u most)) = W4 at HM4 HR4 HB4 ⊢;obtain ⟨W5, hW5⟩ : ∃ W5, W5 = ((W4.setCell ⟨p0, 0, none⟩ (.int .i64 (P u))).setCell ⟨p0, 1, none⟩ (.int .i64 (P (u + 1)))) := ⟨_, rfl⟩;have HR5 : Hid (Cbx W5 p0 [.int .i64 (P u), .int .i64 (P (u + 1))]) := by rw [hW5]; exact HR4.out.put [.int .i64 (P u), .int .i64 (P (u + 1))] rfl
 have HM5 : Hid (MAt W5 B mb pb vb most L a1 a2 a3 n1 c1 n2 c2 n3 c3 at_ u P V) := by rw [hW5]; exact (HM4.out.aside (by have := HPP.out; have := HLT.out; omega) 0 _).aside (by have := HPP.out; have := HLT.out; omega) 1 _
 have HB5 : Hid (Kp3 mb pb vb w W5) := by rw [hW5]; exact (HB4.out.put p0 0 _ (.inr (.inr (.inr HPP.out.1)))).put p0 1 _ (.inr (.inr (.inr HPP.out.1)))
 rw [<- hW5];clear hW5 HM4 HR4 HB4;have z0 := HR5.out.at 0 rfl;have z1 := HR5.out.at 1 rfl;refine bodyPost_ret (v := .agg #[.int .i64 (P u), .int .i64 (P (u + 1))]) (by simp [results, Tryz.results98, go_sem, z0, z1] <;> rfl) rfl ?_;exact ⟨rfl, HM5.out, HB5.out⟩
theorem take_0 (w : World) (B mb pb vb most L : Nat) (a1 a2 a3 : Option Addr) (n1 c1 n2 c2 n3 c3 at_ u : Nat) (P V : Nat -> Int) (h : MAt w B mb pb vb most L a1 a2 a3 n1 c1 n2 c2 n3 c3 at_ u P V) (hmost : most <= 20000) :
 Calls Tryz.prog 98 #[.pointer (some ⟨mb, 0, none⟩), .int .i64 0] w fun e w' => e = .returned (.agg #[.int .i64 0, .int .i64 0]) /\ MAt w' B mb pb vb most L a1 a2 a3 n1 c1 n2 c2 n3 c3 at_ u P V /\ Kp3 mb pb vb w w' := by
 have hu : u <= most := h.fit;have hw1 : IntKind.i64.wrap (u : Int) = (u : Int) := IntWalk.i64_in _ (by omega);have hw2 : wrap64 (u : Int) = (u : Int) := IntWalk.wrap64_in _ (by omega);have HH := Hd h;have HB1 := Hd (kbelow_box w (.cells #[.int .i64 0, .int .i64 0] 170));have HB2 := Hd (HB1.out.alloc HB1.out.size (.cells #[.int .i64 0, .int .i64 0] 170));have HM2 := Hd (h.below HB2.out);have HR := Hd (two_boxes w 170);have HLT : Hid (mb < w.heap.size /\ pb < w.heap.size /\ vb < w.heap.size) := ⟨h.lt, h.lp, h.lv⟩;have x4 := HM2.out.bx.at 4 rfl;clear h
 go_enter Tryz.func98, Tryz.ntmps98
 go_wp2_with fail
 clear hw1 x4;obtain ⟨W2, hW2⟩ : ∃ W2, W2 = ((w.alloc (.cells #[.int .i64 0, .int .i64 0] 170)).alloc (.cells #[.int .i64 0, .int .i64 0] 170)) := ⟨_, rfl⟩;rw [<- hW2] at HB2 HM2 HR ⊢;clear hW2 HB1;obtain ⟨p0, hp0⟩ : ∃ p0, w.heap.size = p0 := ⟨_, rfl⟩;obtain ⟨p1, hp1⟩ : ∃ p1, w.heap.size + 1 = p1 := ⟨_, rfl⟩;rw [hp1] at HR ⊢;rw [hp0] at HR ⊢;have HPP : Hid (w.heap.size <= p0 /\ w.heap.size <= p1 /\ p0 ≠ p1) := by unfold Hid; omega
 clear hp0 hp1;have HBd : Hid (Below W2.heap.size W2 W2.drew) := Hd (kbelow_dN (Below.refl _ _) 1);have HMd := Hd (HM2.out.below HBd.out);have y4 := HMd.out.bx.at 4 rfl
 by_cases hum3 : u = most
 ·subst hum3;have hcp := run_copy_none (P := Tryz.prog) W2.drew 35 35 3 3 (some ⟨p1, 0, none⟩) (some ⟨pb, 0, none⟩) 2 2 0 0 Tryz.underlying35 info_int1 rfl;have hum : (u : Int) <= (u : Int) := by omega
  go_region
  clear hcp hum y4;have HM3 := HMd;have HT3 := Hd (HR.out.2.below HBd.out HR.out.2.lt);have HR3 := Hd (HR.out.1.below HBd.out HR.out.1.lt);have HB3 := Hd (HB2.out.trans (HBd.out.mono HB2.out.size));generalize W2.drew = W3 at HM3 HT3 HR3 HB3 ⊢;clear HM2 HMd HBd HB2 HR;have x4 := HM3.out.bx.at 4 rfl;have f4 := HM3.out.bx.fr 4 rfl;have t0 := HT3.out.at 0 rfl;have t1 := HT3.out.at 1 rfl;have g0 := HR3.out.at 0 rfl;have g1 := HR3.out.at 1 rfl;have e0 := HR3.out.fr 0 rfl;have e1 := HR3.out.fr 1 rfl;have hnm : mb ≠ p0 := by have := HPP.out; have := HLT.out; omega
  have hnp : p0 ≠ p1 := HPP.out.2.2;have hnq : mb ≠ p1 := by have := HPP.out; have := HLT.out; omega
  go_wp2_with fail
  clear x4 f4 t0 t1 g0 g1 e0 e1 hnm hnp hnq;have HM4 := Hd (HM3.out.setLen u (Nat.le_refl _));have HR4 : Hid (Cbx (W3.setCell ⟨mb, 4, none⟩ (.slice (some ⟨pb, 0, none⟩) u u)) p0 [.int .i64 0, .int .i64 0]) := HR3.out.to (Below.heap_setCell W3 ⟨mb, 4, none⟩ _ p0 (show p0 ≠ mb by have := HPP.out; have := HLT.out; omega));have HB4 : Hid (Kp3 mb pb vb w (W3.setCell ⟨mb, 4, none⟩ (.slice (some ⟨pb, 0, none⟩) u u))) := (Kp3.of HB3.out).put mb 4 _ (.inl rfl);generalize (W3.setCell ⟨mb, 4, none⟩ (.slice (some ⟨pb, 0, none⟩) u u)) = W4 at HM4 HR4 HB4 ⊢;obtain ⟨W5, hW5⟩ : ∃ W5, W5 = ((W4.setCell ⟨p0, 0, none⟩ (.int .i64 0)).setCell ⟨p0, 1, none⟩ (.int .i64 0)) := ⟨_, rfl⟩;have HR5 : Hid (Cbx W5 p0 [.int .i64 0, .int .i64 0]) := by rw [hW5]; exact HR4.out.put [.int .i64 0, .int .i64 0] rfl
  have HM5 : Hid (MAt W5 B mb pb vb u L a1 a2 a3 n1 c1 n2 c2 n3 c3 at_ u P V) := by rw [hW5]; exact (HM4.out.aside (by have := HPP.out; have := HLT.out; omega) 0 _).aside (by have := HPP.out; have := HLT.out; omega) 1 _
  have HB5 : Hid (Kp3 mb pb vb w W5) := by rw [hW5]; exact (HB4.out.put p0 0 _ (.inr (.inr (.inr HPP.out.1)))).put p0 1 _ (.inr (.inr (.inr HPP.out.1)))
  rw [<- hW5];clear hW5 HM4 HR4 HB4;have z0 := HR5.out.at 0 rfl;have z1 := HR5.out.at 1 rfl;refine bodyPost_ret (v := .agg #[.int .i64 0, .int .i64 0]) (by simp [results, Tryz.results98, go_sem, z0, z1] <;> rfl) rfl ?_;exact ⟨rfl, HM5.out, HB5.out⟩
 ·have hum4 : u < most := by omega
  have hcp := run_copy_none (P := Tryz.prog) W2.drew 35 35 3 3 (some ⟨p1, 0, none⟩) (some ⟨pb, u, none⟩) 2 2 0 (most - u) Tryz.underlying35 info_int1 rfl;have hum : (u : Int) <= (most : Int) := by omega
  go_region
  clear hcp hum y4;have HM3 := HMd;have HT3 := Hd (HR.out.2.below HBd.out HR.out.2.lt);have HR3 := Hd (HR.out.1.below HBd.out HR.out.1.lt);have HB3 := Hd (HB2.out.trans (HBd.out.mono HB2.out.size));generalize W2.drew = W3 at HM3 HT3 HR3 HB3 ⊢;clear HM2 HMd HBd HB2 HR;have x4 := HM3.out.bx.at 4 rfl;have f4 := HM3.out.bx.fr 4 rfl;have t0 := HT3.out.at 0 rfl;have t1 := HT3.out.at 1 rfl;have g0 := HR3.out.at 0 rfl;have g1 := HR3.out.at 1 rfl;have e0 := HR3.out.fr 0 rfl;have e1 := HR3.out.fr 1 rfl;have hnm : mb ≠ p0 := by have := HPP.out; have := HLT.out; omega
  have hnp : p0 ≠ p1 := HPP.out.2.2;have hnq : mb ≠ p1 := by have := HPP.out; have := HLT.out; omega
  go_wp2_with fail
  clear x4 f4 t0 t1 g0 g1 e0 e1 hnm hnp hnq;have HM4 := Hd (HM3.out.setLen u (Nat.le_refl _));have HR4 : Hid (Cbx (W3.setCell ⟨mb, 4, none⟩ (.slice (some ⟨pb, 0, none⟩) u most)) p0 [.int .i64 0, .int .i64 0]) := HR3.out.to (Below.heap_setCell W3 ⟨mb, 4, none⟩ _ p0 (show p0 ≠ mb by have := HPP.out; have := HLT.out; omega));have HB4 : Hid (Kp3 mb pb vb w (W3.setCell ⟨mb, 4, none⟩ (.slice (some ⟨pb, 0, none⟩) u most))) := (Kp3.of HB3.out).put mb 4 _ (.inl rfl);generalize (W3.setCell ⟨mb, 4, none⟩ (.slice (some ⟨pb, 0, none⟩) u most)) = W4 at HM4 HR4 HB4 ⊢;obtain ⟨W5, hW5⟩ : ∃ W5, W5 = ((W4.setCell ⟨p0, 0, none⟩ (.int .i64 0)).setCell ⟨p0, 1, none⟩ (.int .i64 0)) := ⟨_, rfl⟩;have HR5 : Hid (Cbx W5 p0 [.int .i64 0, .int .i64 0]) := by rw [hW5]; exact HR4.out.put [.int .i64 0, .int .i64 0] rfl
  have HM5 : Hid (MAt W5 B mb pb vb most L a1 a2 a3 n1 c1 n2 c2 n3 c3 at_ u P V) := by rw [hW5]; exact (HM4.out.aside (by have := HPP.out; have := HLT.out; omega) 0 _).aside (by have := HPP.out; have := HLT.out; omega) 1 _
  have HB5 : Hid (Kp3 mb pb vb w W5) := by rw [hW5]; exact (HB4.out.put p0 0 _ (.inr (.inr (.inr HPP.out.1)))).put p0 1 _ (.inr (.inr (.inr HPP.out.1)))
  rw [<- hW5];clear hW5 HM4 HR4 HB4;have z0 := HR5.out.at 0 rfl;have z1 := HR5.out.at 1 rfl;refine bodyPost_ret (v := .agg #[.int .i64 0, .int .i64 0]) (by simp [results, Tryz.results98, go_sem, z0, z1] <;> rfl) rfl ?_;exact ⟨rfl, HM5.out, HB5.out⟩
def rkO (kn : Kn) (V : Nat -> Int) (q : Nat) (z a b : Int) : Option Int :=
 if q = 1 then some z else if q = 2 then some (anth kn.ins z.toNat).mon else if q = 3 then some (V z.toNat) else if q = 4 then some (anth kn.yrs z.toNat).mon else if q = 5 then monO (rd (a * z) 10000 5) else if q = 6 then some (taxN (tnth kn.tbs z.toNat).bks a) else if q = 7 then some (-a) else if q = 8 then monO (a + b) else if q = 9 then monO (a - b) else if q = 10 then monO (a * z) else if q = 11 then monO (rd a z 5) else if q = 12 then some (if b < a then b else a) else some (if a < b then b else a)
def RkIs (q : Nat) (kn : Kn) (V : Nat -> Int) (z a b : Int) (mb : Nat) (w : World) : Prop :=
 Calls Tryz.prog 101 #[.pointer (some ⟨mb, 0, none⟩), .agg #[.int .i64 (q : Int), .int .i64 z], .agg #[.int .i64 a, .int .i64 b]] w fun e w' => e = vEnd (rkO kn V q z a b) /\ Below w.heap.size w w'
theorem bel_2 (w : World) (a b : Obj) : Below w.heap.size w ((w.alloc a).alloc b) := (kbelow_box w a).alloc (kbelow_box w a).size b
theorem mul_in {a z : Int} (ha : -1000000000000 <= a /\ a <= 1000000000000) (hz : 1 <= z /\ z <= 1000000) : IntKind.i64.wrap (a * z) = a * z := by
 have h1 : a * z <= 1000000000000 * 1000000 := Int.le_trans (Int.mul_le_mul_of_nonneg_right ha.2 (by omega)) (Int.mul_le_mul_of_nonneg_left hz.2 (by omega))
 have h2 : -1000000000000 * 1000000 ≤ a * z := Int.le_trans (by have : (-1000000000000 : Int) * 1000000 ≤ -1000000000000 * z := by omega
                                                                exact this) (Int.mul_le_mul_of_nonneg_right ha.1 (by omega))
 exact IntWalk.i64_in _ (by omega)
theorem rk_1 (kn : Kn) (V : Nat -> Int) (z a b : Int) (mb : Nat) (w : World) : RkIs 1 kn V z a b mb w := by
 have HR : Hid (rkO kn V 1 z a b = some z) := by unfold Hid rkO; simp
 have HB := Hd (bel_2 w (.cells #[.int .i64 1, .int .i64 z] 55) (.cells #[.int .i64 a, .int .i64 b] 170));unfold RkIs;rw [HR.out]
 go_enter Tryz.func101, Tryz.ntmps101
 go_wp2_with fail
 go_ret;exact ⟨vret_int rfl, HB.out⟩
theorem rk_7 (kn : Kn) (V : Nat -> Int) (z a b : Int) (mb : Nat) (w : World) (ha : monB a = true) : RkIs 7 kn V z a b mb w := by
 have hm := of_decide_eq_true ha;have hw : IntKind.i64.wrap (-a) = -a := IntWalk.i64_in _ (by omega);have HR : Hid (rkO kn V 7 z a b = some (-a)) := by unfold Hid rkO; simp
 have HB := Hd (bel_2 w (.cells #[.int .i64 7, .int .i64 z] 55) (.cells #[.int .i64 a, .int .i64 b] 170));unfold RkIs;rw [HR.out];clear ha hm
 go_enter Tryz.func101, Tryz.ntmps101
 go_wp2_with fail
 go_ret;exact ⟨vret_int (by first | rfl | exact hw), HB.out⟩
theorem rk_12 (kn : Kn) (V : Nat -> Int) (z a b : Int) (mb : Nat) (w : World) : RkIs 12 kn V z a b mb w := by
 have HR : Hid (rkO kn V 12 z a b = some (if b < a then b else a)) := by unfold Hid rkO; simp
 have HB := Hd (bel_2 w (.cells #[.int .i64 12, .int .i64 z] 55) (.cells #[.int .i64 a, .int .i64 b] 170));unfold RkIs;rw [HR.out]
 by_cases hc : b < a
 ·have hcB : decide (b < a) = true := decide_eq_true hc;rw [if_pos hc]
  go_enter Tryz.func101, Tryz.ntmps101
  go_wp2_with fail
  go_ret;exact ⟨vret_int (by first | rfl | simp | (simp; omega)), HB.out⟩
 ·have hcB : decide (b < a) = false := dEf hc;rw [if_neg hc]
  go_enter Tryz.func101, Tryz.ntmps101
  go_wp2_with fail
  go_ret;exact ⟨vret_int (by first | rfl | simp | (simp; omega)), HB.out⟩
theorem rk_13 (kn : Kn) (V : Nat -> Int) (z a b : Int) (mb : Nat) (w : World) : RkIs 13 kn V z a b mb w := by
 have HR : Hid (rkO kn V 13 z a b = some (if a < b then b else a)) := by unfold Hid rkO; simp
 have HB := Hd (bel_2 w (.cells #[.int .i64 13, .int .i64 z] 55) (.cells #[.int .i64 a, .int .i64 b] 170));unfold RkIs;rw [HR.out]
 by_cases hc : a < b
 ·have hcB : decide (a < b) = true := decide_eq_true hc;rw [if_pos hc]
  go_enter Tryz.func101, Tryz.ntmps101
  go_wp2_with fail
  go_ret;exact ⟨vret_int (by first | rfl | simp | (simp; omega)), HB.out⟩
 ·have hcB : decide (a < b) = false := dEf hc;rw [if_neg hc]
  go_enter Tryz.func101, Tryz.ntmps101
  go_wp2_with fail
  go_ret;exact ⟨vret_int (by first | rfl | simp | (simp; omega)), HB.out⟩
theorem rMoney_b (n : Int) (w : World) : Calls Tryz.prog 130 #[.int .i64 n] w fun e w' => e = vEnd (monO n) /\ Below w.heap.size w w' := (rMoney_any n w).mono fun _ _ ⟨h1, h2⟩ => ⟨h1, h2 ▸ Below.refl _ _⟩
theorem rk_5 (kn : Kn) (V : Nat -> Int) (z a b : Int) (mb : Nat) (w : World) (ha : monB a = true) (hb : monB b = true) (_hz : 5 = 10 \/ 5 = 11 -> 1 <= z /\ z <= 1000000) (_hr : 5 = 5 -> ratB z = true) : RkIs 5 kn V z a b mb w := by
 have hma := of_decide_eq_true ha;have hmb := of_decide_eq_true hb;have HR : Hid (rkO kn V 5 z a b = monO (rd (a * z) 10000 5)) := by unfold Hid rkO; simp
 have HB := Hd (bel_2 w (.cells #[.int .i64 5, .int .i64 z] 55) (.cells #[.int .i64 a, .int .i64 b] 170));unfold RkIs;rw [HR.out];have HK := Hd (fun w => rRate_any a z w ha (_hr rfl));clear ha hb _hz _hr hma hmb
 cases ho : monO (rd (a * z) 10000 5) with
 | none =>
   rw [ho] at HK;simp only [vEnd] at HK ⊢;clear ho
   go_enter Tryz.func101, Tryz.ntmps101
   go_wp2_with fail
   refine (HK.out _).mono ?_;rintro e w1 ⟨rfl, hb1⟩;go_wp2_with fail
   exact ⟨rfl, rfl, HB.out.trans (hb1.mono HB.out.size)⟩
 | some v =>
   rw [ho] at HK;simp only [vEnd] at HK ⊢;clear ho
   go_enter Tryz.func101, Tryz.ntmps101
   go_wp2_with fail
   refine (HK.out _).mono ?_;rintro e w1 ⟨rfl, hb1⟩;go_wp2_with fail
   go_ret;exact ⟨rfl, HB.out.trans (hb1.mono HB.out.size)⟩
theorem rk_8 (kn : Kn) (V : Nat -> Int) (z a b : Int) (mb : Nat) (w : World) (ha : monB a = true) (hb : monB b = true) (_hz : 8 = 10 \/ 8 = 11 -> 1 <= z /\ z <= 1000000) (_hr : 8 = 5 -> ratB z = true) : RkIs 8 kn V z a b mb w := by
 have hma := of_decide_eq_true ha;have hmb := of_decide_eq_true hb;have HR : Hid (rkO kn V 8 z a b = monO (a + b)) := by unfold Hid rkO; simp
 have HB := Hd (bel_2 w (.cells #[.int .i64 8, .int .i64 z] 55) (.cells #[.int .i64 a, .int .i64 b] 170));unfold RkIs;rw [HR.out];have hw : IntKind.i64.wrap (a + b) = a + b := IntWalk.i64_in _ (by omega); have HK := Hd (fun w => rMoney_b (a + b) w);clear ha hb _hz _hr hma hmb
 cases ho : monO (a + b) with
 | none =>
   rw [ho] at HK;simp only [vEnd] at HK ⊢;clear ho
   go_enter Tryz.func101, Tryz.ntmps101
   go_wp2_with fail
   refine (HK.out _).mono ?_;rintro e w1 ⟨rfl, hb1⟩;go_wp2_with fail
   exact ⟨rfl, rfl, HB.out.trans (hb1.mono HB.out.size)⟩
 | some v =>
   rw [ho] at HK;simp only [vEnd] at HK ⊢;clear ho
   go_enter Tryz.func101, Tryz.ntmps101
   go_wp2_with fail
   refine (HK.out _).mono ?_;rintro e w1 ⟨rfl, hb1⟩;go_wp2_with fail
   go_ret;exact ⟨rfl, HB.out.trans (hb1.mono HB.out.size)⟩
theorem rk_9 (kn : Kn) (V : Nat -> Int) (z a b : Int) (mb : Nat) (w : World) (ha : monB a = true) (hb : monB b = true) (_hz : 9 = 10 \/ 9 = 11 -> 1 <= z /\ z <= 1000000) (_hr : 9 = 5 -> ratB z = true) : RkIs 9 kn V z a b mb w := by
 have hma := of_decide_eq_true ha;have hmb := of_decide_eq_true hb;have HR : Hid (rkO kn V 9 z a b = monO (a - b)) := by unfold Hid rkO; simp
 have HB := Hd (bel_2 w (.cells #[.int .i64 9, .int .i64 z] 55) (.cells #[.int .i64 a, .int .i64 b] 170));unfold RkIs;rw [HR.out];have hw : IntKind.i64.wrap (a - b) = a - b := IntWalk.i64_in _ (by omega); have HK := Hd (fun w => rMoney_b (a - b) w);clear ha hb _hz _hr hma hmb
 cases ho : monO (a - b) with
 | none =>
   rw [ho] at HK;simp only [vEnd] at HK ⊢;clear ho
   go_enter Tryz.func101, Tryz.ntmps101
   go_wp2_with fail
   refine (HK.out _).mono ?_;rintro e w1 ⟨rfl, hb1⟩;go_wp2_with fail
   exact ⟨rfl, rfl, HB.out.trans (hb1.mono HB.out.size)⟩
 | some v =>
   rw [ho] at HK;simp only [vEnd] at HK ⊢;clear ho
   go_enter Tryz.func101, Tryz.ntmps101
   go_wp2_with fail
   refine (HK.out _).mono ?_;rintro e w1 ⟨rfl, hb1⟩;go_wp2_with fail
   go_ret;exact ⟨rfl, HB.out.trans (hb1.mono HB.out.size)⟩
theorem rk_10 (kn : Kn) (V : Nat -> Int) (z a b : Int) (mb : Nat) (w : World) (ha : monB a = true) (hb : monB b = true) (_hz : 10 = 10 \/ 10 = 11 -> 1 <= z /\ z <= 1000000) (_hr : 10 = 5 -> ratB z = true) : RkIs 10 kn V z a b mb w := by
 have hma := of_decide_eq_true ha;have hmb := of_decide_eq_true hb;have HR : Hid (rkO kn V 10 z a b = monO (a * z)) := by unfold Hid rkO; simp
 have HB := Hd (bel_2 w (.cells #[.int .i64 10, .int .i64 z] 55) (.cells #[.int .i64 a, .int .i64 b] 170));unfold RkIs;rw [HR.out];have hw : IntKind.i64.wrap (a * z) = a * z := mul_in hma (_hz (.inl rfl)); have HK := Hd (fun w => rMoney_b (a * z) w);clear ha hb _hz _hr hma hmb
 cases ho : monO (a * z) with
 | none =>
   rw [ho] at HK;simp only [vEnd] at HK ⊢;clear ho
   go_enter Tryz.func101, Tryz.ntmps101
   go_wp2_with fail
   refine (HK.out _).mono ?_;rintro e w1 ⟨rfl, hb1⟩;go_wp2_with fail
   exact ⟨rfl, rfl, HB.out.trans (hb1.mono HB.out.size)⟩
 | some v =>
   rw [ho] at HK;simp only [vEnd] at HK ⊢;clear ho
   go_enter Tryz.func101, Tryz.ntmps101
   go_wp2_with fail
   refine (HK.out _).mono ?_;rintro e w1 ⟨rfl, hb1⟩;go_wp2_with fail
   go_ret;exact ⟨rfl, HB.out.trans (hb1.mono HB.out.size)⟩
theorem rk_11 (kn : Kn) (V : Nat -> Int) (z a b : Int) (mb : Nat) (w : World) (ha : monB a = true) (hb : monB b = true) (_hz : 11 = 10 \/ 11 = 11 -> 1 <= z /\ z <= 1000000) (_hr : 11 = 5 -> ratB z = true) : RkIs 11 kn V z a b mb w := by
 have hma := of_decide_eq_true ha;have hmb := of_decide_eq_true hb;have HR : Hid (rkO kn V 11 z a b = monO (rd a z 5)) := by unfold Hid rkO; simp
 have HB := Hd (bel_2 w (.cells #[.int .i64 11, .int .i64 z] 55) (.cells #[.int .i64 a, .int .i64 b] 170));unfold RkIs;rw [HR.out];have HK := Hd (fun w => rOver_any a z w ha (_hz (.inr rfl)).1 (_hz (.inr rfl)).2);clear ha hb _hz _hr hma hmb
 cases ho : monO (rd a z 5) with
 | none =>
   rw [ho] at HK;simp only [vEnd] at HK ⊢;clear ho
   go_enter Tryz.func101, Tryz.ntmps101
   go_wp2_with fail
   refine (HK.out _).mono ?_;rintro e w1 ⟨rfl, hb1⟩;go_wp2_with fail
   exact ⟨rfl, rfl, HB.out.trans (hb1.mono HB.out.size)⟩
 | some v =>
   rw [ho] at HK;simp only [vEnd] at HK ⊢;clear ho
   go_enter Tryz.func101, Tryz.ntmps101
   go_wp2_with fail
   refine (HK.out _).mono ?_;rintro e w1 ⟨rfl, hb1⟩;go_wp2_with fail
   go_ret;exact ⟨rfl, HB.out.trans (hb1.mono HB.out.size)⟩
theorem rk_2 (kn : Kn) (V : Nat -> Int) (z : Nat) (a b : Int) (w : World) (B mb pb vb most L : Nat) (a1 a2 a3 : Option Addr) (n1 c1 n2 c2 n3 c3 at_ m : Nat) (P : Nat -> Int) (h : MAt w B mb pb vb most L a1 a2 a3 n1 c1 n2 c2 n3 c3 at_ m P V) (hk : CameA w a1 kn.ins) (hn : kn.ins.length = n1) (hz : z < n1) : RkIs 2 kn V (z : Int) a b mb w := by
 have HR : Hid (rkO kn V 2 (z : Int) a b = some (anth kn.ins z).mon) := by unfold Hid rkO; simp
 have HB := Hd (bel_2 w (.cells #[.int .i64 2, .int .i64 (z : Int)] 55) (.cells #[.int .i64 a, .int .i64 b] 170));have x0 := (h.below HB.out).bx.at 0 rfl;obtain ⟨kb, off, rfl, hc⟩ := hk.open hn (by omega);obtain ⟨-, y1⟩ := hc _ HB.out z hz;have hz' : (z : Int) < (n1 : Int) := by omega
 clear hc hk h hn;unfold RkIs;rw [HR.out];have y1' : ((w.alloc (.cells #[.int .i64 2, .int .i64 (z : Int)] 55)).alloc (.cells #[.int .i64 a, .int .i64 b] 170)).drew.cell? ⟨kb, off + z * 2 + 1, none⟩ = some (.int .i64 (anth kn.ins z).mon) := y1;have x0' : ((w.alloc (.cells #[.int .i64 2, .int .i64 (z : Int)] 55)).alloc (.cells #[.int .i64 a, .int .i64 b] 170)).drew.cell? ⟨mb, 0, none⟩ = _ := x0;have HBd : Hid (Below w.heap.size w (((w.alloc (.cells #[.int .i64 2, .int .i64 (z : Int)] 55)).alloc (.cells #[.int .i64 a, .int .i64 b] 170)).drew)) := HB.out.drew
 go_enter Tryz.func101, Tryz.ntmps101
 go_wp2_with fail
 go_region
 go_wp2_with fail
 go_ret;exact ⟨rfl, HBd.out⟩
theorem rk_4 (kn : Kn) (V : Nat -> Int) (z : Nat) (a b : Int) (w : World) (B mb pb vb most L : Nat) (a1 a2 a3 : Option Addr) (n1 c1 n2 c2 n3 c3 at_ m : Nat) (P : Nat -> Int) (h : MAt w B mb pb vb most L a1 a2 a3 n1 c1 n2 c2 n3 c3 at_ m P V) (hk : CameA w a3 kn.yrs) (hn : kn.yrs.length = n3) (hz : z < n3) : RkIs 4 kn V (z : Int) a b mb w := by
 have HR : Hid (rkO kn V 4 (z : Int) a b = some (anth kn.yrs z).mon) := by unfold Hid rkO; simp
 have HB := Hd (bel_2 w (.cells #[.int .i64 4, .int .i64 (z : Int)] 55) (.cells #[.int .i64 a, .int .i64 b] 170));have x0 := (h.below HB.out).bx.at 2 rfl;obtain ⟨kb, off, rfl, hc⟩ := hk.open hn (by omega);obtain ⟨-, y1⟩ := hc _ HB.out z hz;have hz' : (z : Int) < (n3 : Int) := by omega
 clear hc hk h hn;unfold RkIs;rw [HR.out];have y1' : ((w.alloc (.cells #[.int .i64 4, .int .i64 (z : Int)] 55)).alloc (.cells #[.int .i64 a, .int .i64 b] 170)).drew.cell? ⟨kb, off + z * 2 + 1, none⟩ = some (.int .i64 (anth kn.yrs z).mon) := y1;have x0' : ((w.alloc (.cells #[.int .i64 4, .int .i64 (z : Int)] 55)).alloc (.cells #[.int .i64 a, .int .i64 b] 170)).drew.cell? ⟨mb, 2, none⟩ = _ := x0;have HBd : Hid (Below w.heap.size w (((w.alloc (.cells #[.int .i64 4, .int .i64 (z : Int)] 55)).alloc (.cells #[.int .i64 a, .int .i64 b] 170)).drew)) := HB.out.drew
 go_enter Tryz.func101, Tryz.ntmps101
 go_wp2_with fail
 go_region
 go_wp2_with fail
 go_ret;exact ⟨rfl, HBd.out⟩
theorem rk_3 (kn : Kn) (V : Nat -> Int) (z : Nat) (a b : Int) (w : World) (B mb pb vb most L : Nat) (a1 a2 a3 : Option Addr) (n1 c1 n2 c2 n3 c3 at_ m : Nat) (P : Nat -> Int) (h : MAt w B mb pb vb most L a1 a2 a3 n1 c1 n2 c2 n3 c3 at_ m P V) (hz : z < L) : RkIs 3 kn V (z : Int) a b mb w := by
 have HR : Hid (rkO kn V 3 (z : Int) a b = some (V z)) := by unfold Hid rkO; simp
 have HB := Hd (bel_2 w (.cells #[.int .i64 3, .int .i64 (z : Int)] 55) (.cells #[.int .i64 a, .int .i64 b] 170));have x5 := (h.below HB.out).bx.at 5 rfl;have y1 := ((h.below HB.out).vals z hz).1;have hz' : (z : Int) < (L : Int) := by omega
 clear h;unfold RkIs;rw [HR.out];have y1' : ((w.alloc (.cells #[.int .i64 3, .int .i64 (z : Int)] 55)).alloc (.cells #[.int .i64 a, .int .i64 b] 170)).drew.cell? ⟨vb, z, none⟩ = some (.int .i64 (V z)) := y1;have x5' : ((w.alloc (.cells #[.int .i64 3, .int .i64 (z : Int)] 55)).alloc (.cells #[.int .i64 a, .int .i64 b] 170)).drew.cell? ⟨mb, 5, none⟩ = _ := x5;have HBd : Hid (Below w.heap.size w (((w.alloc (.cells #[.int .i64 3, .int .i64 (z : Int)] 55)).alloc (.cells #[.int .i64 a, .int .i64 b] 170)).drew)) := HB.out.drew
 go_enter Tryz.func101, Tryz.ntmps101
 go_wp2_with fail
 go_region
 go_wp2_with fail
 go_ret;exact ⟨rfl, HBd.out⟩
theorem rk_6 (kn : Kn) (V : Nat -> Int) (z : Nat) (a b : Int) (w : World) (B mb pb vb most L : Nat) (a1 a2 a3 : Option Addr) (n1 c1 n2 c2 n3 c3 at_ m : Nat) (P : Nat -> Int) (h : MAt w B mb pb vb most L a1 a2 a3 n1 c1 n2 c2 n3 c3 at_ m P V) (hk : CameT w a2 kn.tbs) (hn : kn.tbs.length = n2) (hz : z < n2) (ha : monB a = true) (ht : tblE (tnth kn.tbs z).name (tnth kn.tbs z).bks = 0) : RkIs 6 kn V (z : Int) a b mb w := by
 have HR : Hid (rkO kn V 6 (z : Int) a b = some (taxN (tnth kn.tbs z).bks a)) := by unfold Hid rkO; simp
 have HB := Hd (bel_2 w (.cells #[.int .i64 6, .int .i64 (z : Int)] 55) (.cells #[.int .i64 a, .int .i64 b] 170));have x0 := (h.below HB.out).bx.at 1 rfl;obtain ⟨kb, off, rfl, hc⟩ := hk.open hn (by omega);obtain ⟨at', ct, y0, y1, hcb, hns, hnb⟩ := hc _ HB.out z hz;have hz' : (z : Int) < (n2 : Int) := by omega
 clear hc hk h hn;unfold RkIs;rw [HR.out];have z0 : ((w.alloc (.cells #[.int .i64 6, .int .i64 (z : Int)] 55)).alloc (.cells #[.int .i64 a, .int .i64 b] 170)).cell? ⟨w.heap.size, 1, none⟩ = some (.int .i64 (z : Int)) := by simp
 have z1 : ((w.alloc (.cells #[.int .i64 6, .int .i64 (z : Int)] 55)).alloc (.cells #[.int .i64 a, .int .i64 b] 170)).cell? ⟨w.heap.size + 1, 0, none⟩ = some (.int .i64 a) := by simp
 go_enter Tryz.func101, Tryz.ntmps101
 go_wp2_with fail
 generalize ((w.alloc (.cells #[.int .i64 6, .int .i64 (z : Int)] 55)).alloc (.cells #[.int .i64 a, .int .i64 b] 170)) = W at *;have HTX : Hid (∀ w', Below W.heap.size W w' -> Calls Tryz.prog 132 #[.agg #[.string (tnth kn.tbs z).name, .slice at' (tnth kn.tbs z).bks.length ct], .int .i64 a] w' fun e w'' => e = .returned (.int .i64 (taxN (tnth kn.tbs z).bks a)) /\ Below w'.heap.size w' w'') := fun w' hb' => rTax_any _ at' _ ct _ a w' (hcb.below hb') rfl hnb ht ha
 clear hcb ht;generalize (tnth kn.tbs z).name = tn at *;obtain ⟨tb, htb⟩ : ∃ tb, (tnth kn.tbs z).bks = tb := ⟨_, rfl⟩;rw [htb] at HTX y1;have HTB := Hd htb;clear hnb htb;generalize tb.length = tl at HTX y1;have r0 := cell_regrown x0;have r1 := cell_regrown y0;have r2 := cell_regrown y1;have r3 := cell_regrown z0;have r4 := cell_regrown z1;refine wp_region_quiet_below (by kernel_rfl) (by kernel_rfl) ?_
 repeat (go_big_quiet_step (exact Calls.regrown_of (HTX.out _ (below_regrown _ _ _))))
 refine wpQuiet_nil ?_;intro _ hw';obtain ⟨⟨dq, osq⟩, hw''⟩ := hw';subst hw'';go_wp2_with fail
 go_ret;exact ⟨vret_int (congrArg (fun x => taxN x a) HTB.out.symm), HB.out.trans ((below_regrown W dq osq).mono HB.out.size)⟩
end Go.Proofs.YtmlpedgcpffpnaaGreatDoor
