/-
  Promise J2: the walk of a checker's step.
-/
import Derived.Test.YtmlpedgcpffpnaaGreatDoorKZ0
import Derived.Test.YtmlpedgcpffpnaaGreatDoorKZ1
import Derived.Test.YtmlpedgcpffpnaaGreatDoorKQ6
import Derived.Deep.RegionHeldLaw
import Derived.Lib.Hide
import Derived.Deep.AppendLies
set_option linter.unusedSimpArgs false
set_option maxRecDepth 100000
set_option maxHeartbeats 8000000
namespace Go.Proofs.YtmlpedgcpffpnaaGreatDoor
open Go.RowKit
structure CkAt (w : World) (B g sb b off n cap : Nat) (lines : Int) (a1 a2 a3 : Option Addr) (n1 c1 n2 c2 n3 c3 sc : Nat) (S : Nat -> Sp) (m : Int) : Prop where
 ch : 0 < n -> ChIs w g b off n cap lines a1 a2 a3 n1 c1 n2 c2 n3 c3
 lt : g < w.heap.size
 sl : w.cell? ⟨g, 5, none⟩ = some (.slice (some ⟨sb, 0, none⟩) (n + 1 : Nat) sc)
 mo : w.cell? ⟨g, 6, none⟩ = some (.int .i64 m)
 mf : w.frozen? ⟨g, 6, none⟩ = false
 sp : Spots w sb n S
 hg : B <= g
 hs : B <= sb
 ne : g ≠ sb
theorem CkAt.of {w w' : World} {B g sb b off n cap : Nat} {lines : Int} {a1 a2 a3 : Option Addr} {n1 c1 n2 c2 n3 c3 sc : Nat} {S S' : Nat -> Sp} {m : Int} (h : CkAt w B g sb b off n cap lines a1 a2 a3 n1 c1 n2 c2 n3 c3 sc S m) (hsz : w.heap.size <= w'.heap.size) (hc : ∀ i, w'.cell? ⟨g, i, none⟩ = w.cell? ⟨g, i, none⟩ /\ w'.frozen? ⟨g, i, none⟩ = w.frozen? ⟨g, i, none⟩) (hS : Spots w' sb n S') : CkAt w' B g sb b off n cap lines a1 a2 a3 n1 c1 n2 c2 n3 c3 sc S' m :=
 ⟨fun h0 => ⟨Nat.lt_of_lt_of_le h.lt hsz, (hc 0).1.trans (h.ch h0).ops, (hc 1).1.trans (h.ch h0).lns, (hc 2).1.trans (h.ch h0).ins, (hc 3).1.trans (h.ch h0).tbs, (hc 4).1.trans (h.ch h0).yrs⟩, Nat.lt_of_lt_of_le h.lt hsz, (hc 5).1.trans h.sl, (hc 6).1.trans h.mo, (hc 6).2.trans h.mf, hS, h.hg, h.hs, h.ne⟩
theorem CkAt.below {w w' : World} {B g sb b off n cap : Nat} {lines : Int} {a1 a2 a3 : Option Addr} {n1 c1 n2 c2 n3 c3 sc : Nat} {S : Nat -> Sp} {m : Int} (h : CkAt w B g sb b off n cap lines a1 a2 a3 n1 c1 n2 c2 n3 c3 sc S m) (hb : Below w.heap.size w w') : CkAt w' B g sb b off n cap lines a1 a2 a3 n1 c1 n2 c2 n3 c3 sc S m :=
 h.of hb.size (fun i => ⟨hb.cell (p := ⟨g, i, none⟩) h.lt, hb.frozen (p := ⟨g, i, none⟩) h.lt⟩) (h.sp.below hb)
theorem CkAt.reach {w w' : World} {B g sb b off n cap t : Nat} {lines : Int} {a1 a2 a3 : Option Addr} {n1 c1 n2 c2 n3 c3 sc : Nat} {S : Nat -> Sp} {m d : Int} {k : Nat} {e : Ending} (h : CkAt w B g sb b off n cap lines a1 a2 a3 n1 c1 n2 c2 n3 c3 sc S m) (hr : ReachRet w sb (t * 4) d k (hungB (S t).d (S t).k d k (S t).r (S t).h) e w') : CkAt w' B g sb b off n cap lines a1 a2 a3 n1 c1 n2 c2 n3 c3 sc (rchS S t d k) m :=
 h.of hr.2.2.2.size (fun i => ⟨hr.2.2.2.cell_far ⟨g, i, none⟩ h.lt (by intro e; injection e with e; exact h.ne e), hr.2.2.2.frozen_far ⟨g, i, none⟩ h.lt (by intro e; injection e with e; exact h.ne e)⟩) (h.sp.reach hr)
theorem CkAt.most {w : World} {B g sb b off n cap : Nat} {lines : Int} {a1 a2 a3 : Option Addr} {n1 c1 n2 c2 n3 c3 sc : Nat} {S : Nat -> Sp} {m : Int} (h : CkAt w B g sb b off n cap lines a1 a2 a3 n1 c1 n2 c2 n3 c3 sc S m) (m' : Int) : CkAt (w.setCell ⟨g, 6, none⟩ (.int .i64 m')) B g sb b off n cap lines a1 a2 a3 n1 c1 n2 c2 n3 c3 sc S m' := by
 have hc : ∀ i, i ≠ 6 -> (w.setCell ⟨g, 6, none⟩ (.int .i64 m')).cell? ⟨g, i, none⟩ = w.cell? ⟨g, i, none⟩ := fun i hi => World.cell?_setCell_other w _ _ _ (addr_ne (Ne.symm hi))
 have ho : ∀ q, (w.setCell ⟨g, 6, none⟩ (.int .i64 m')).cell? ⟨sb, q, none⟩ = w.cell? ⟨sb, q, none⟩ := fun q => World.cell?_setCell_other w _ _ _ (by intro e; injection e with e; exact h.ne e)
 refine ⟨fun h0 => ⟨by simpa using h.lt, (hc 0 (by omega)).trans (h.ch h0).ops, (hc 1 (by omega)).trans (h.ch h0).lns, (hc 2 (by omega)).trans (h.ch h0).ins, (hc 3 (by omega)).trans (h.ch h0).tbs, (hc 4 (by omega)).trans (h.ch h0).yrs⟩, by simpa using h.lt, (hc 5 (by omega)).trans h.sl, World.cell?_setCell_same w _ _ h.mo, by simpa using h.mf, fun j hj => (h.sp j hj).same fun q _ _ => ⟨ho q, by simp⟩, h.hg, h.hs, h.ne⟩
theorem CkAt.spot {w : World} {B g sb b off n cap : Nat} {lines : Int} {a1 a2 a3 : Option Addr} {n1 c1 n2 c2 n3 c3 sc : Nat} {S : Nat -> Sp} {m : Int} (h : CkAt w B g sb b off n cap lines a1 a2 a3 n1 c1 n2 c2 n3 c3 sc S m) {j : Nat} (hj : j <= n) : w.cell? ⟨sb, j * 4, none⟩ = some (.int .i64 (S j).d) /\ w.cell? ⟨sb, j * 4 + 1, none⟩ = some (.int .u64 ((S j).k : Nat)) /\ w.cell? ⟨sb, j * 4 + 2, none⟩ = some (.bool (S j).r) /\ w.cell? ⟨sb, j * 4 + 3, none⟩ = some (.bool (S j).h) := (h.sp j hj).1
theorem step_any (B g sb b off n cap at_ : Nat) (lines : Int) (a1 a2 a3 : Option Addr) (n1 c1 n2 c2 n3 c3 sc : Nat) (S : Nat -> Sp) (m : Int) (o : Bk) (w : World) (hC : CkAt w B g sb b off n cap lines a1 a2 a3 n1 c1 n2 c2 n3 c3 sc S m) (hE : Eff w)
 (hat : at_ < n) (hn : n <= 10000) (hz : I64 o.rate) (x0 : w.cell? ⟨b, off + at_ * 2, none⟩ = some (.int .i64 o.frm)) (x1 : w.cell? ⟨b, off + at_ * 2 + 1, none⟩ = some (.int .i64 o.rate))
 (hl : lines <= 40) (hSd : (S at_).r = true -> (0 <= (S at_).d /\ (S at_).d <= 20000) /\ (S at_).k < 1099511627776) :
 Calls Tryz.prog 49 #[.pointer (some ⟨g, 0, none⟩), .int .i64 (at_ : Int)] w fun e w' => e = .returned (.int .i64 (stpE S o lines n1 n2 n3 n at_)) /\ Below B w w' /\ (stpE S o lines n1 n2 n3 n at_ = 0 -> CkAt w' B g sb b off n cap lines a1 a2 a3 n1 c1 n2 c2 n3 c3 sc (stpS S o at_) (stpM m S o at_)) := by
 have HC := Hd hC;have HE := Hd hE;have HSD := Hd hSd;have hat' : (at_ : Int) < (n : Int) := by omega
 have hat2 : (at_ : Int) < ((n + 1 : Nat) : Int) := by omega
 have o0 := (hC.ch (by omega)).ops;have o5 := hC.sl;obtain ⟨y0, y1, y2, y3⟩ := hC.spot (j := at_) (by omega);have hat3 : (at_ : Int) < (n : Int) + 1 := by omega
 have HSW0 : Hid (∀ w', Below w.heap.size w w' -> CkAt w' B g sb b off n cap lines a1 a2 a3 n1 c1 n2 c2 n3 c3 sc S m) := fun w' hb' => hC.below hb'
 clear hC hE hSd;obtain ⟨d, z⟩ := o;simp only at x0 x1 hz;generalize hSa : S at_ = s at *;obtain ⟨sd, sk, sr, sh⟩ := s;simp only at y0 y1 y2 y3 HSD;have HSA := Hd hSa;clear hSa;have HSW : Hid (∀ w', Below w.heap.size w w' -> w'.cell? ⟨g, 0, none⟩ = some (.slice (some ⟨b, off, none⟩) n cap) /\ w'.cell? ⟨g, 5, none⟩ = some (.slice (some ⟨sb, 0, none⟩) (n + 1 : Nat) sc) /\ w'.cell? ⟨b, off + at_ * 2, none⟩ = some (.int .i64 d) /\ w'.cell? ⟨b, off + at_ * 2 + 1, none⟩ = some (.int .i64 z) /\ w'.cell? ⟨sb, at_ * 4, none⟩ = some (.int .i64 sd) /\ w'.cell? ⟨sb, at_ * 4 + 1, none⟩ = some (.int .u64 (sk : Nat)) /\ w'.cell? ⟨sb, at_ * 4 + 2, none⟩ = some (.bool sr) /\ w'.cell? ⟨sb, at_ * 4 + 3, none⟩ = some (.bool sh)) := fun w' hb' =>
  ⟨(hb'.cell (blt_of_cell o0)).trans o0, (hb'.cell (blt_of_cell o5)).trans o5, (hb'.cell (blt_of_cell x0)).trans x0, (hb'.cell (blt_of_cell x1)).trans x1, (hb'.cell (blt_of_cell y0)).trans y0, (hb'.cell (blt_of_cell y1)).trans y1, (hb'.cell (blt_of_cell y2)).trans y2, (hb'.cell (blt_of_cell y3)).trans y3⟩
 have HX0 := Hd x0;have HX1 := Hd x1;clear o0 o5 x0 x1 y0 y1 y2 y3
 go_enter Tryz.func49, Tryz.ntmps49
 go_wp2_with fail
 refine wp_region_held_drew (S := fun w' => w'.cell? ⟨g, 0, none⟩ = some (.slice (some ⟨b, off, none⟩) n cap) /\ w'.cell? ⟨g, 5, none⟩ = some (.slice (some ⟨sb, 0, none⟩) (n + 1 : Nat) sc) /\ w'.cell? ⟨b, off + at_ * 2, none⟩ = some (.int .i64 d) /\ w'.cell? ⟨b, off + at_ * 2 + 1, none⟩ = some (.int .i64 z) /\ w'.cell? ⟨sb, at_ * 4, none⟩ = some (.int .i64 sd) /\ w'.cell? ⟨sb, at_ * 4 + 1, none⟩ = some (.int .u64 (sk : Nat)) /\ w'.cell? ⟨sb, at_ * 4 + 2, none⟩ = some (.bool sr) /\ w'.cell? ⟨sb, at_ * 4 + 3, none⟩ = some (.bool sh)) (by kernel_rfl) ?_ (fun hHeld => ?_)
 ·exact HSW.out _ (kbelow_dN (Below.refl _ _) 1)
 have HBn0 : Hid (Below w.heap.size w w.drew) := Hd (kbelow_dN (Below.refl _ _) 1);generalize w.drew = V0 at HBn0 hHeld ⊢;refine tkH 0 (.pointer (some ⟨g, 0, none⟩)) rfl (fun w' hSw => ?_) ?_
 ·((try dsimp only at hSw); go_simp; try with_reducible rfl)
 try simp only [Act.put, layS]
 refine tkH 1 (.pointer (some ⟨g, 0, none⟩)) rfl (fun w' hSw => ?_) ?_
 ·((try dsimp only at hSw); go_simp; try with_reducible rfl)
 try simp only [Act.put, layS]
 refine tkH 2 (.pointer (some ⟨g, 0, none⟩)) rfl (fun w' hSw => ?_) ?_
 ·((try dsimp only at hSw); go_simp; try with_reducible rfl)
 try simp only [Act.put, layS]
 refine tkH 3 (.slice (some ⟨b, off, none⟩) n cap) rfl (fun w' hSw => ?_) ?_
 ·((try dsimp only at hSw); go_simp; try with_reducible rfl)
 try simp only [Act.put, layS]
 refine tkH 4 (.int .i64 (at_ : Int)) rfl (fun w' hSw => ?_) ?_
 ·((try dsimp only at hSw); go_simp; try with_reducible rfl)
 try simp only [Act.put, layS]
 refine tkH 5 (.pointer (some ⟨b, off + at_ * 2, none⟩)) rfl (fun w' hSw => ?_) ?_
 ·((try dsimp only at hSw); go_simp; try with_reducible rfl)
 try simp only [Act.put, layS]
 refine tkH 6 (.agg #[.int .i64 d, .int .i64 z]) rfl (fun w' hSw => ?_) ?_
 ·((try dsimp only at hSw); go_simp; try with_reducible rfl)
 try simp only [Act.put, layS]
 refine tkH 7 (.pointer (some ⟨g, 0, none⟩)) rfl (fun w' hSw => ?_) ?_
 ·((try dsimp only at hSw); go_simp; try with_reducible rfl)
 try simp only [Act.put, layS]
 refine tkH 8 (.pointer (some ⟨g, 0, none⟩)) rfl (fun w' hSw => ?_) ?_
 ·((try dsimp only at hSw); go_simp; try with_reducible rfl)
 try simp only [Act.put, layS]
 refine tkH 9 (.pointer (some ⟨g, 5, none⟩)) rfl (fun w' hSw => ?_) ?_
 ·((try dsimp only at hSw); go_simp; try with_reducible rfl)
 try simp only [Act.put, layS]
 refine tkH 10 (.slice (some ⟨sb, 0, none⟩) (n + 1 : Nat) sc) rfl (fun w' hSw => ?_) ?_
 ·((try dsimp only at hSw); go_simp; try with_reducible rfl)
 try simp only [Act.put, layS]
 refine tkH 11 (.int .i64 (at_ : Int)) rfl (fun w' hSw => ?_) ?_
 ·((try dsimp only at hSw); go_simp; try with_reducible rfl)
 try simp only [Act.put, layS]
 refine tkH 12 (.pointer (some ⟨sb, at_ * 4, none⟩)) rfl (fun w' hSw => ?_) ?_
 ·((try dsimp only at hSw); go_simp; try with_reducible rfl)
 try simp only [Act.put, layS]
 refine tkH 13 (.agg #[.int .i64 sd, .int .u64 (sk : Nat), .bool sr, .bool sh]) rfl (fun w' hSw => ?_) ?_
 ·((try dsimp only at hSw); go_simp; try with_reducible rfl)
 try simp only [Act.put, layS]
 refine rd2 14 15 rfl (fun K hK => ?_) rfl (fun K hK => ?_)
 focus
  go_simp;have HBn1 := Hd (HBn0.out.alloc HBn0.out.size (.cells #[.int .i64 0, .int .i64 0] 55));have HP5 := Hd (Cbx.made V0 [.int .i64 0, .int .i64 0] 55);have HG5 := Hd HBn0.out.size;have HSZ : Hid (V0.heap.size < (V0.alloc (.cells #[.int .i64 0, .int .i64 0] 55)).heap.size) := HP5.out.lt;refine hK.out _ _ (by exact HSW.out _ HBn1.out) (fun hHeld => ?_);clear hK K
  try simp only [Act.put, layS]
  generalize V0.alloc (.cells #[.int .i64 0, .int .i64 0] 55) = V1 at HBn1 HP5 HSZ hHeld ⊢;refine rd1 15 rfl (fun K hK => ?_);go_simp;have HBn2 := Hd (HBn1.out.alloc HBn1.out.size (.cells #[.int .i64 0, .int .u64 0, .bool false, .bool false] 109));have HP6 := Hd (Cbx.made V1 [.int .i64 0, .int .u64 0, .bool false, .bool false] 109);replace HP5 := Hd (HP5.out.below (kbelow_box V1 (.cells #[.int .i64 0, .int .u64 0, .bool false, .bool false] 109)) HSZ.out);have HG6 := Hd HBn1.out.size;have HNE := Hd (Nat.ne_of_lt HSZ.out);clear HSZ;refine hK.out _ _ (by exact HSW.out _ HBn2.out) (fun hHeld => ?_);clear hK K
  try simp only [Act.put, layS]
  generalize V1.alloc (.cells #[.int .i64 0, .int .u64 0, .bool false, .bool false] 109) = V2 at HBn2 HP5 HP6 hHeld ⊢;generalize V0.heap.size = p5 at HP5 HG5 HNE ⊢;generalize V1.heap.size = p6 at HP6 HG6 HNE ⊢
 rotate_left
 focus
  go_simp;have HBn1 := Hd (HBn0.out.alloc HBn0.out.size (.cells #[.int .i64 0, .int .u64 0, .bool false, .bool false] 109));have HP6 := Hd (Cbx.made V0 [.int .i64 0, .int .u64 0, .bool false, .bool false] 109);have HG6 := Hd HBn0.out.size;have HSZ : Hid (V0.heap.size < (V0.alloc (.cells #[.int .i64 0, .int .u64 0, .bool false, .bool false] 109)).heap.size) := HP6.out.lt;refine hK.out _ _ (by exact HSW.out _ HBn1.out) (fun hHeld => ?_);clear hK K
  try simp only [Act.put, layS]
  generalize V0.alloc (.cells #[.int .i64 0, .int .u64 0, .bool false, .bool false] 109) = V1 at HBn1 HP6 HSZ hHeld ⊢;refine rd1 14 rfl (fun K hK => ?_);go_simp;have HBn2 := Hd (HBn1.out.alloc HBn1.out.size (.cells #[.int .i64 0, .int .i64 0] 55));have HP5 := Hd (Cbx.made V1 [.int .i64 0, .int .i64 0] 55);replace HP6 := Hd (HP6.out.below (kbelow_box V1 (.cells #[.int .i64 0, .int .i64 0] 55)) HSZ.out);have HG5 := Hd HBn1.out.size;have HNE := Hd (Nat.ne_of_lt HSZ.out);clear HSZ;refine hK.out _ _ (by exact HSW.out _ HBn2.out) (fun hHeld => ?_);clear hK K
  try simp only [Act.put, layS]
  generalize V1.alloc (.cells #[.int .i64 0, .int .i64 0] 55) = V2 at HBn2 HP5 HP6 hHeld ⊢;generalize V0.heap.size = p6 at HP6 HG6 HNE ⊢;generalize V1.heap.size = p5 at HP5 HG5 HNE ⊢;replace HNE := Hd (Ne.symm HNE.out)
 all_goals
  have c0 := HP5.out.at 0 rfl;have c1 := HP5.out.at 1 rfl;have f0 := HP5.out.fr 0 rfl;have f1 := HP5.out.fr 1 rfl;refine rd1 16 rfl (fun K hK => ?_);go_simp;clear c0 c1 f0 f1;have HBn3 : Hid (Below w.heap.size w ((V2.setCell ⟨p5, 0, none⟩ (.int .i64 d)).setCell ⟨p5, 1, none⟩ (.int .i64 z))) := below_cput HG5.out w V2 HBn2.out [.int .i64 d, .int .i64 z] 0;replace HP5 : Hid (Cbx ((V2.setCell ⟨p5, 0, none⟩ (.int .i64 d)).setCell ⟨p5, 1, none⟩ (.int .i64 z)) p5 [.int .i64 d, .int .i64 z]) := HP5.out.put [.int .i64 d, .int .i64 z] rfl;replace HP6 : Hid (Cbx ((V2.setCell ⟨p5, 0, none⟩ (.int .i64 d)).setCell ⟨p5, 1, none⟩ (.int .i64 z)) p6 [.int .i64 0, .int .u64 0, .bool false, .bool false]) := HP6.out.to (cput_block p5 (Ne.symm HNE.out) [.int .i64 d, .int .i64 z] 0 V2);refine hK.out _ _ (by exact HSW.out _ HBn3.out) (fun hHeld => ?_);clear hK K
  try simp only [Act.put, layS]
  generalize ((V2.setCell ⟨p5, 0, none⟩ (.int .i64 d)).setCell ⟨p5, 1, none⟩ (.int .i64 z)) = V3 at HBn3 HP5 HP6 hHeld ⊢;have c0 := HP6.out.at 0 rfl;have c1 := HP6.out.at 1 rfl;have c2 := HP6.out.at 2 rfl;have c3 := HP6.out.at 3 rfl;have f0 := HP6.out.fr 0 rfl;have f1 := HP6.out.fr 1 rfl;have f2 := HP6.out.fr 2 rfl;have f3 := HP6.out.fr 3 rfl;refine rd1 17 rfl (fun K hK => ?_);go_simp;clear c0 c1 c2 c3 f0 f1 f2 f3;have HBn4 : Hid (Below w.heap.size w ((((V3.setCell ⟨p6, 0, none⟩ (.int .i64 sd)).setCell ⟨p6, 1, none⟩ (.int .u64 (sk : Nat))).setCell ⟨p6, 2, none⟩ (.bool sr)).setCell ⟨p6, 3, none⟩ (.bool sh))) := below_cput HG6.out w V3 HBn3.out [.int .i64 sd, .int .u64 (sk : Nat), .bool sr, .bool sh] 0;replace HP5 : Hid (Cbx ((((V3.setCell ⟨p6, 0, none⟩ (.int .i64 sd)).setCell ⟨p6, 1, none⟩ (.int .u64 (sk : Nat))).setCell ⟨p6, 2, none⟩ (.bool sr)).setCell ⟨p6, 3, none⟩ (.bool sh)) p5 [.int .i64 d, .int .i64 z]) := HP5.out.to (cput_block p6 HNE.out [.int .i64 sd, .int .u64 (sk : Nat), .bool sr, .bool sh] 0 V3);replace HP6 : Hid (Cbx ((((V3.setCell ⟨p6, 0, none⟩ (.int .i64 sd)).setCell ⟨p6, 1, none⟩ (.int .u64 (sk : Nat))).setCell ⟨p6, 2, none⟩ (.bool sr)).setCell ⟨p6, 3, none⟩ (.bool sh)) p6 [.int .i64 sd, .int .u64 (sk : Nat), .bool sr, .bool sh]) := HP6.out.put [.int .i64 sd, .int .u64 (sk : Nat), .bool sr, .bool sh] rfl;refine hK.out _ _ (by exact HSW.out _ HBn4.out) (fun hHeld => ?_);clear hK K
  try simp only [Act.put, layS]
  generalize ((((V3.setCell ⟨p6, 0, none⟩ (.int .i64 sd)).setCell ⟨p6, 1, none⟩ (.int .u64 (sk : Nat))).setCell ⟨p6, 2, none⟩ (.bool sr)).setCell ⟨p6, 3, none⟩ (.bool sh)) = W at HBn4 HP5 HP6 hHeld ⊢;refine wpAnyH_done (by kernel_rfl) ?_ _;clear hHeld HBn0 HBn1 HBn2 HBn3;have HBS : Hid (B <= w.heap.size) := Nat.le_of_lt (Nat.lt_of_le_of_lt HC.out.hg HC.out.lt);have c50 := HP5.out.at 0 rfl;have c51 := HP5.out.at 1 rfl;have c60 := HP6.out.at 0 rfl
  by_cases hd1 : d < 1
  ·have HR : Hid (stpE S ⟨d, z⟩ lines n1 n2 n3 n at_ = 7) := by unfold Hid stpE; rw [if_pos (.inl hd1)]
   have hd1B : decide (d < 1) = true := decide_eq_true hd1;go_wp2_with fail
   go_ret;exact ⟨kret_int HR.out.symm, (HBn4.out.mono HBS.out), fun h => absurd (HR.out.symm.trans h) (by decide)⟩
  have hd1B : decide (d < 1) = false := dEf hd1
  by_cases hd16 : 16 < d
  ·have HR : Hid (stpE S ⟨d, z⟩ lines n1 n2 n3 n at_ = 7) := by unfold Hid stpE; rw [if_pos (.inr hd16)]
   have hd16B : decide (16 < d) = true := decide_eq_true hd16;go_wp2_with fail
   go_ret;exact ⟨kret_int HR.out.symm, (HBn4.out.mono HBS.out), fun h => absurd (HR.out.symm.trans h) (by decide)⟩
  have hd16B : decide (16 < d) = false := dEf hd16;have HRG : Hid (1 <= d /\ d <= 16) := ⟨by omega, by omega⟩;have HQ0 : Hid (stpE S ⟨d, z⟩ lines n1 n2 n3 n at_ = if fitsB d z lines n1 n2 n3 n at_ = false then 3 else if sr = false then 0 else if sh = true then 4 else if allowB sd sk d.toNat z = false then 4 else 0) := by unfold Hid stpE; rw [if_neg (show ¬ (d < 1 \/ 16 < d) by omega), HSA.out]
  go_wp2_with fail
  refine (fits_any d HRG.out.1 HRG.out.2 g b off n cap at_ z lines a1 a2 a3 n1 c1 n2 c2 n3 c3 W ((HSW0.out _ HBn4.out).ch (by omega)) hat hn hz (HSW.out _ HBn4.out).2.2.1 (HSW.out _ HBn4.out).2.2.2.1).mono ?_;rintro e w1 ⟨rfl, hb1⟩;have HBw1 := Hd (HBn4.out.trans (hb1.mono HBn4.out.size));replace HP5 := Hd (HP5.out.below hb1 HP5.out.lt);replace HP6 := Hd (HP6.out.below hb1 HP6.out.lt);clear hb1 c50 c51 c60
  cases hfit : fitsB d z lines n1 n2 n3 n at_
  ·rw [if_pos hfit] at HQ0;have HR := HQ0;go_wp2_with fail
   go_ret;exact ⟨kret_int HR.out.symm, (HBw1.out.mono HBS.out), fun h => absurd (HR.out.symm.trans h) (by decide)⟩
  rw [hfit] at HQ0;simp only [Bool.true_eq_false, if_false] at HQ0;have HFIT := Hd hfit;clear hfit;have c62 := HP6.out.at 2 rfl
  cases sr
  ·have HR : Hid (stpE S ⟨d, z⟩ lines n1 n2 n3 n at_ = 0) := by unfold Hid; rw [HQ0.out]; rfl
   go_wp2_with fail
   go_ret;exact ⟨kret_int HR.out.symm, HBw1.out.mono HBS.out, fun _ => by unfold stpS stpM; rw [HSA.out]; exact HSW0.out _ HBw1.out⟩
  simp only [Bool.true_eq_false, if_false] at HQ0;have c63 := HP6.out.at 3 rfl
  by_cases hsh : sh = true
  ·subst hsh;have HR : Hid (stpE S ⟨d, z⟩ lines n1 n2 n3 n at_ = 4) := by unfold Hid; rw [HQ0.out]; rfl
   go_wp2_with fail
   go_ret;exact ⟨kret_int HR.out.symm, (HBw1.out.mono HBS.out), fun h => absurd (HR.out.symm.trans h) (by decide)⟩
  obtain rfl : sh = false := by simpa using hsh
  clear hsh;simp only [Bool.false_eq_true, if_false] at HQ0;obtain ⟨⟨hsd0, hsd1⟩, hsk⟩ := HSD.out rfl;have HSB : Hid ((0 <= sd /\ sd <= 20000) /\ sk < 1099511627776) := ⟨⟨hsd0, hsd1⟩, hsk⟩;have HZL : Hid (d.toNat = 3 \/ d.toNat = 16 -> 0 <= z /\ z < 40) := fun h => by
   have := fits_line HFIT.out (by have := HRG.out; omega);omega
  have hq : ((d.toNat : Nat) : Int) = d := by have := HRG.out; omega
  obtain ⟨q, hqd⟩ : ∃ q : Nat, d.toNat = q := ⟨_, rfl⟩;rw [hqd] at hq HQ0 HZL;have HQR : Hid (1 <= q /\ q <= 16) := by have := HRG.out; unfold Hid; omega
  have HTN : Hid (toN ⟨d, z⟩ at_ <= n /\ ((at_ : Int) + 1 + furI d z = (toN ⟨d, z⟩ at_ : Nat))) := by
   have := fits_far HFIT.out hat;unfold Hid toN;simp only;omega
  have HDT := Hd hqd;clear hsd0 hsd1 hsk hqd hd1 hd1B hd16 hd16B;subst hq;have c60 := HP6.out.at 0 rfl;have c61 := HP6.out.at 1 rfl;have c50 := HP5.out.at 0 rfl;have c51 := HP5.out.at 1 rfl;go_wp2_with fail
  refine (allows_any sd sk q z w1 (HE.out.below HBw1.out) HQR.out.1 HQR.out.2 HSB.out.2 HZL.out).mono ?_;rintro e w2 ⟨rfl, hb2⟩;have HBw2 := Hd (HBw1.out.trans (hb2.mono HBw1.out.size));replace HP5 := Hd (HP5.out.below hb2 HP5.out.lt);replace HP6 := Hd (HP6.out.below hb2 HP6.out.lt);clear hb2 c50 c51 c60 c61 c62 c63
  cases hal : allowB sd sk q z
  ·rw [if_pos hal] at HQ0;have HR := HQ0;go_wp2_with fail
   go_ret;exact ⟨kret_int HR.out.symm, (HBw2.out.mono HBS.out), fun h => absurd (HR.out.symm.trans h) (by decide)⟩
  have HR : Hid (stpE S ⟨(q : Int), z⟩ lines n1 n2 n3 n at_ = 0) := by unfold Hid; rw [HQ0.out, hal]; rfl
  clear hal HQ0;have c60 := HP6.out.at 0 rfl;have c61 := HP6.out.at 1 rfl;have c50 := HP5.out.at 0 rfl;have c51 := HP5.out.at 1 rfl;go_wp2_with fail
  refine (after_any sd sk q z w2 (HE.out.below HBw2.out) HQR.out.1 HQR.out.2 HSB.out.1.1 HSB.out.1.2 HSB.out.2 HZL.out).mono ?_;rintro e w3 ⟨rfl, hb3⟩;have HBw3 := Hd (HBw2.out.trans (hb3.mono HBw2.out.size));replace HP5 := Hd (HP5.out.below hb3 HP5.out.lt);clear hb3 c50 c51 c60 c61 HP6;generalize hND : nxD sd q = nd;generalize hNK : nxK sk q z = nk;have HND := Hd (And.intro hND hNK);clear hND hNK;go_wp2_with fail
  obtain ⟨W4, hW4⟩ : ∃ W4, W4 = (w3.alloc (.cells #[.int .i64 nd, .int .u64 (nk : Nat)] 107)) := ⟨_, rfl⟩;have HB43 : Hid (Below w3.heap.size w3 W4) := by rw [hW4]; exact kbelow_box _ _
  have HP7 : Hid (Cbx W4 w3.heap.size [.int .i64 nd, .int .u64 (nk : Nat)]) := by rw [hW4]; exact Cbx.made w3 _ _
  replace HP5 := Hd (HP5.out.below HB43.out HP5.out.lt);have HBW4 := Hd (HBw3.out.trans (HB43.out.mono HBw3.out.size));have HG7 := Hd HBw3.out.size;rw [<- hW4];clear hW4 HB43 HBw3 HBw2 HBw1 HBn4;generalize w3.heap.size = p7 at HP7 HG7 ⊢;have HK4 := Hd (HSW0.out _ HBW4.out);have HGL : Hid (g < w.heap.size /\ sb < w.heap.size) := ⟨HC.out.lt, blt_of_cell (HC.out.sp 0 (Nat.zero_le _)).1.1⟩;have HBd : Hid (Below W4.heap.size W4 W4.drew) := Hd (kbelow_dN (Below.refl _ _) 1);have y6 : W4.drew.cell? ⟨g, 6, none⟩ = some (.int .i64 m) := (HK4.out.below HBd.out).mo;have f6 : W4.drew.frozen? ⟨g, 6, none⟩ = false := (HK4.out.below HBd.out).mf;have y7 : W4.drew.cell? ⟨p7, 0, none⟩ = some (.int .i64 nd) := (HP7.out.below HBd.out HP7.out.lt).at 0 rfl
  go_region
  obtain ⟨W5, hW5⟩ : ∃ W5, W5 = (W4.setCell ⟨g, 6, none⟩ (.int .i64 (if m < nd then nd else m))).drew := ⟨_, rfl⟩;have HB5 : Hid (Below B w W5) := by rw [hW5]; exact ((HBW4.out.mono HBS.out).setCell HC.out.hg _).drew
  have HK5 : Hid (CkAt W5 B g sb b off n cap lines a1 a2 a3 n1 c1 n2 c2 n3 c3 sc S (maxI m nd)) := by rw [hW5]; exact (HK4.out.most (maxI m nd)).below (kbelow_dN (Below.refl _ _) 1)
  replace HP5 : Hid (Cbx W5 p5 [.int .i64 (q : Int), .int .i64 z]) := HP5.out.to (by rw [hW5]; exact Below.heap_setCell W4 ⟨g, 6, none⟩ _ p5 (show p5 ≠ g by have := HGL.out.1; have := HG5.out; omega));replace HP7 : Hid (Cbx W5 p7 [.int .i64 nd, .int .u64 (nk : Nat)]) := HP7.out.to (by rw [hW5]; exact Below.heap_setCell W4 ⟨g, 6, none⟩ _ p7 (show p7 ≠ g by have := HGL.out.1; have := HG7.out; omega));rw [<- hW5];clear hW5;generalize (if m < nd then nd else m) = mxx;clear y6 f6 y7 HBd HK4 HBW4 HSW HSW0;go_wp2_with fail
  have hwa : IntKind.i64.wrap ((at_ : Int) + 1) = (at_ : Int) + 1 := IntWalk.i64_in _ (by omega);have hwb : IntKind.i64.wrap ((at_ : Int) + 1 + furI (q : Int) z) = (toN ⟨(q : Int), z⟩ at_ : Nat) := by
   have := HTN.out;rw [IntWalk.i64_in _ (by omega)];exact this.2
  have HFU := Hd (fun w' => further_any (q : Int) z w' hz);have hto : ((toN ⟨(q : Int), z⟩ at_ : Nat) : Int) < (n : Int) + 1 := by have := HTN.out; omega
  have HTL : Hid (toN ⟨(q : Int), z⟩ at_ <= n) := HTN.out.1;have HNX : Hid (rchS S (toN ⟨(q : Int), z⟩ at_) nd nk = nxS S ⟨(q : Int), z⟩ at_) := by unfold Hid nxS; rw [HSA.out]; simp only [Int.toNat_natCast]; rw [HND.out.1, HND.out.2]
  have HSW5 : Hid (∀ w', Below W5.heap.size W5 w' -> w'.cell? ⟨g, 5, none⟩ = some (.slice (some ⟨sb, 0, none⟩) (n + 1 : Nat) sc) /\ w'.cell? ⟨p5, 0, none⟩ = some (.int .i64 (q : Int)) /\ w'.cell? ⟨p5, 1, none⟩ = some (.int .i64 z) /\ w'.cell? ⟨p7, 0, none⟩ = some (.int .i64 nd) /\ w'.cell? ⟨p7, 1, none⟩ = some (.int .u64 (nk : Nat))) := fun w' hb' => ⟨(HK5.out.below hb').sl, (HP5.out.below hb' HP5.out.lt).at 0 rfl, (HP5.out.below hb' HP5.out.lt).at 1 rfl, (HP7.out.below hb' HP7.out.lt).at 0 rfl, (HP7.out.below hb' HP7.out.lt).at 1 rfl⟩
  generalize furI (q : Int) z = fu at hwb HFU;generalize toN ⟨(q : Int), z⟩ at_ = tn at hwb hto HTL HNX;clear HTN;refine wp_region_held_drew (S := fun w' => w'.cell? ⟨g, 5, none⟩ = some (.slice (some ⟨sb, 0, none⟩) (n + 1 : Nat) sc) /\ w'.cell? ⟨p5, 0, none⟩ = some (.int .i64 (q : Int)) /\ w'.cell? ⟨p5, 1, none⟩ = some (.int .i64 z) /\ w'.cell? ⟨p7, 0, none⟩ = some (.int .i64 nd) /\ w'.cell? ⟨p7, 1, none⟩ = some (.int .u64 (nk : Nat))) (by kernel_rfl) ?_ (fun hHeld => ?_)
  ·exact HSW5.out _ (kbelow_dN (Below.refl _ _) 1)
  have HBd : Hid (Below W5.heap.size W5 W5.drew) := Hd (kbelow_dN (Below.refl _ _) 1);generalize W5.drew = U0 at HBd hHeld ⊢;refine tkH 0 (.pointer (some ⟨g, 0, none⟩)) rfl (fun w' hSw => ?_) ?_
  ·((try dsimp only at hSw); go_simp; try with_reducible rfl)
  try simp only [Act.put, layS]
  refine tkH 1 (.pointer (some ⟨g, 0, none⟩)) rfl (fun w' hSw => ?_) ?_
  ·((try dsimp only at hSw); go_simp; try with_reducible rfl)
  try simp only [Act.put, layS]
  refine tkH 2 (.pointer (some ⟨g, 5, none⟩)) rfl (fun w' hSw => ?_) ?_
  ·((try dsimp only at hSw); go_simp; try with_reducible rfl)
  try simp only [Act.put, layS]
  refine tkH 3 (.slice (some ⟨sb, 0, none⟩) (n + 1 : Nat) sc) rfl (fun w' hSw => ?_) ?_
  ·((try dsimp only at hSw); go_simp; try with_reducible rfl)
  try simp only [Act.put, layS]
  refine tkH 4 (.int .i64 (at_ : Int)) rfl (fun w' hSw => ?_) ?_
  ·((try dsimp only at hSw); go_simp; try with_reducible rfl)
  try simp only [Act.put, layS]
  refine tkH 5 (.int .i64 ((at_ : Int) + 1)) rfl (fun w' hSw => ?_) ?_
  ·((try dsimp only at hSw); go_simp; try with_reducible rfl)
  try simp only [Act.put, layS]
  refine tkH 6 (.agg #[.int .i64 (q : Int), .int .i64 z]) rfl (fun w' hSw => ?_) ?_
  ·((try dsimp only at hSw); go_simp; try with_reducible rfl)
  try simp only [Act.put, layS]
  refine tkH 10 (.agg #[.int .i64 nd, .int .u64 (nk : Nat)]) rfl (fun w' hSw => ?_) ?_
  ·((try dsimp only at hSw); go_simp; try with_reducible rfl)
  try simp only [Act.put, layS]
  refine rd1 7 rfl (fun K hK => ?_);go_simp;refine (HFU.out _).mono ?_;rintro e w6 ⟨rfl, hb6⟩;have HB6 := Hd (HBd.out.trans (hb6.mono HBd.out.size));clear hb6
  try go_wp2_with fail
  refine hK.out _ _ (by exact HSW5.out _ HB6.out) (fun hHeld => ?_);clear hK K
  try simp only [Act.put, layS]
  refine tkH 8 (.int .i64 (tn : Int)) rfl (fun w' hSw => ?_) ?_
  ·((try dsimp only at hSw); go_simp; try with_reducible rfl)
  try simp only [Act.put, layS]
  refine tkH 9 (.pointer (some ⟨sb, tn * 4, none⟩)) rfl (fun w' hSw => ?_) ?_
  ·((try dsimp only at hSw); go_simp; try with_reducible rfl)
  try simp only [Act.put, layS]
  refine rd1 11 rfl (fun K hK => ?_);go_simp;have HK6 := Hd (HK5.out.below HB6.out);refine (reachBy_any sb (tn * 4) (S tn).d (S tn).k nd nk (S tn).r (S tn).h w6 (HK6.out.sp tn HTL.out)).mono ?_;rintro e w7 hr;have HK7 : Hid (CkAt w7 B g sb b off n cap lines a1 a2 a3 n1 c1 n2 c2 n3 c3 sc (nxS S ⟨(q : Int), z⟩ at_) (maxI m nd)) := by rw [<- HNX.out]; exact HK6.out.reach hr
  have HBB7 : Hid (Below B w w7) := (HB5.out.trans (HB6.out.mono (Nat.le_trans HBS.out HB5.out.size))).grown hr.2.2.2 (by have := HB5.out.size; have := HB6.out.size; have := HBS.out; omega) fun k hk => by injection hk with hk; subst hk; exact HC.out.hs
  have HP57 := Hd ((HP5.out.below HB6.out HP5.out.lt).past hr.2.2.2 (HP5.out.below HB6.out HP5.out.lt).lt (by have := HGL.out.2; have := HG5.out; omega));have HP77 := Hd ((HP7.out.below HB6.out HP7.out.lt).past hr.2.2.2 (HP7.out.below HB6.out HP7.out.lt).lt (by have := HGL.out.2; have := HG7.out; omega));obtain ⟨⟨v, rfl⟩, -, -, -⟩ := hr
  try go_wp2_with fail
  refine hK.out _ _ (by exact ⟨HK7.out.sl, HP57.out.at 0 rfl, HP57.out.at 1 rfl, HP77.out.at 0 rfl, HP77.out.at 1 rfl⟩) (fun hHeld => ?_);clear hK K
  try simp only [Act.put, layS]
  refine wpAnyH_done (by kernel_rfl) ?_ _;clear hHeld HSW5 HP5 HP7 HB6 HB5 HK6 HK5 HBd;have z0 := HP57.out.at 0 rfl
  by_cases h15 : q = 15
  ·have HQ15 := Hd h15;clear h15;have h15B : ((q : Int) == 15) = true := by simp; have := HQ15.out; omega
   have h15D : decide ((q : Int) = 15) = true := decide_eq_true (by have := HQ15.out; omega);have h15N : decide (q = 15) = true := decide_eq_true HQ15.out;go_wp2_with fail
   have HS7 : Hid (∀ w', Below w7.heap.size w7 w' -> w'.cell? ⟨g, 5, none⟩ = some (.slice (some ⟨sb, 0, none⟩) (n + 1 : Nat) sc) /\ w'.cell? ⟨p7, 0, none⟩ = some (.int .i64 nd) /\ w'.cell? ⟨p7, 1, none⟩ = some (.int .u64 (nk : Nat))) := fun w' hb' => ⟨(HK7.out.below hb').sl, (HP77.out.below hb' HP77.out.lt).at 0 rfl, (HP77.out.below hb' HP77.out.lt).at 1 rfl⟩
   clear z0;refine wp_region_held_drew (S := fun w' => w'.cell? ⟨g, 5, none⟩ = some (.slice (some ⟨sb, 0, none⟩) (n + 1 : Nat) sc) /\ w'.cell? ⟨p7, 0, none⟩ = some (.int .i64 nd) /\ w'.cell? ⟨p7, 1, none⟩ = some (.int .u64 (nk : Nat))) (by kernel_rfl) ?_ (fun hHeld => ?_)
   ·exact HS7.out _ (kbelow_dN (Below.refl _ _) 1)
   have HBe : Hid (Below w7.heap.size w7 w7.drew) := Hd (kbelow_dN (Below.refl _ _) 1);generalize w7.drew = U1 at HBe hHeld ⊢;have hat4 : ((at_ : Int) + 1) < (n : Int) + 1 := by omega
   have hat5 : (0 : Int) <= (at_ : Int) + 1 := by omega
   refine tkH 0 (.pointer (some ⟨g, 0, none⟩)) rfl (fun w' hSw => ?_) ?_
   ·((try dsimp only at hSw); go_simp; try with_reducible rfl)
   try simp only [Act.put, layS]
   refine tkH 1 (.pointer (some ⟨g, 0, none⟩)) rfl (fun w' hSw => ?_) ?_
   ·((try dsimp only at hSw); go_simp; try with_reducible rfl)
   try simp only [Act.put, layS]
   refine tkH 2 (.pointer (some ⟨g, 5, none⟩)) rfl (fun w' hSw => ?_) ?_
   ·((try dsimp only at hSw); go_simp; try with_reducible rfl)
   try simp only [Act.put, layS]
   refine tkH 3 (.slice (some ⟨sb, 0, none⟩) (n + 1 : Nat) sc) rfl (fun w' hSw => ?_) ?_
   ·((try dsimp only at hSw); go_simp; try with_reducible rfl)
   try simp only [Act.put, layS]
   refine tkH 4 (.int .i64 (at_ : Int)) rfl (fun w' hSw => ?_) ?_
   ·((try dsimp only at hSw); go_simp; try with_reducible rfl)
   try simp only [Act.put, layS]
   refine tkH 5 (.int .i64 ((at_ + 1 : Nat) : Int)) rfl (fun w' hSw => ?_) ?_
   ·((try dsimp only at hSw); go_simp; try with_reducible rfl)
   try simp only [Act.put, layS]
   refine tkH 6 (.pointer (some ⟨sb, (at_ + 1) * 4, none⟩)) rfl (fun w' hSw => ?_) ?_
   ·((try dsimp only at hSw); go_simp; try with_reducible rfl)
   try simp only [Act.put, layS]
   refine tkH 7 (.agg #[.int .i64 nd, .int .u64 (nk : Nat)]) rfl (fun w' hSw => ?_) ?_
   ·((try dsimp only at hSw); go_simp; try with_reducible rfl)
   try simp only [Act.put, layS]
   refine rd1 8 rfl (fun K hK => ?_);go_simp;have HK8 := Hd (HK7.out.below HBe.out);obtain ⟨S7, hS7⟩ : ∃ S7, nxS S ⟨(q : Int), z⟩ at_ = S7 := ⟨_, rfl⟩;rw [hS7] at HK8;refine (reachBy_any sb ((at_ + 1) * 4) (S7 (at_ + 1)).d (S7 (at_ + 1)).k nd nk (S7 (at_ + 1)).r (S7 (at_ + 1)).h U1 (HK8.out.sp (at_ + 1) (by omega))).mono ?_;rintro e w8 hr;have HK9 := Hd (HK8.out.reach hr);have HBB8 : Hid (Below B w w8) := (HBB7.out.trans (HBe.out.mono (Nat.le_trans HBS.out HBB7.out.size))).grown hr.2.2.2 (by have := HBB7.out.size; have := HBe.out.size; have := HBS.out; omega) fun k hk => by injection hk with hk; subst hk; exact HC.out.hs
   have HP78 := Hd ((HP77.out.below HBe.out HP77.out.lt).past hr.2.2.2 (HP77.out.below HBe.out HP77.out.lt).lt (by have := HGL.out.2; have := HG7.out; omega));obtain ⟨⟨v8, rfl⟩, -, -, -⟩ := hr
   try go_wp2_with fail
   refine hK.out _ _ (by exact ⟨HK9.out.sl, HP78.out.at 0 rfl, HP78.out.at 1 rfl⟩) (fun hHeld => ?_);clear hK K
   try simp only [Act.put, layS]
   refine wpAnyH_done (by kernel_rfl) ?_ _;go_wp2_with fail
   go_ret;exact ⟨kret_int HR.out.symm, HBB8.out, fun _ => by unfold stpS stpM; rw [HSA.out]; simp only [Bool.true_eq_false, if_false, Int.toNat_natCast]; rw [HND.out.1, HND.out.2, if_pos (by have := HQ15.out; omega), hS7]; exact HK9.out⟩
  ·have h15B : ((q : Int) == 15) = false := by simp; omega
   have h15D : decide ((q : Int) = 15) = false := dEf (by omega);have h15N : decide (q = 15) = false := dEf h15;have HQ15 := Hd h15;clear h15;go_wp2_with fail
   go_ret;exact ⟨kret_int HR.out.symm, HBB7.out, fun _ => by unfold stpS stpM; rw [HSA.out]; simp only [Bool.true_eq_false, if_false, Int.toNat_natCast]; rw [HND.out.1, if_neg (by have := HQ15.out; omega)]; exact HK7.out⟩
end Go.Proofs.YtmlpedgcpffpnaaGreatDoor
