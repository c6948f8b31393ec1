/-
  Promise J3: the walk of Run.
-/
import Derived.Test.YtmlpedgcpffpnaaGreatDoorKZ0
import Derived.Test.YtmlpedgcpffpnaaGreatDoorKZ1
import Derived.Test.YtmlpedgcpffpnaaGreatDoorKQC
import Derived.Test.YtmlpedgcpffpnaaGreatDoorKQ9
set_option linter.unusedSimpArgs false
set_option maxRecDepth 100000
set_option maxHeartbeats 8000000
namespace Go.Proofs.YtmlpedgcpffpnaaGreatDoor
open Go.RowKit
def RowI (w : World) (b n : Nat) : Prop := b < w.heap.size /\ ∀ j, j < n -> w.cell? ⟨b, j, none⟩ = some (.int .i64 0) /\ w.frozen? ⟨b, j, none⟩ = false
theorem RowI.below {w w' : World} {b n : Nat} (h : RowI w b n) (hb : Below w.heap.size w w') : RowI w' b n := ⟨Nat.lt_of_lt_of_le h.1 hb.size, fun j hj => ⟨(hb.cell (p := ⟨b, j, none⟩) h.1).trans (h.2 j hj).1, (hb.frozen (p := ⟨b, j, none⟩) h.1).trans (h.2 j hj).2⟩⟩
theorem RowI.made (w : World) (n : Nat) (T : TypeId) : RowI (w.alloc (.cells (madeCells #[.int .i64 0] n) T)) w.heap.size n := by
 refine ⟨by simp, fun j hj => ⟨?_, by simp⟩⟩;have hc : (madeCells #[.int .i64 0] n)[j]? = some (.int .i64 0) := by
  simp only [madeCells, Array.getElem?_map];rw [Array.getElem?_eq_getElem (by simpa using hj)];simp [Nat.mod_one]
 generalize (madeCells #[.int .i64 0] n) = M at *;simp [hc]
theorem RowI.to {w w' : World} {b n : Nat} (h : RowI w b n) (hs : w.heap.size <= w'.heap.size) (hb : w'.heap[b]? = w.heap[b]?) : RowI w' b n := ⟨Nat.lt_of_lt_of_le h.1 hs, fun j hj => ⟨(World.cell?_of_block (a := ⟨b, j, none⟩) hb).trans (h.2 j hj).1, (World.frozen?_of_block (a := ⟨b, j, none⟩) hb).trans (h.2 j hj).2⟩⟩
theorem make_pile (most : Nat) (h : most <= 20000) (w : World) : (Instr.makeSlice 35 (.int .i64 0) (.int .i64 (most : Int))).run Tryz.prog w = .ok (.slice (some ⟨w.heap.size, 0, none⟩) 0 most) (w.alloc (.cells (madeCells #[.int .i64 0] most) 3)) := by
 obtain ⟨i0, hi, hz0, hz1, hz2⟩ := info_parts info_int3;have := run_make (P := Tryz.prog) w 35 3 i0 (.int .i64 0) Tryz.underlying35 hi hz0 .i64 .i64 0 most (by omega) (by omega) (by rw [hz2]; omega) (by omega);rw [hz1, Nat.mul_one] at this;exact this
theorem make_vals (L : Nat) (h : L <= 40) (w : World) : (Instr.makeSlice 35 (.int .i64 (L : Int)) (.int .i64 (L : Int))).run Tryz.prog w = .ok (.slice (some ⟨w.heap.size, 0, none⟩) L L) (w.alloc (.cells (madeCells #[.int .i64 0] L) 3)) := by
 obtain ⟨i0, hi, hz0, hz1, hz2⟩ := info_parts info_int3;have := run_make (P := Tryz.prog) w 35 3 i0 (.int .i64 0) Tryz.underlying35 hi hz0 .i64 .i64 L L (by omega) (by omega) (by rw [hz2]; omega) (by omega);rw [hz1, Nat.mul_one] at this;exact this
def ms0 : MS := ⟨0, 0, fun _ => 0, fun _ => 0⟩
theorem made_mach {w : World} {B mb pb vb most L : Nat} {a1 a2 a3 : Option Addr} {n1 c1 n2 c2 n3 c3 : Nat} (h1 : Cbx w mb [.slice a1 n1 c1, .slice a2 n2 c2, .slice a3 n3 c3, .int .i64 0, .slice (some ⟨pb, 0, none⟩) 0 most, .slice (some ⟨vb, 0, none⟩) L L]) (h2 : RowI w pb most) (h3 : RowI w vb L) (bm : B <= mb) (bp : B <= pb) (bv : B <= vb) (mp : mb ≠ pb) (mv : mb ≠ vb) (pv : pb ≠ vb) : MAt w B mb pb vb most L a1 a2 a3 n1 c1 n2 c2 n3 c3 ms0.at_ ms0.m ms0.P ms0.V :=
 ⟨h1, fun j hj => ⟨⟨0, (h2.2 j hj).1⟩, (h2.2 j hj).2⟩, fun _ hj => absurd hj (Nat.not_lt_zero _), fun j hj => h3.2 j hj, Nat.zero_le _, h2.1, h3.1, bm, bp, bv, mp, mv, pv⟩
theorem inv0 (l : List Bk) (L : Nat) : Inv l L ms0 := ⟨Nat.zero_le _, rfl, rfl, rfl, fun _ hj => absurd hj (Nat.not_lt_zero _), fun _ _ => mon_zero⟩
def RunR (kn : Kn) (l : List Bk) (lines : Int) (w : World) (e : Ending) (w' : World) : Prop := Below w.heap.size w w' ∧
 ((chkE kn l lines ≠ 0 /\ e = .returned (.tuple #[.slice none 0 0, .int .i64 0, .int .i64 (chkE kn l lines)])) ∨
 (chkE kn l lines = 0 /\ ∃ s, MReach kn l ms0 s /\ Inv l lines.toNat s ∧
  ((s.at_ = l.length /\ ∃ vb, e = .returned (.tuple #[.slice (some ⟨vb, 0, none⟩) lines.toNat lines.toNat, .int .i64 0, .int .i64 0]) /\ w.heap.size <= vb /\ vb < w'.heap.size /\ ∀ j, j < lines.toNat -> w'.cell? ⟨vb, j, none⟩ = some (.int .i64 (s.V j))) ∨
   (s.at_ < l.length /\ mstep kn (bnth l s.at_) s = none /\ e = .returned (.tuple #[.slice none 0 0, .int .i64 (s.at_ : Int), .int .i64 3])))))
theorem CRun_any (a : Option Addr) (n cap : Nat) (l : List Bk) (lines : Int) (a1 a2 a3 : Option Addr) (n1 n2 n3 c1 c2 c3 : Nat) (kn : Kn) (w : World) (hl : CameB w a l) (hn : l.length = n) (hm : n <= maxLen) (hk : CameK w a1 a2 a3 kn) (h1 : kn.ins.length = n1) (h2 : kn.tbs.length = n2) (h3 : kn.yrs.length = n3) (hE : Eff w) (hz : ∀ j, j < n -> I64 (bnth l j).rate) :
 Calls Tryz.prog 18 #[.slice a n cap, .int .i64 lines, .agg #[.slice a1 n1 c1, .slice a2 n2 c2, .slice a3 n3 c3]] w fun e w' => RunR kn l lines w e w' := by
 have HBa := Hd (bel_2 w (.cells #[.slice a n cap] 27) (.cells #[.slice a1 n1 c1, .slice a2 n2 c2, .slice a3 n3 c3] 26));have HCH := Hd (CCheck_any a n cap l lines a1 a2 a3 n1 n2 n3 c1 c2 c3 kn _ (hl.below HBa.out) hn hm (hk.below HBa.out) h1 h2 h3 (hE.below HBa.out) hz);have HL := Hd hl;have HN := Hd hn;have HK := Hd hk;have HE := Hd hE;have HZ := Hd hz;have HLN := Hd (And.intro h1 (And.intro h2 h3));have HOB : Hid (Cbx ((w.alloc (.cells #[.slice a n cap] 27)).alloc (.cells #[.slice a1 n1 c1, .slice a2 n2 c2, .slice a3 n3 c3] 26)) w.heap.size [.slice a n cap]) := (Cbx.made w [.slice a n cap] _).below (kbelow_box _ _) (Cbx.made w [.slice a n cap] _).lt;have HKB : Hid (Cbx ((w.alloc (.cells #[.slice a n cap] 27)).alloc (.cells #[.slice a1 n1 c1, .slice a2 n2 c2, .slice a3 n3 c3] 26)) (w.heap.size + 1) [.slice a1 n1 c1, .slice a2 n2 c2, .slice a3 n3 c3]) := by
  have s1 : (w.alloc (.cells #[.slice a n cap] 27)).heap.size = w.heap.size + 1 := by simp
  have := Cbx.made (w.alloc (.cells #[.slice a n cap] 27)) [.slice a1 n1 c1, .slice a2 n2 c2, .slice a3 n3 c3] 26;rw [s1] at this;exact this
 clear hl hn hm hk h1 h2 h3 hE hz
 go_enter Tryz.func18, Tryz.ntmps18
 go_wp2_with fail
 refine HCH.out.mono ?_;rintro e w1 ⟨rfl, hb1⟩;replace HOB := Hd (HOB.out.below hb1 HOB.out.lt);replace HKB := Hd (HKB.out.below hb1 HKB.out.lt);have HBW1 := Hd (HBa.out.trans (hb1.mono HBa.out.size));clear hb1 HCH HBa;generalize hk0 : w.heap.size + 1 = k0 at HKB ⊢;have HK0 := Hd hk0;clear hk0
 by_cases hcz : ¬ chkE kn l lines = 0
 ·have hcB : (chkE kn l lines == 0) = false := by simpa using hcz
  have hcN : (chkE kn l lines != 0) = true := by simpa using hcz
  have HCZ := Hd hcz;clear hcz;go_wp2_with fail
  refine bodyPost_ret (v := .tuple #[.slice none 0 0, .int .i64 0, .int .i64 (chkE kn l lines)]) (by simp [results, Tryz.results18, go_sem] <;> rfl) rfl ?_;exact ⟨HBW1.out, .inl ⟨HCZ.out, rfl⟩⟩
 have hce : chkE kn l lines = 0 := Classical.not_not.1 hcz;clear hcz;have HCE := Hd hce;obtain ⟨hps, hkn0⟩ := chk_pass hce;rw [HLN.out.1, HLN.out.2.1, HLN.out.2.2] at hps;rw [hce];obtain ⟨L, rfl⟩ : ∃ L : Nat, lines = (L : Int) := ⟨lines.toNat, by have := hps.l0; omega⟩;have HPS := Hd hps;have HKR := Hd (kn_right hkn0);have hL40 : L <= 40 := by have := hps.l40; omega
 have hmb := ckM_20000 hps l.length (Nat.le_refl _);have hcn : chkN kn l (L : Int) = ckM l l.length := by unfold chkN; rw [if_pos hce]
 obtain ⟨most, hmo⟩ : ∃ most : Nat, ckM l l.length = (most : Int) := ⟨(ckM l l.length).toNat, by omega⟩;have hm20 : most <= 20000 := by have := hps.many; omega
 rw [hcn, hmo];have HMO := Hd hmo;clear hce hps hkn0 hmb hcn hmo;have hKN : Hid (∀ w', Below w1.heap.size w1 w' -> w'.cell? ⟨k0, 0, none⟩ = some (.slice a1 n1 c1) /\ w'.cell? ⟨k0, 1, none⟩ = some (.slice a2 n2 c2) /\ w'.cell? ⟨k0, 2, none⟩ = some (.slice a3 n3 c3)) := fun w' hb' => ⟨(HKB.out.below hb' HKB.out.lt).at 0 rfl, (HKB.out.below hb' HKB.out.lt).at 1 rfl, (HKB.out.below hb' HKB.out.lt).at 2 rfl⟩
 have HKN := hKN;clear hKN;go_wp2_with fail
 refine wp_region_held_drew (S := fun w' => w'.cell? ⟨k0, 0, none⟩ = some (.slice a1 n1 c1) /\ w'.cell? ⟨k0, 1, none⟩ = some (.slice a2 n2 c2) /\ w'.cell? ⟨k0, 2, none⟩ = some (.slice a3 n3 c3)) (by kernel_rfl) ?_ (fun hHeld => ?_)
 ·exact HKN.out _ (kbelow_dN (Below.refl _ _) 1)
 have HB0 : Hid (Below w1.heap.size w1 w1.drew) := Hd (kbelow_dN (Below.refl _ _) 1);generalize w1.drew = V0 at HB0 hHeld ⊢;refine tkH 0 (.agg #[.slice a1 n1 c1, .slice a2 n2 c2, .slice a3 n3 c3]) rfl (fun w' hSw => ?_) ?_
 ·((try dsimp only at hSw); go_simp; try with_reducible rfl)
 try simp only [Act.put, layS]
 refine tkH 1 (.int .i64 (most : Int)) rfl (fun w' hSw => ?_) ?_
 ·((try dsimp only at hSw); go_simp; try with_reducible rfl)
 try simp only [Act.put, layS]
 refine tkH 3 (.int .i64 (L : Int)) rfl (fun w' hSw => ?_) ?_
 ·((try dsimp only at hSw); go_simp; try with_reducible rfl)
 try simp only [Act.put, layS]
 refine wpAnyH_ready (rs := [2, 4, 7]) (by kernel_rfl) (by simp) ?_;refine AllReadyH.cons rfl (fun K hK => ?_) (AllReadyH.cons rfl (fun K hK => ?_) (AllReadyH.cons rfl (fun K hK => ?_) AllReadyH.nil))
 focus
  have hmk := make_pile most hm20 V0;go_simp;clear hmk;have hbx := kbelow_box V0 (.cells (madeCells #[.int .i64 0] most) 3);have HB1 := Hd (HB0.out.trans (hbx.mono HB0.out.size));have Hpb := Hd (RowI.made V0 most 3);have HApb : Hid (V0.heap.size < (V0.alloc (.cells (madeCells #[.int .i64 0] most) 3)).heap.size) := by unfold Hid; simp
  have HLpb : Hid (w1.heap.size <= V0.heap.size) := HB0.out.size;clear hbx;refine hK.out _ _ (by exact HKN.out _ HB1.out) (fun hHeld => ?_);clear hK K
  try simp only [Act.put, layS]
  generalize V0.alloc (.cells (madeCells #[.int .i64 0] most) 3) = V1 at HB1 hHeld Hpb HApb ⊢;generalize V0.heap.size = pb at Hpb HApb HLpb ⊢;refine rd2 4 7 rfl (fun K hK => ?_) rfl (fun K hK => ?_)
  focus
   have hmk := make_vals L hL40 V1;go_simp;clear hmk;have hbx := kbelow_box V1 (.cells (madeCells #[.int .i64 0] L) 3);have HB2 := Hd (HB1.out.trans (hbx.mono HB1.out.size));replace Hpb := Hd (Hpb.out.below hbx);have Hvb := Hd (RowI.made V1 L 3);have HAvb : Hid (V1.heap.size < (V1.alloc (.cells (madeCells #[.int .i64 0] L) 3)).heap.size) := by unfold Hid; simp
   have HLvb : Hid (w1.heap.size <= V1.heap.size) := HB1.out.size;have HNpbvb : Hid (pb ≠ V1.heap.size) := by have := HApb.out; unfold Hid; omega
   replace HApb : Hid (pb < (V1.alloc (.cells (madeCells #[.int .i64 0] L) 3)).heap.size) := Nat.lt_of_lt_of_le HApb.out hbx.size;clear hbx;refine hK.out _ _ (by exact HKN.out _ HB2.out) (fun hHeld => ?_);clear hK K
   try simp only [Act.put, layS]
   generalize V1.alloc (.cells (madeCells #[.int .i64 0] L) 3) = V2 at HB2 hHeld Hpb Hvb HApb HAvb ⊢;generalize V1.heap.size = vb at Hvb HAvb HLvb HNpbvb ⊢;refine tkH 5 (.agg #[.slice a1 n1 c1, .slice a2 n2 c2, .slice a3 n3 c3, .int .i64 0, .slice (some ⟨pb, 0, none⟩) 0 most, .slice (some ⟨vb, 0, none⟩) L L]) rfl (fun w' hSw => ?_) ?_
   ·((try dsimp only at hSw); go_simp; try with_reducible rfl)
   try simp only [Act.put, layS]
   refine rd2 6 7 rfl (fun K hK => ?_) rfl (fun K hK => ?_)
   focus
    go_simp;have hbx := kbelow_box V2 (.cells #[.slice a1 n1 c1, .slice a2 n2 c2, .slice a3 n3 c3, .int .i64 0, .slice (some ⟨pb, 0, none⟩) 0 most, .slice (some ⟨vb, 0, none⟩) L L] 115);have HB3 := Hd (HB2.out.trans (hbx.mono HB2.out.size));replace Hpb := Hd (Hpb.out.below hbx);replace Hvb := Hd (Hvb.out.below hbx);have Hmb := Hd (Cbx.made V2 [.slice a1 n1 c1, .slice a2 n2 c2, .slice a3 n3 c3, .int .i64 0, .slice (some ⟨pb, 0, none⟩) 0 most, .slice (some ⟨vb, 0, none⟩) L L] 115);have HAmb : Hid (V2.heap.size < (V2.alloc (.cells #[.slice a1 n1 c1, .slice a2 n2 c2, .slice a3 n3 c3, .int .i64 0, .slice (some ⟨pb, 0, none⟩) 0 most, .slice (some ⟨vb, 0, none⟩) L L] 115)).heap.size) := by unfold Hid; simp
    have HLmb : Hid (w1.heap.size <= V2.heap.size) := HB2.out.size;have HNpbmb : Hid (pb ≠ V2.heap.size) := by have := HApb.out; unfold Hid; omega
    replace HApb : Hid (pb < (V2.alloc (.cells #[.slice a1 n1 c1, .slice a2 n2 c2, .slice a3 n3 c3, .int .i64 0, .slice (some ⟨pb, 0, none⟩) 0 most, .slice (some ⟨vb, 0, none⟩) L L] 115)).heap.size) := Nat.lt_of_lt_of_le HApb.out hbx.size;have HNvbmb : Hid (vb ≠ V2.heap.size) := by have := HAvb.out; unfold Hid; omega
    replace HAvb : Hid (vb < (V2.alloc (.cells #[.slice a1 n1 c1, .slice a2 n2 c2, .slice a3 n3 c3, .int .i64 0, .slice (some ⟨pb, 0, none⟩) 0 most, .slice (some ⟨vb, 0, none⟩) L L] 115)).heap.size) := Nat.lt_of_lt_of_le HAvb.out hbx.size;clear hbx;refine hK.out _ _ (by exact HKN.out _ HB3.out) (fun hHeld => ?_);clear hK K
    try simp only [Act.put, layS]
    generalize V2.alloc (.cells #[.slice a1 n1 c1, .slice a2 n2 c2, .slice a3 n3 c3, .int .i64 0, .slice (some ⟨pb, 0, none⟩) 0 most, .slice (some ⟨vb, 0, none⟩) L L] 115) = V3 at HB3 hHeld Hpb Hvb Hmb HApb HAvb HAmb ⊢;generalize V2.heap.size = mb at Hmb HAmb HLmb HNpbmb HNvbmb ⊢;refine rd1 7 rfl (fun K hK => ?_)
    focus
     go_simp;have hbx := kbelow_box V3 (.cells #[.pointer none] 113);have HB4 := Hd (HB3.out.trans (hbx.mono HB3.out.size));replace Hpb := Hd (Hpb.out.below hbx);replace Hvb := Hd (Hvb.out.below hbx);replace Hmb := Hd (Hmb.out.below hbx Hmb.out.lt);have Hmx := Hd (Cbx.made V3 [.pointer none] 113);have HAmx : Hid (V3.heap.size < (V3.alloc (.cells #[.pointer none] 113)).heap.size) := by unfold Hid; simp
     have HLmx : Hid (w1.heap.size <= V3.heap.size) := HB3.out.size;have HNpbmx : Hid (pb ≠ V3.heap.size) := by have := HApb.out; unfold Hid; omega
     replace HApb : Hid (pb < (V3.alloc (.cells #[.pointer none] 113)).heap.size) := Nat.lt_of_lt_of_le HApb.out hbx.size;have HNvbmx : Hid (vb ≠ V3.heap.size) := by have := HAvb.out; unfold Hid; omega
     replace HAvb : Hid (vb < (V3.alloc (.cells #[.pointer none] 113)).heap.size) := Nat.lt_of_lt_of_le HAvb.out hbx.size;have HNmbmx : Hid (mb ≠ V3.heap.size) := by have := HAmb.out; unfold Hid; omega
     replace HAmb : Hid (mb < (V3.alloc (.cells #[.pointer none] 113)).heap.size) := Nat.lt_of_lt_of_le HAmb.out hbx.size;clear hbx;refine hK.out _ _ (by exact HKN.out _ HB4.out) (fun hHeld => ?_);clear hK K
     try simp only [Act.put, layS]
     generalize V3.alloc (.cells #[.pointer none] 113) = V4 at HB4 hHeld Hpb Hvb Hmb Hmx HApb HAvb HAmb HAmx ⊢;generalize V3.heap.size = mx at Hmx HAmx HLmx HNpbmx HNvbmx HNmbmx ⊢
     skip
    rotate_left
   rotate_left
   focus
    go_simp;have hbx := kbelow_box V2 (.cells #[.pointer none] 113);have HB3 := Hd (HB2.out.trans (hbx.mono HB2.out.size));replace Hpb := Hd (Hpb.out.below hbx);replace Hvb := Hd (Hvb.out.below hbx);have Hmx := Hd (Cbx.made V2 [.pointer none] 113);have HAmx : Hid (V2.heap.size < (V2.alloc (.cells #[.pointer none] 113)).heap.size) := by unfold Hid; simp
    have HLmx : Hid (w1.heap.size <= V2.heap.size) := HB2.out.size;have HNpbmx : Hid (pb ≠ V2.heap.size) := by have := HApb.out; unfold Hid; omega
    replace HApb : Hid (pb < (V2.alloc (.cells #[.pointer none] 113)).heap.size) := Nat.lt_of_lt_of_le HApb.out hbx.size;have HNvbmx : Hid (vb ≠ V2.heap.size) := by have := HAvb.out; unfold Hid; omega
    replace HAvb : Hid (vb < (V2.alloc (.cells #[.pointer none] 113)).heap.size) := Nat.lt_of_lt_of_le HAvb.out hbx.size;clear hbx;refine hK.out _ _ (by exact HKN.out _ HB3.out) (fun hHeld => ?_);clear hK K
    try simp only [Act.put, layS]
    generalize V2.alloc (.cells #[.pointer none] 113) = V3 at HB3 hHeld Hpb Hvb Hmx HApb HAvb HAmx ⊢;generalize V2.heap.size = mx at Hmx HAmx HLmx HNpbmx HNvbmx ⊢;refine rd1 6 rfl (fun K hK => ?_)
    focus
     go_simp;have hbx := kbelow_box V3 (.cells #[.slice a1 n1 c1, .slice a2 n2 c2, .slice a3 n3 c3, .int .i64 0, .slice (some ⟨pb, 0, none⟩) 0 most, .slice (some ⟨vb, 0, none⟩) L L] 115);have HB4 := Hd (HB3.out.trans (hbx.mono HB3.out.size));replace Hpb := Hd (Hpb.out.below hbx);replace Hvb := Hd (Hvb.out.below hbx);replace Hmx := Hd (Hmx.out.below hbx Hmx.out.lt);have Hmb := Hd (Cbx.made V3 [.slice a1 n1 c1, .slice a2 n2 c2, .slice a3 n3 c3, .int .i64 0, .slice (some ⟨pb, 0, none⟩) 0 most, .slice (some ⟨vb, 0, none⟩) L L] 115);have HAmb : Hid (V3.heap.size < (V3.alloc (.cells #[.slice a1 n1 c1, .slice a2 n2 c2, .slice a3 n3 c3, .int .i64 0, .slice (some ⟨pb, 0, none⟩) 0 most, .slice (some ⟨vb, 0, none⟩) L L] 115)).heap.size) := by unfold Hid; simp
     have HLmb : Hid (w1.heap.size <= V3.heap.size) := HB3.out.size;have HNpbmb : Hid (pb ≠ V3.heap.size) := by have := HApb.out; unfold Hid; omega
     replace HApb : Hid (pb < (V3.alloc (.cells #[.slice a1 n1 c1, .slice a2 n2 c2, .slice a3 n3 c3, .int .i64 0, .slice (some ⟨pb, 0, none⟩) 0 most, .slice (some ⟨vb, 0, none⟩) L L] 115)).heap.size) := Nat.lt_of_lt_of_le HApb.out hbx.size;have HNvbmb : Hid (vb ≠ V3.heap.size) := by have := HAvb.out; unfold Hid; omega
     replace HAvb : Hid (vb < (V3.alloc (.cells #[.slice a1 n1 c1, .slice a2 n2 c2, .slice a3 n3 c3, .int .i64 0, .slice (some ⟨pb, 0, none⟩) 0 most, .slice (some ⟨vb, 0, none⟩) L L] 115)).heap.size) := Nat.lt_of_lt_of_le HAvb.out hbx.size;have HNmxmb : Hid (mx ≠ V3.heap.size) := by have := HAmx.out; unfold Hid; omega
     replace HAmx : Hid (mx < (V3.alloc (.cells #[.slice a1 n1 c1, .slice a2 n2 c2, .slice a3 n3 c3, .int .i64 0, .slice (some ⟨pb, 0, none⟩) 0 most, .slice (some ⟨vb, 0, none⟩) L L] 115)).heap.size) := Nat.lt_of_lt_of_le HAmx.out hbx.size;clear hbx;refine hK.out _ _ (by exact HKN.out _ HB4.out) (fun hHeld => ?_);clear hK K
     try simp only [Act.put, layS]
     generalize V3.alloc (.cells #[.slice a1 n1 c1, .slice a2 n2 c2, .slice a3 n3 c3, .int .i64 0, .slice (some ⟨pb, 0, none⟩) 0 most, .slice (some ⟨vb, 0, none⟩) L L] 115) = V4 at HB4 hHeld Hpb Hvb Hmx Hmb HApb HAvb HAmx HAmb ⊢;generalize V3.heap.size = mb at Hmb HAmb HLmb HNpbmb HNvbmb HNmxmb ⊢
     skip
    rotate_left
   rotate_left
  rotate_left 2
  focus
   go_simp;have hbx := kbelow_box V1 (.cells #[.pointer none] 113);have HB2 := Hd (HB1.out.trans (hbx.mono HB1.out.size));replace Hpb := Hd (Hpb.out.below hbx);have Hmx := Hd (Cbx.made V1 [.pointer none] 113);have HAmx : Hid (V1.heap.size < (V1.alloc (.cells #[.pointer none] 113)).heap.size) := by unfold Hid; simp
   have HLmx : Hid (w1.heap.size <= V1.heap.size) := HB1.out.size;have HNpbmx : Hid (pb ≠ V1.heap.size) := by have := HApb.out; unfold Hid; omega
   replace HApb : Hid (pb < (V1.alloc (.cells #[.pointer none] 113)).heap.size) := Nat.lt_of_lt_of_le HApb.out hbx.size;clear hbx;refine hK.out _ _ (by exact HKN.out _ HB2.out) (fun hHeld => ?_);clear hK K
   try simp only [Act.put, layS]
   generalize V1.alloc (.cells #[.pointer none] 113) = V2 at HB2 hHeld Hpb Hmx HApb HAmx ⊢;generalize V1.heap.size = mx at Hmx HAmx HLmx HNpbmx ⊢;refine rd1 4 rfl (fun K hK => ?_)
   focus
    have hmk := make_vals L hL40 V2;go_simp;clear hmk;have hbx := kbelow_box V2 (.cells (madeCells #[.int .i64 0] L) 3);have HB3 := Hd (HB2.out.trans (hbx.mono HB2.out.size));replace Hpb := Hd (Hpb.out.below hbx);replace Hmx := Hd (Hmx.out.below hbx Hmx.out.lt);have Hvb := Hd (RowI.made V2 L 3);have HAvb : Hid (V2.heap.size < (V2.alloc (.cells (madeCells #[.int .i64 0] L) 3)).heap.size) := by unfold Hid; simp
    have HLvb : Hid (w1.heap.size <= V2.heap.size) := HB2.out.size;have HNpbvb : Hid (pb ≠ V2.heap.size) := by have := HApb.out; unfold Hid; omega
    replace HApb : Hid (pb < (V2.alloc (.cells (madeCells #[.int .i64 0] L) 3)).heap.size) := Nat.lt_of_lt_of_le HApb.out hbx.size;have HNmxvb : Hid (mx ≠ V2.heap.size) := by have := HAmx.out; unfold Hid; omega
    replace HAmx : Hid (mx < (V2.alloc (.cells (madeCells #[.int .i64 0] L) 3)).heap.size) := Nat.lt_of_lt_of_le HAmx.out hbx.size;clear hbx;refine hK.out _ _ (by exact HKN.out _ HB3.out) (fun hHeld => ?_);clear hK K
    try simp only [Act.put, layS]
    generalize V2.alloc (.cells (madeCells #[.int .i64 0] L) 3) = V3 at HB3 hHeld Hpb Hmx Hvb HApb HAmx HAvb ⊢;generalize V2.heap.size = vb at Hvb HAvb HLvb HNpbvb HNmxvb ⊢;refine tkH 5 (.agg #[.slice a1 n1 c1, .slice a2 n2 c2, .slice a3 n3 c3, .int .i64 0, .slice (some ⟨pb, 0, none⟩) 0 most, .slice (some ⟨vb, 0, none⟩) L L]) rfl (fun w' hSw => ?_) ?_
    ·((try dsimp only at hSw); go_simp; try with_reducible rfl)
    try simp only [Act.put, layS]
    refine rd1 6 rfl (fun K hK => ?_)
    focus
     go_simp;have hbx := kbelow_box V3 (.cells #[.slice a1 n1 c1, .slice a2 n2 c2, .slice a3 n3 c3, .int .i64 0, .slice (some ⟨pb, 0, none⟩) 0 most, .slice (some ⟨vb, 0, none⟩) L L] 115);have HB4 := Hd (HB3.out.trans (hbx.mono HB3.out.size));replace Hpb := Hd (Hpb.out.below hbx);replace Hmx := Hd (Hmx.out.below hbx Hmx.out.lt);replace Hvb := Hd (Hvb.out.below hbx);have Hmb := Hd (Cbx.made V3 [.slice a1 n1 c1, .slice a2 n2 c2, .slice a3 n3 c3, .int .i64 0, .slice (some ⟨pb, 0, none⟩) 0 most, .slice (some ⟨vb, 0, none⟩) L L] 115);have HAmb : Hid (V3.heap.size < (V3.alloc (.cells #[.slice a1 n1 c1, .slice a2 n2 c2, .slice a3 n3 c3, .int .i64 0, .slice (some ⟨pb, 0, none⟩) 0 most, .slice (some ⟨vb, 0, none⟩) L L] 115)).heap.size) := by unfold Hid; simp
     have HLmb : Hid (w1.heap.size <= V3.heap.size) := HB3.out.size;have HNpbmb : Hid (pb ≠ V3.heap.size) := by have := HApb.out; unfold Hid; omega
     replace HApb : Hid (pb < (V3.alloc (.cells #[.slice a1 n1 c1, .slice a2 n2 c2, .slice a3 n3 c3, .int .i64 0, .slice (some ⟨pb, 0, none⟩) 0 most, .slice (some ⟨vb, 0, none⟩) L L] 115)).heap.size) := Nat.lt_of_lt_of_le HApb.out hbx.size;have HNmxmb : Hid (mx ≠ V3.heap.size) := by have := HAmx.out; unfold Hid; omega
     replace HAmx : Hid (mx < (V3.alloc (.cells #[.slice a1 n1 c1, .slice a2 n2 c2, .slice a3 n3 c3, .int .i64 0, .slice (some ⟨pb, 0, none⟩) 0 most, .slice (some ⟨vb, 0, none⟩) L L] 115)).heap.size) := Nat.lt_of_lt_of_le HAmx.out hbx.size;have HNvbmb : Hid (vb ≠ V3.heap.size) := by have := HAvb.out; unfold Hid; omega
     replace HAvb : Hid (vb < (V3.alloc (.cells #[.slice a1 n1 c1, .slice a2 n2 c2, .slice a3 n3 c3, .int .i64 0, .slice (some ⟨pb, 0, none⟩) 0 most, .slice (some ⟨vb, 0, none⟩) L L] 115)).heap.size) := Nat.lt_of_lt_of_le HAvb.out hbx.size;clear hbx;refine hK.out _ _ (by exact HKN.out _ HB4.out) (fun hHeld => ?_);clear hK K
     try simp only [Act.put, layS]
     generalize V3.alloc (.cells #[.slice a1 n1 c1, .slice a2 n2 c2, .slice a3 n3 c3, .int .i64 0, .slice (some ⟨pb, 0, none⟩) 0 most, .slice (some ⟨vb, 0, none⟩) L L] 115) = V4 at HB4 hHeld Hpb Hmx Hvb Hmb HApb HAmx HAvb HAmb ⊢;generalize V3.heap.size = mb at Hmb HAmb HLmb HNpbmb HNmxmb HNvbmb ⊢
     skip
    rotate_left
   rotate_left
  rotate_left
 rotate_left 3
 focus
  have hmk := make_vals L hL40 V0;go_simp;clear hmk;have hbx := kbelow_box V0 (.cells (madeCells #[.int .i64 0] L) 3);have HB1 := Hd (HB0.out.trans (hbx.mono HB0.out.size));have Hvb := Hd (RowI.made V0 L 3);have HAvb : Hid (V0.heap.size < (V0.alloc (.cells (madeCells #[.int .i64 0] L) 3)).heap.size) := by unfold Hid; simp
  have HLvb : Hid (w1.heap.size <= V0.heap.size) := HB0.out.size;clear hbx;refine hK.out _ _ (by exact HKN.out _ HB1.out) (fun hHeld => ?_);clear hK K
  try simp only [Act.put, layS]
  generalize V0.alloc (.cells (madeCells #[.int .i64 0] L) 3) = V1 at HB1 hHeld Hvb HAvb ⊢;generalize V0.heap.size = vb at Hvb HAvb HLvb ⊢;refine rd2 2 7 rfl (fun K hK => ?_) rfl (fun K hK => ?_)
  focus
   have hmk := make_pile most hm20 V1;go_simp;clear hmk;have hbx := kbelow_box V1 (.cells (madeCells #[.int .i64 0] most) 3);have HB2 := Hd (HB1.out.trans (hbx.mono HB1.out.size));replace Hvb := Hd (Hvb.out.below hbx);have Hpb := Hd (RowI.made V1 most 3);have HApb : Hid (V1.heap.size < (V1.alloc (.cells (madeCells #[.int .i64 0] most) 3)).heap.size) := by unfold Hid; simp
   have HLpb : Hid (w1.heap.size <= V1.heap.size) := HB1.out.size;have HNvbpb : Hid (vb ≠ V1.heap.size) := by have := HAvb.out; unfold Hid; omega
   replace HAvb : Hid (vb < (V1.alloc (.cells (madeCells #[.int .i64 0] most) 3)).heap.size) := Nat.lt_of_lt_of_le HAvb.out hbx.size;clear hbx;refine hK.out _ _ (by exact HKN.out _ HB2.out) (fun hHeld => ?_);clear hK K
   try simp only [Act.put, layS]
   generalize V1.alloc (.cells (madeCells #[.int .i64 0] most) 3) = V2 at HB2 hHeld Hvb Hpb HAvb HApb ⊢;generalize V1.heap.size = pb at Hpb HApb HLpb HNvbpb ⊢;refine tkH 5 (.agg #[.slice a1 n1 c1, .slice a2 n2 c2, .slice a3 n3 c3, .int .i64 0, .slice (some ⟨pb, 0, none⟩) 0 most, .slice (some ⟨vb, 0, none⟩) L L]) rfl (fun w' hSw => ?_) ?_
   ·((try dsimp only at hSw); go_simp; try with_reducible rfl)
   try simp only [Act.put, layS]
   refine rd2 6 7 rfl (fun K hK => ?_) rfl (fun K hK => ?_)
   focus
    go_simp;have hbx := kbelow_box V2 (.cells #[.slice a1 n1 c1, .slice a2 n2 c2, .slice a3 n3 c3, .int .i64 0, .slice (some ⟨pb, 0, none⟩) 0 most, .slice (some ⟨vb, 0, none⟩) L L] 115);have HB3 := Hd (HB2.out.trans (hbx.mono HB2.out.size));replace Hvb := Hd (Hvb.out.below hbx);replace Hpb := Hd (Hpb.out.below hbx);have Hmb := Hd (Cbx.made V2 [.slice a1 n1 c1, .slice a2 n2 c2, .slice a3 n3 c3, .int .i64 0, .slice (some ⟨pb, 0, none⟩) 0 most, .slice (some ⟨vb, 0, none⟩) L L] 115);have HAmb : Hid (V2.heap.size < (V2.alloc (.cells #[.slice a1 n1 c1, .slice a2 n2 c2, .slice a3 n3 c3, .int .i64 0, .slice (some ⟨pb, 0, none⟩) 0 most, .slice (some ⟨vb, 0, none⟩) L L] 115)).heap.size) := by unfold Hid; simp
    have HLmb : Hid (w1.heap.size <= V2.heap.size) := HB2.out.size;have HNvbmb : Hid (vb ≠ V2.heap.size) := by have := HAvb.out; unfold Hid; omega
    replace HAvb : Hid (vb < (V2.alloc (.cells #[.slice a1 n1 c1, .slice a2 n2 c2, .slice a3 n3 c3, .int .i64 0, .slice (some ⟨pb, 0, none⟩) 0 most, .slice (some ⟨vb, 0, none⟩) L L] 115)).heap.size) := Nat.lt_of_lt_of_le HAvb.out hbx.size;have HNpbmb : Hid (pb ≠ V2.heap.size) := by have := HApb.out; unfold Hid; omega
    replace HApb : Hid (pb < (V2.alloc (.cells #[.slice a1 n1 c1, .slice a2 n2 c2, .slice a3 n3 c3, .int .i64 0, .slice (some ⟨pb, 0, none⟩) 0 most, .slice (some ⟨vb, 0, none⟩) L L] 115)).heap.size) := Nat.lt_of_lt_of_le HApb.out hbx.size;clear hbx;refine hK.out _ _ (by exact HKN.out _ HB3.out) (fun hHeld => ?_);clear hK K
    try simp only [Act.put, layS]
    generalize V2.alloc (.cells #[.slice a1 n1 c1, .slice a2 n2 c2, .slice a3 n3 c3, .int .i64 0, .slice (some ⟨pb, 0, none⟩) 0 most, .slice (some ⟨vb, 0, none⟩) L L] 115) = V3 at HB3 hHeld Hvb Hpb Hmb HAvb HApb HAmb ⊢;generalize V2.heap.size = mb at Hmb HAmb HLmb HNvbmb HNpbmb ⊢;refine rd1 7 rfl (fun K hK => ?_)
    focus
     go_simp;have hbx := kbelow_box V3 (.cells #[.pointer none] 113);have HB4 := Hd (HB3.out.trans (hbx.mono HB3.out.size));replace Hvb := Hd (Hvb.out.below hbx);replace Hpb := Hd (Hpb.out.below hbx);replace Hmb := Hd (Hmb.out.below hbx Hmb.out.lt);have Hmx := Hd (Cbx.made V3 [.pointer none] 113);have HAmx : Hid (V3.heap.size < (V3.alloc (.cells #[.pointer none] 113)).heap.size) := by unfold Hid; simp
     have HLmx : Hid (w1.heap.size <= V3.heap.size) := HB3.out.size;have HNvbmx : Hid (vb ≠ V3.heap.size) := by have := HAvb.out; unfold Hid; omega
     replace HAvb : Hid (vb < (V3.alloc (.cells #[.pointer none] 113)).heap.size) := Nat.lt_of_lt_of_le HAvb.out hbx.size;have HNpbmx : Hid (pb ≠ V3.heap.size) := by have := HApb.out; unfold Hid; omega
     replace HApb : Hid (pb < (V3.alloc (.cells #[.pointer none] 113)).heap.size) := Nat.lt_of_lt_of_le HApb.out hbx.size;have HNmbmx : Hid (mb ≠ V3.heap.size) := by have := HAmb.out; unfold Hid; omega
     replace HAmb : Hid (mb < (V3.alloc (.cells #[.pointer none] 113)).heap.size) := Nat.lt_of_lt_of_le HAmb.out hbx.size;clear hbx;refine hK.out _ _ (by exact HKN.out _ HB4.out) (fun hHeld => ?_);clear hK K
     try simp only [Act.put, layS]
     generalize V3.alloc (.cells #[.pointer none] 113) = V4 at HB4 hHeld Hvb Hpb Hmb Hmx HAvb HApb HAmb HAmx ⊢;generalize V3.heap.size = mx at Hmx HAmx HLmx HNvbmx HNpbmx HNmbmx ⊢
     skip
    rotate_left
   rotate_left
   focus
    go_simp;have hbx := kbelow_box V2 (.cells #[.pointer none] 113);have HB3 := Hd (HB2.out.trans (hbx.mono HB2.out.size));replace Hvb := Hd (Hvb.out.below hbx);replace Hpb := Hd (Hpb.out.below hbx);have Hmx := Hd (Cbx.made V2 [.pointer none] 113);have HAmx : Hid (V2.heap.size < (V2.alloc (.cells #[.pointer none] 113)).heap.size) := by unfold Hid; simp
    have HLmx : Hid (w1.heap.size <= V2.heap.size) := HB2.out.size;have HNvbmx : Hid (vb ≠ V2.heap.size) := by have := HAvb.out; unfold Hid; omega
    replace HAvb : Hid (vb < (V2.alloc (.cells #[.pointer none] 113)).heap.size) := Nat.lt_of_lt_of_le HAvb.out hbx.size;have HNpbmx : Hid (pb ≠ V2.heap.size) := by have := HApb.out; unfold Hid; omega
    replace HApb : Hid (pb < (V2.alloc (.cells #[.pointer none] 113)).heap.size) := Nat.lt_of_lt_of_le HApb.out hbx.size;clear hbx;refine hK.out _ _ (by exact HKN.out _ HB3.out) (fun hHeld => ?_);clear hK K
    try simp only [Act.put, layS]
    generalize V2.alloc (.cells #[.pointer none] 113) = V3 at HB3 hHeld Hvb Hpb Hmx HAvb HApb HAmx ⊢;generalize V2.heap.size = mx at Hmx HAmx HLmx HNvbmx HNpbmx ⊢;refine rd1 6 rfl (fun K hK => ?_)
    focus
     go_simp;have hbx := kbelow_box V3 (.cells #[.slice a1 n1 c1, .slice a2 n2 c2, .slice a3 n3 c3, .int .i64 0, .slice (some ⟨pb, 0, none⟩) 0 most, .slice (some ⟨vb, 0, none⟩) L L] 115);have HB4 := Hd (HB3.out.trans (hbx.mono HB3.out.size));replace Hvb := Hd (Hvb.out.below hbx);replace Hpb := Hd (Hpb.out.below hbx);replace Hmx := Hd (Hmx.out.below hbx Hmx.out.lt);have Hmb := Hd (Cbx.made V3 [.slice a1 n1 c1, .slice a2 n2 c2, .slice a3 n3 c3, .int .i64 0, .slice (some ⟨pb, 0, none⟩) 0 most, .slice (some ⟨vb, 0, none⟩) L L] 115);have HAmb : Hid (V3.heap.size < (V3.alloc (.cells #[.slice a1 n1 c1, .slice a2 n2 c2, .slice a3 n3 c3, .int .i64 0, .slice (some ⟨pb, 0, none⟩) 0 most, .slice (some ⟨vb, 0, none⟩) L L] 115)).heap.size) := by unfold Hid; simp
     have HLmb : Hid (w1.heap.size <= V3.heap.size) := HB3.out.size;have HNvbmb : Hid (vb ≠ V3.heap.size) := by have := HAvb.out; unfold Hid; omega
     replace HAvb : Hid (vb < (V3.alloc (.cells #[.slice a1 n1 c1, .slice a2 n2 c2, .slice a3 n3 c3, .int .i64 0, .slice (some ⟨pb, 0, none⟩) 0 most, .slice (some ⟨vb, 0, none⟩) L L] 115)).heap.size) := Nat.lt_of_lt_of_le HAvb.out hbx.size;have HNpbmb : Hid (pb ≠ V3.heap.size) := by have := HApb.out; unfold Hid; omega
     replace HApb : Hid (pb < (V3.alloc (.cells #[.slice a1 n1 c1, .slice a2 n2 c2, .slice a3 n3 c3, .int .i64 0, .slice (some ⟨pb, 0, none⟩) 0 most, .slice (some ⟨vb, 0, none⟩) L L] 115)).heap.size) := Nat.lt_of_lt_of_le HApb.out hbx.size;have HNmxmb : Hid (mx ≠ V3.heap.size) := by have := HAmx.out; unfold Hid; omega
     replace HAmx : Hid (mx < (V3.alloc (.cells #[.slice a1 n1 c1, .slice a2 n2 c2, .slice a3 n3 c3, .int .i64 0, .slice (some ⟨pb, 0, none⟩) 0 most, .slice (some ⟨vb, 0, none⟩) L L] 115)).heap.size) := Nat.lt_of_lt_of_le HAmx.out hbx.size;clear hbx;refine hK.out _ _ (by exact HKN.out _ HB4.out) (fun hHeld => ?_);clear hK K
     try simp only [Act.put, layS]
     generalize V3.alloc (.cells #[.slice a1 n1 c1, .slice a2 n2 c2, .slice a3 n3 c3, .int .i64 0, .slice (some ⟨pb, 0, none⟩) 0 most, .slice (some ⟨vb, 0, none⟩) L L] 115) = V4 at HB4 hHeld Hvb Hpb Hmx Hmb HAvb HApb HAmx HAmb ⊢;generalize V3.heap.size = mb at Hmb HAmb HLmb HNvbmb HNpbmb HNmxmb ⊢
     skip
    rotate_left
   rotate_left
  rotate_left 2
  focus
   go_simp;have hbx := kbelow_box V1 (.cells #[.pointer none] 113);have HB2 := Hd (HB1.out.trans (hbx.mono HB1.out.size));replace Hvb := Hd (Hvb.out.below hbx);have Hmx := Hd (Cbx.made V1 [.pointer none] 113);have HAmx : Hid (V1.heap.size < (V1.alloc (.cells #[.pointer none] 113)).heap.size) := by unfold Hid; simp
   have HLmx : Hid (w1.heap.size <= V1.heap.size) := HB1.out.size;have HNvbmx : Hid (vb ≠ V1.heap.size) := by have := HAvb.out; unfold Hid; omega
   replace HAvb : Hid (vb < (V1.alloc (.cells #[.pointer none] 113)).heap.size) := Nat.lt_of_lt_of_le HAvb.out hbx.size;clear hbx;refine hK.out _ _ (by exact HKN.out _ HB2.out) (fun hHeld => ?_);clear hK K
   try simp only [Act.put, layS]
   generalize V1.alloc (.cells #[.pointer none] 113) = V2 at HB2 hHeld Hvb Hmx HAvb HAmx ⊢;generalize V1.heap.size = mx at Hmx HAmx HLmx HNvbmx ⊢;refine rd1 2 rfl (fun K hK => ?_)
   focus
    have hmk := make_pile most hm20 V2;go_simp;clear hmk;have hbx := kbelow_box V2 (.cells (madeCells #[.int .i64 0] most) 3);have HB3 := Hd (HB2.out.trans (hbx.mono HB2.out.size));replace Hvb := Hd (Hvb.out.below hbx);replace Hmx := Hd (Hmx.out.below hbx Hmx.out.lt);have Hpb := Hd (RowI.made V2 most 3);have HApb : Hid (V2.heap.size < (V2.alloc (.cells (madeCells #[.int .i64 0] most) 3)).heap.size) := by unfold Hid; simp
    have HLpb : Hid (w1.heap.size <= V2.heap.size) := HB2.out.size;have HNvbpb : Hid (vb ≠ V2.heap.size) := by have := HAvb.out; unfold Hid; omega
    replace HAvb : Hid (vb < (V2.alloc (.cells (madeCells #[.int .i64 0] most) 3)).heap.size) := Nat.lt_of_lt_of_le HAvb.out hbx.size;have HNmxpb : Hid (mx ≠ V2.heap.size) := by have := HAmx.out; unfold Hid; omega
    replace HAmx : Hid (mx < (V2.alloc (.cells (madeCells #[.int .i64 0] most) 3)).heap.size) := Nat.lt_of_lt_of_le HAmx.out hbx.size;clear hbx;refine hK.out _ _ (by exact HKN.out _ HB3.out) (fun hHeld => ?_);clear hK K
    try simp only [Act.put, layS]
    generalize V2.alloc (.cells (madeCells #[.int .i64 0] most) 3) = V3 at HB3 hHeld Hvb Hmx Hpb HAvb HAmx HApb ⊢;generalize V2.heap.size = pb at Hpb HApb HLpb HNvbpb HNmxpb ⊢;refine tkH 5 (.agg #[.slice a1 n1 c1, .slice a2 n2 c2, .slice a3 n3 c3, .int .i64 0, .slice (some ⟨pb, 0, none⟩) 0 most, .slice (some ⟨vb, 0, none⟩) L L]) rfl (fun w' hSw => ?_) ?_
    ·((try dsimp only at hSw); go_simp; try with_reducible rfl)
    try simp only [Act.put, layS]
    refine rd1 6 rfl (fun K hK => ?_)
    focus
     go_simp;have hbx := kbelow_box V3 (.cells #[.slice a1 n1 c1, .slice a2 n2 c2, .slice a3 n3 c3, .int .i64 0, .slice (some ⟨pb, 0, none⟩) 0 most, .slice (some ⟨vb, 0, none⟩) L L] 115);have HB4 := Hd (HB3.out.trans (hbx.mono HB3.out.size));replace Hvb := Hd (Hvb.out.below hbx);replace Hmx := Hd (Hmx.out.below hbx Hmx.out.lt);replace Hpb := Hd (Hpb.out.below hbx);have Hmb := Hd (Cbx.made V3 [.slice a1 n1 c1, .slice a2 n2 c2, .slice a3 n3 c3, .int .i64 0, .slice (some ⟨pb, 0, none⟩) 0 most, .slice (some ⟨vb, 0, none⟩) L L] 115);have HAmb : Hid (V3.heap.size < (V3.alloc (.cells #[.slice a1 n1 c1, .slice a2 n2 c2, .slice a3 n3 c3, .int .i64 0, .slice (some ⟨pb, 0, none⟩) 0 most, .slice (some ⟨vb, 0, none⟩) L L] 115)).heap.size) := by unfold Hid; simp
     have HLmb : Hid (w1.heap.size <= V3.heap.size) := HB3.out.size;have HNvbmb : Hid (vb ≠ V3.heap.size) := by have := HAvb.out; unfold Hid; omega
     replace HAvb : Hid (vb < (V3.alloc (.cells #[.slice a1 n1 c1, .slice a2 n2 c2, .slice a3 n3 c3, .int .i64 0, .slice (some ⟨pb, 0, none⟩) 0 most, .slice (some ⟨vb, 0, none⟩) L L] 115)).heap.size) := Nat.lt_of_lt_of_le HAvb.out hbx.size;have HNmxmb : Hid (mx ≠ V3.heap.size) := by have := HAmx.out; unfold Hid; omega
     replace HAmx : Hid (mx < (V3.alloc (.cells #[.slice a1 n1 c1, .slice a2 n2 c2, .slice a3 n3 c3, .int .i64 0, .slice (some ⟨pb, 0, none⟩) 0 most, .slice (some ⟨vb, 0, none⟩) L L] 115)).heap.size) := Nat.lt_of_lt_of_le HAmx.out hbx.size;have HNpbmb : Hid (pb ≠ V3.heap.size) := by have := HApb.out; unfold Hid; omega
     replace HApb : Hid (pb < (V3.alloc (.cells #[.slice a1 n1 c1, .slice a2 n2 c2, .slice a3 n3 c3, .int .i64 0, .slice (some ⟨pb, 0, none⟩) 0 most, .slice (some ⟨vb, 0, none⟩) L L] 115)).heap.size) := Nat.lt_of_lt_of_le HApb.out hbx.size;clear hbx;refine hK.out _ _ (by exact HKN.out _ HB4.out) (fun hHeld => ?_);clear hK K
     try simp only [Act.put, layS]
     generalize V3.alloc (.cells #[.slice a1 n1 c1, .slice a2 n2 c2, .slice a3 n3 c3, .int .i64 0, .slice (some ⟨pb, 0, none⟩) 0 most, .slice (some ⟨vb, 0, none⟩) L L] 115) = V4 at HB4 hHeld Hvb Hmx Hpb Hmb HAvb HAmx HApb HAmb ⊢;generalize V3.heap.size = mb at Hmb HAmb HLmb HNvbmb HNmxmb HNpbmb ⊢
     skip
    rotate_left
   rotate_left
  rotate_left
 rotate_left 3
 focus
  go_simp;have hbx := kbelow_box V0 (.cells #[.pointer none] 113);have HB1 := Hd (HB0.out.trans (hbx.mono HB0.out.size));have Hmx := Hd (Cbx.made V0 [.pointer none] 113);have HAmx : Hid (V0.heap.size < (V0.alloc (.cells #[.pointer none] 113)).heap.size) := by unfold Hid; simp
  have HLmx : Hid (w1.heap.size <= V0.heap.size) := HB0.out.size;clear hbx;refine hK.out _ _ (by exact HKN.out _ HB1.out) (fun hHeld => ?_);clear hK K
  try simp only [Act.put, layS]
  generalize V0.alloc (.cells #[.pointer none] 113) = V1 at HB1 hHeld Hmx HAmx ⊢;generalize V0.heap.size = mx at Hmx HAmx HLmx ⊢;refine rd2 2 4 rfl (fun K hK => ?_) rfl (fun K hK => ?_)
  focus
   have hmk := make_pile most hm20 V1;go_simp;clear hmk;have hbx := kbelow_box V1 (.cells (madeCells #[.int .i64 0] most) 3);have HB2 := Hd (HB1.out.trans (hbx.mono HB1.out.size));replace Hmx := Hd (Hmx.out.below hbx Hmx.out.lt);have Hpb := Hd (RowI.made V1 most 3);have HApb : Hid (V1.heap.size < (V1.alloc (.cells (madeCells #[.int .i64 0] most) 3)).heap.size) := by unfold Hid; simp
   have HLpb : Hid (w1.heap.size <= V1.heap.size) := HB1.out.size;have HNmxpb : Hid (mx ≠ V1.heap.size) := by have := HAmx.out; unfold Hid; omega
   replace HAmx : Hid (mx < (V1.alloc (.cells (madeCells #[.int .i64 0] most) 3)).heap.size) := Nat.lt_of_lt_of_le HAmx.out hbx.size;clear hbx;refine hK.out _ _ (by exact HKN.out _ HB2.out) (fun hHeld => ?_);clear hK K
   try simp only [Act.put, layS]
   generalize V1.alloc (.cells (madeCells #[.int .i64 0] most) 3) = V2 at HB2 hHeld Hmx Hpb HAmx HApb ⊢;generalize V1.heap.size = pb at Hpb HApb HLpb HNmxpb ⊢;refine rd1 4 rfl (fun K hK => ?_)
   focus
    have hmk := make_vals L hL40 V2;go_simp;clear hmk;have hbx := kbelow_box V2 (.cells (madeCells #[.int .i64 0] L) 3);have HB3 := Hd (HB2.out.trans (hbx.mono HB2.out.size));replace Hmx := Hd (Hmx.out.below hbx Hmx.out.lt);replace Hpb := Hd (Hpb.out.below hbx);have Hvb := Hd (RowI.made V2 L 3);have HAvb : Hid (V2.heap.size < (V2.alloc (.cells (madeCells #[.int .i64 0] L) 3)).heap.size) := by unfold Hid; simp
    have HLvb : Hid (w1.heap.size <= V2.heap.size) := HB2.out.size;have HNmxvb : Hid (mx ≠ V2.heap.size) := by have := HAmx.out; unfold Hid; omega
    replace HAmx : Hid (mx < (V2.alloc (.cells (madeCells #[.int .i64 0] L) 3)).heap.size) := Nat.lt_of_lt_of_le HAmx.out hbx.size;have HNpbvb : Hid (pb ≠ V2.heap.size) := by have := HApb.out; unfold Hid; omega
    replace HApb : Hid (pb < (V2.alloc (.cells (madeCells #[.int .i64 0] L) 3)).heap.size) := Nat.lt_of_lt_of_le HApb.out hbx.size;clear hbx;refine hK.out _ _ (by exact HKN.out _ HB3.out) (fun hHeld => ?_);clear hK K
    try simp only [Act.put, layS]
    generalize V2.alloc (.cells (madeCells #[.int .i64 0] L) 3) = V3 at HB3 hHeld Hmx Hpb Hvb HAmx HApb HAvb ⊢;generalize V2.heap.size = vb at Hvb HAvb HLvb HNmxvb HNpbvb ⊢;refine tkH 5 (.agg #[.slice a1 n1 c1, .slice a2 n2 c2, .slice a3 n3 c3, .int .i64 0, .slice (some ⟨pb, 0, none⟩) 0 most, .slice (some ⟨vb, 0, none⟩) L L]) rfl (fun w' hSw => ?_) ?_
    ·((try dsimp only at hSw); go_simp; try with_reducible rfl)
    try simp only [Act.put, layS]
    refine rd1 6 rfl (fun K hK => ?_)
    focus
     go_simp;have hbx := kbelow_box V3 (.cells #[.slice a1 n1 c1, .slice a2 n2 c2, .slice a3 n3 c3, .int .i64 0, .slice (some ⟨pb, 0, none⟩) 0 most, .slice (some ⟨vb, 0, none⟩) L L] 115);have HB4 := Hd (HB3.out.trans (hbx.mono HB3.out.size));replace Hmx := Hd (Hmx.out.below hbx Hmx.out.lt);replace Hpb := Hd (Hpb.out.below hbx);replace Hvb := Hd (Hvb.out.below hbx);have Hmb := Hd (Cbx.made V3 [.slice a1 n1 c1, .slice a2 n2 c2, .slice a3 n3 c3, .int .i64 0, .slice (some ⟨pb, 0, none⟩) 0 most, .slice (some ⟨vb, 0, none⟩) L L] 115);have HAmb : Hid (V3.heap.size < (V3.alloc (.cells #[.slice a1 n1 c1, .slice a2 n2 c2, .slice a3 n3 c3, .int .i64 0, .slice (some ⟨pb, 0, none⟩) 0 most, .slice (some ⟨vb, 0, none⟩) L L] 115)).heap.size) := by unfold Hid; simp
     have HLmb : Hid (w1.heap.size <= V3.heap.size) := HB3.out.size;have HNmxmb : Hid (mx ≠ V3.heap.size) := by have := HAmx.out; unfold Hid; omega
     replace HAmx : Hid (mx < (V3.alloc (.cells #[.slice a1 n1 c1, .slice a2 n2 c2, .slice a3 n3 c3, .int .i64 0, .slice (some ⟨pb, 0, none⟩) 0 most, .slice (some ⟨vb, 0, none⟩) L L] 115)).heap.size) := Nat.lt_of_lt_of_le HAmx.out hbx.size;have HNpbmb : Hid (pb ≠ V3.heap.size) := by have := HApb.out; unfold Hid; omega
     replace HApb : Hid (pb < (V3.alloc (.cells #[.slice a1 n1 c1, .slice a2 n2 c2, .slice a3 n3 c3, .int .i64 0, .slice (some ⟨pb, 0, none⟩) 0 most, .slice (some ⟨vb, 0, none⟩) L L] 115)).heap.size) := Nat.lt_of_lt_of_le HApb.out hbx.size;have HNvbmb : Hid (vb ≠ V3.heap.size) := by have := HAvb.out; unfold Hid; omega
     replace HAvb : Hid (vb < (V3.alloc (.cells #[.slice a1 n1 c1, .slice a2 n2 c2, .slice a3 n3 c3, .int .i64 0, .slice (some ⟨pb, 0, none⟩) 0 most, .slice (some ⟨vb, 0, none⟩) L L] 115)).heap.size) := Nat.lt_of_lt_of_le HAvb.out hbx.size;clear hbx;refine hK.out _ _ (by exact HKN.out _ HB4.out) (fun hHeld => ?_);clear hK K
     try simp only [Act.put, layS]
     generalize V3.alloc (.cells #[.slice a1 n1 c1, .slice a2 n2 c2, .slice a3 n3 c3, .int .i64 0, .slice (some ⟨pb, 0, none⟩) 0 most, .slice (some ⟨vb, 0, none⟩) L L] 115) = V4 at HB4 hHeld Hmx Hpb Hvb Hmb HAmx HApb HAvb HAmb ⊢;generalize V3.heap.size = mb at Hmb HAmb HLmb HNmxmb HNpbmb HNvbmb ⊢
     skip
    rotate_left
   rotate_left
  rotate_left
  focus
   have hmk := make_vals L hL40 V1;go_simp;clear hmk;have hbx := kbelow_box V1 (.cells (madeCells #[.int .i64 0] L) 3);have HB2 := Hd (HB1.out.trans (hbx.mono HB1.out.size));replace Hmx := Hd (Hmx.out.below hbx Hmx.out.lt);have Hvb := Hd (RowI.made V1 L 3);have HAvb : Hid (V1.heap.size < (V1.alloc (.cells (madeCells #[.int .i64 0] L) 3)).heap.size) := by unfold Hid; simp
   have HLvb : Hid (w1.heap.size <= V1.heap.size) := HB1.out.size;have HNmxvb : Hid (mx ≠ V1.heap.size) := by have := HAmx.out; unfold Hid; omega
   replace HAmx : Hid (mx < (V1.alloc (.cells (madeCells #[.int .i64 0] L) 3)).heap.size) := Nat.lt_of_lt_of_le HAmx.out hbx.size;clear hbx;refine hK.out _ _ (by exact HKN.out _ HB2.out) (fun hHeld => ?_);clear hK K
   try simp only [Act.put, layS]
   generalize V1.alloc (.cells (madeCells #[.int .i64 0] L) 3) = V2 at HB2 hHeld Hmx Hvb HAmx HAvb ⊢;generalize V1.heap.size = vb at Hvb HAvb HLvb HNmxvb ⊢;refine rd1 2 rfl (fun K hK => ?_)
   focus
    have hmk := make_pile most hm20 V2;go_simp;clear hmk;have hbx := kbelow_box V2 (.cells (madeCells #[.int .i64 0] most) 3);have HB3 := Hd (HB2.out.trans (hbx.mono HB2.out.size));replace Hmx := Hd (Hmx.out.below hbx Hmx.out.lt);replace Hvb := Hd (Hvb.out.below hbx);have Hpb := Hd (RowI.made V2 most 3);have HApb : Hid (V2.heap.size < (V2.alloc (.cells (madeCells #[.int .i64 0] most) 3)).heap.size) := by unfold Hid; simp
    have HLpb : Hid (w1.heap.size <= V2.heap.size) := HB2.out.size;have HNmxpb : Hid (mx ≠ V2.heap.size) := by have := HAmx.out; unfold Hid; omega
    replace HAmx : Hid (mx < (V2.alloc (.cells (madeCells #[.int .i64 0] most) 3)).heap.size) := Nat.lt_of_lt_of_le HAmx.out hbx.size;have HNvbpb : Hid (vb ≠ V2.heap.size) := by have := HAvb.out; unfold Hid; omega
    replace HAvb : Hid (vb < (V2.alloc (.cells (madeCells #[.int .i64 0] most) 3)).heap.size) := Nat.lt_of_lt_of_le HAvb.out hbx.size;clear hbx;refine hK.out _ _ (by exact HKN.out _ HB3.out) (fun hHeld => ?_);clear hK K
    try simp only [Act.put, layS]
    generalize V2.alloc (.cells (madeCells #[.int .i64 0] most) 3) = V3 at HB3 hHeld Hmx Hvb Hpb HAmx HAvb HApb ⊢;generalize V2.heap.size = pb at Hpb HApb HLpb HNmxpb HNvbpb ⊢;refine tkH 5 (.agg #[.slice a1 n1 c1, .slice a2 n2 c2, .slice a3 n3 c3, .int .i64 0, .slice (some ⟨pb, 0, none⟩) 0 most, .slice (some ⟨vb, 0, none⟩) L L]) rfl (fun w' hSw => ?_) ?_
    ·((try dsimp only at hSw); go_simp; try with_reducible rfl)
    try simp only [Act.put, layS]
    refine rd1 6 rfl (fun K hK => ?_)
    focus
     go_simp;have hbx := kbelow_box V3 (.cells #[.slice a1 n1 c1, .slice a2 n2 c2, .slice a3 n3 c3, .int .i64 0, .slice (some ⟨pb, 0, none⟩) 0 most, .slice (some ⟨vb, 0, none⟩) L L] 115);have HB4 := Hd (HB3.out.trans (hbx.mono HB3.out.size));replace Hmx := Hd (Hmx.out.below hbx Hmx.out.lt);replace Hvb := Hd (Hvb.out.below hbx);replace Hpb := Hd (Hpb.out.below hbx);have Hmb := Hd (Cbx.made V3 [.slice a1 n1 c1, .slice a2 n2 c2, .slice a3 n3 c3, .int .i64 0, .slice (some ⟨pb, 0, none⟩) 0 most, .slice (some ⟨vb, 0, none⟩) L L] 115);have HAmb : Hid (V3.heap.size < (V3.alloc (.cells #[.slice a1 n1 c1, .slice a2 n2 c2, .slice a3 n3 c3, .int .i64 0, .slice (some ⟨pb, 0, none⟩) 0 most, .slice (some ⟨vb, 0, none⟩) L L] 115)).heap.size) := by unfold Hid; simp
     have HLmb : Hid (w1.heap.size <= V3.heap.size) := HB3.out.size;have HNmxmb : Hid (mx ≠ V3.heap.size) := by have := HAmx.out; unfold Hid; omega
     replace HAmx : Hid (mx < (V3.alloc (.cells #[.slice a1 n1 c1, .slice a2 n2 c2, .slice a3 n3 c3, .int .i64 0, .slice (some ⟨pb, 0, none⟩) 0 most, .slice (some ⟨vb, 0, none⟩) L L] 115)).heap.size) := Nat.lt_of_lt_of_le HAmx.out hbx.size;have HNvbmb : Hid (vb ≠ V3.heap.size) := by have := HAvb.out; unfold Hid; omega
     replace HAvb : Hid (vb < (V3.alloc (.cells #[.slice a1 n1 c1, .slice a2 n2 c2, .slice a3 n3 c3, .int .i64 0, .slice (some ⟨pb, 0, none⟩) 0 most, .slice (some ⟨vb, 0, none⟩) L L] 115)).heap.size) := Nat.lt_of_lt_of_le HAvb.out hbx.size;have HNpbmb : Hid (pb ≠ V3.heap.size) := by have := HApb.out; unfold Hid; omega
     replace HApb : Hid (pb < (V3.alloc (.cells #[.slice a1 n1 c1, .slice a2 n2 c2, .slice a3 n3 c3, .int .i64 0, .slice (some ⟨pb, 0, none⟩) 0 most, .slice (some ⟨vb, 0, none⟩) L L] 115)).heap.size) := Nat.lt_of_lt_of_le HApb.out hbx.size;clear hbx;refine hK.out _ _ (by exact HKN.out _ HB4.out) (fun hHeld => ?_);clear hK K
     try simp only [Act.put, layS]
     generalize V3.alloc (.cells #[.slice a1 n1 c1, .slice a2 n2 c2, .slice a3 n3 c3, .int .i64 0, .slice (some ⟨pb, 0, none⟩) 0 most, .slice (some ⟨vb, 0, none⟩) L L] 115) = V4 at HB4 hHeld Hmx Hvb Hpb Hmb HAmx HAvb HApb HAmb ⊢;generalize V3.heap.size = mb at Hmb HAmb HLmb HNmxmb HNvbmb HNpbmb ⊢
     skip
    rotate_left
   rotate_left
  rotate_left
 rotate_left 2
 all_goals
  have HDIS : Hid ((mb ≠ pb /\ mb ≠ vb /\ pb ≠ vb) /\ mx ≠ mb /\ mx ≠ pb /\ mx ≠ vb) := ⟨⟨Ne.symm HNpbmb.out, Ne.symm HNvbmb.out, by first | exact HNpbvb.out | exact Ne.symm HNvbpb.out⟩, by first | exact HNmxmb.out | exact Ne.symm HNmbmx.out, by first | exact HNmxpb.out | exact Ne.symm HNpbmx.out, by first | exact HNmxvb.out | exact Ne.symm HNvbmx.out⟩;have x0 := Hmx.out.at 0 rfl;have f0 := Hmx.out.fr 0 rfl;refine rd1 8 rfl (fun K hK => ?_);go_simp;clear x0 f0;have HBX := Hd (HB4.out.setCell (p := ⟨mx, 0, none⟩) HLmx.out (.pointer (some ⟨mb, 0, none⟩)));have HMXX : Hid (Cbx (V4.setCell ⟨mx, 0, none⟩ (.pointer (some ⟨mb, 0, none⟩))) mx [.pointer (some ⟨mb, 0, none⟩)]) := cbx_set Hmx.out (.pointer (some ⟨mb, 0, none⟩)) (i := 0) (by simp);have HMAT : Hid (MAt (V4.setCell ⟨mx, 0, none⟩ (.pointer (some ⟨mb, 0, none⟩))) w1.heap.size mb pb vb most L a1 a2 a3 n1 c1 n2 c2 n3 c3 ms0.at_ ms0.m ms0.P ms0.V) := made_mach (Hmb.out.to (Below.heap_setCell V4 ⟨mx, 0, none⟩ _ mb (Ne.symm HDIS.out.2.1))) (Hpb.out.to (by simp) (Below.heap_setCell V4 ⟨mx, 0, none⟩ _ pb (Ne.symm HDIS.out.2.2.1))) (Hvb.out.to (by simp) (Below.heap_setCell V4 ⟨mx, 0, none⟩ _ vb (Ne.symm HDIS.out.2.2.2))) HLmb.out HLpb.out HLvb.out HDIS.out.1.1 HDIS.out.1.2.1 HDIS.out.1.2.2;refine hK.out _ _ (by exact HKN.out _ HBX.out) (fun hHeld => ?_);clear hK K
  try simp only [Act.put, layS]
  refine wpAnyH_done (by kernel_rfl) ?_ _;generalize V4.setCell ⟨mx, 0, none⟩ (.pointer (some ⟨mb, 0, none⟩)) = X at HBX HMXX HMAT ⊢;have hbE := kbelow_box X (.cells #[.int .i64 0] 28);have HBE := Hd hbE;have HEC := Hd (Cbx.made X [.int .i64 0] 28);have HOX := Hd ((HOB.out.below (HBX.out.trans (hbE.mono HBX.out.size)) HOB.out.lt).at 0 rfl);have HO0 : Hid (w.heap.size < w1.heap.size) := HOB.out.lt;have HDO := Hd (run1_any HPS.out (fun j hj => HZ.out j (by rw [<- HN.out]; exact hj)) w1 (X.alloc (.cells #[.int .i64 0] 28)) a n cap mx w.heap.size mb pb vb most a1 a2 a3 c1 c2 c3 kn ms0 (inv0 l L) HMO.out.symm (HMAT.out.below hbE) (HBX.out.trans (hbE.mono HBX.out.size)) (HE.out.below HBW1.out) (HL.out.below HBW1.out) HN.out (HK.out.below HBW1.out) HLN.out.1 HLN.out.2.1 HLN.out.2.2 HKR.out ((HMXX.out.below hbE HMXX.out.lt).at 0 rfl) HOX.out HDIS.out.2 (by have := HO0.out; have := HLmb.out; have := HLpb.out; have := HLvb.out; omega));clear hbE;go_wp2_with fail
  refine (Try_any 51 #[.pointer (some ⟨mx, 0, none⟩), .pointer (some ⟨w.heap.size, 0, none⟩)] X (fun wx => Kp3 mb pb vb (X.alloc (.cells #[.int .i64 0] 28)) wx /\ ∃ s, MReach kn l ms0 s /\ Inv l L s /\ s.at_ = l.length /\ MAt wx w1.heap.size mb pb vb most L a1 a2 a3 n1 c1 n2 c2 n3 c3 s.at_ s.m s.P s.V) (fun wx => Kp3 mb pb vb (X.alloc (.cells #[.int .i64 0] 28)) wx /\ ∃ s u, MReach kn l ms0 s /\ Inv l L s /\ s.at_ < l.length /\ mstep kn (bnth l s.at_) s = none /\ MAt wx w1.heap.size mb pb vb most L a1 a2 a3 n1 c1 n2 c2 n3 c3 s.at_ u s.P s.V) (fun _ => by simp [go_sem]) (HDO.out.mono ?_)).mono ?_
  ·rintro e w5 ⟨hkp, s, hre, hin, hc⟩;have hE5 := hkp.cbx HEC.out (by have := HMAT.out.lt; omega) (by have := HMAT.out.lp; omega) (by have := HMAT.out.lv; omega);refine ⟨?_, hE5.at 0 rfl, hE5.fr 0 rfl⟩
   rcases hc with ⟨h1, rfl, h2⟩ | ⟨h1, h2, rfl, u, h3⟩
   ·exact .inl ⟨rfl, hkp, s, hre, hin, h1, h2⟩
   ·exact .inr ⟨rfl, hkp, s, u, hre, hin, h1, h2, h3⟩
  rintro e w5 (⟨rfl, w6, ⟨hkp, s, hre, hin, hat, hma⟩, rfl⟩ | ⟨rfl, w6, ⟨hkp, s, u, hre, hin, hat, hms, hma⟩, rfl⟩)
  ·have hne : mb ≠ X.heap.size /\ pb ≠ X.heap.size /\ vb ≠ X.heap.size := by have := HMAT.out.lt; have := HMAT.out.lp; have := HMAT.out.lv; omega
   have HM7 := Hd (hma.aside hne 0 (.int .i64 0));have y0 : (w6.setCell ⟨X.heap.size, 0, none⟩ (.int .i64 0)).cell? ⟨mx, 0, none⟩ = some (.pointer (some ⟨mb, 0, none⟩)) := by
    rw [cell_apart w6 (show X.heap.size ≠ mx by have := HMXX.out.lt; omega)];exact hkp.cell ((HMXX.out.below HBE.out HMXX.out.lt).at 0 rfl) HDIS.out.2.1 HDIS.out.2.2.1 HDIS.out.2.2.2
   have HB7 : Hid (Below w.heap.size w (w6.setCell ⟨X.heap.size, 0, none⟩ (.int .i64 0))) := by
    have hx1 := HBX.out.trans (HBE.out.mono HBX.out.size);have hx2 := hx1.trans (hkp.below hx1.size HLmb.out HLpb.out HLvb.out);have hx3 := hx2.setCell (p := ⟨X.heap.size, 0, none⟩) (show w1.heap.size <= X.heap.size from HBX.out.size) (.int .i64 0);exact HBW1.out.trans (hx3.mono HBW1.out.size)
   generalize (w6.setCell ⟨X.heap.size, 0, none⟩ (.int .i64 0)) = W7 at HM7 y0 HB7 ⊢;clear hne hkp hma;have y5 := HM7.out.bx.at 5 rfl;go_wp2_with fail
   refine bodyPost_ret (v := .tuple #[.slice (some ⟨vb, 0, none⟩) L L, .int .i64 0, .int .i64 0]) (by simp [results, Tryz.results18, go_sem] <;> rfl) rfl ?_;refine ⟨HB7.out, .inr ⟨HCE.out, s, hre, hin, .inl ⟨hat, vb, rfl, Nat.le_trans HBW1.out.size HLvb.out, HM7.out.lv, fun j hj => (HM7.out.vals j hj).1⟩⟩⟩
  ·have hne : mb ≠ X.heap.size /\ pb ≠ X.heap.size /\ vb ≠ X.heap.size := by have := HMAT.out.lt; have := HMAT.out.lp; have := HMAT.out.lv; omega
   have HM7 := Hd (hma.aside hne 0 (.int .i64 3));have y0 : (w6.setCell ⟨X.heap.size, 0, none⟩ (.int .i64 3)).cell? ⟨mx, 0, none⟩ = some (.pointer (some ⟨mb, 0, none⟩)) := by
    rw [cell_apart w6 (show X.heap.size ≠ mx by have := HMXX.out.lt; omega)];exact hkp.cell ((HMXX.out.below HBE.out HMXX.out.lt).at 0 rfl) HDIS.out.2.1 HDIS.out.2.2.1 HDIS.out.2.2.2
   have HB7 : Hid (Below w.heap.size w (w6.setCell ⟨X.heap.size, 0, none⟩ (.int .i64 3))) := by
    have hx1 := HBX.out.trans (HBE.out.mono HBX.out.size);have hx2 := hx1.trans (hkp.below hx1.size HLmb.out HLpb.out HLvb.out);have hx3 := hx2.setCell (p := ⟨X.heap.size, 0, none⟩) (show w1.heap.size <= X.heap.size from HBX.out.size) (.int .i64 3);exact HBW1.out.trans (hx3.mono HBW1.out.size)
   generalize (w6.setCell ⟨X.heap.size, 0, none⟩ (.int .i64 3)) = W7 at HM7 y0 HB7 ⊢;clear hne hkp hma;have hbd := kbelow_dN (Below.refl W7.heap.size W7) 1;have yx : W7.drew.cell? ⟨mx, 0, none⟩ = some (.pointer (some ⟨mb, 0, none⟩)) := y0;have y3 : W7.drew.cell? ⟨mb, 3, none⟩ = some (.int .i64 (s.at_ : Int)) := HM7.out.bx.at 3 rfl;have HB8 : Hid (Below w.heap.size w W7.drew) := HB7.out.trans (hbd.mono HB7.out.size);clear hbd y0;have HC7 := Hd (And.intro hre (And.intro hin (And.intro hat hms)));clear hre hin hat hms;go_wp2_with fail
   go_region
   go_wp2_with fail
   refine bodyPost_ret (v := .tuple #[.slice none 0 0, .int .i64 (s.at_ : Int), .int .i64 3]) (by simp [results, Tryz.results18, go_sem] <;> rfl) rfl ?_;exact ⟨HB8.out, .inr ⟨HCE.out, s, HC7.out.1, HC7.out.2.1, .inr ⟨HC7.out.2.2.1, HC7.out.2.2.2, rfl⟩⟩⟩
def bgK : Kn := ⟨[], [], []⟩
def bgL : List Bk := [⟨1, 5⟩, ⟨16, 0⟩]
theorem bgK_came (w : World) : CameK w none none none bgK :=
 ⟨.inl rfl, .inl rfl, .inl rfl, fun _ hj => absurd hj (Nat.not_lt_zero _), fun _ hj => absurd hj (Nat.not_lt_zero _), Nat.zero_le _, Nat.zero_le _, Nat.zero_le _⟩
theorem bg_E : chkE bgK bgL 1 = 0 := by decide +kernel
theorem bg_N : chkN bgK bgL 1 = 1 := by decide +kernel
def bgS1 : MS := ⟨1, 1, updF (fun _ => 0) 0 5, fun _ => 0⟩
def bgS2 : MS := ⟨2, 0, updF (fun _ => 0) 0 5, updF (fun _ => 0) 0 5⟩
theorem bg_1 : mstep bgK (bnth bgL 0) ms0 = some bgS1 := rfl
theorem bg_2 : mstep bgK (bnth bgL 1) bgS1 = some bgS2 := rfl
theorem bg_reach {s t : MS} (h : MReach bgK bgL s t) (h0 : s = ms0) : t = ms0 \/ t = bgS1 \/ t = bgS2 := by
 induction h with
 | refl => exact .inl h0
 | step hr hl hm ih =>
   rcases ih with rfl | rfl | rfl
   ·have := (show mstep bgK (bnth bgL 0) ms0 = some _ from hm).symm.trans bg_1;injection this with this
    exact .inr (.inl this)
   ·have := (show mstep bgK (bnth bgL 1) bgS1 = some _ from hm).symm.trans bg_2;injection this with this
    exact .inr (.inr this)
   ·exact absurd hl (by decide)
theorem bg_came (w : World) (T : TypeId) : CameB (w.alloc (.cells #[.int .i64 1, .int .i64 5, .int .i64 16, .int .i64 0] T)) (some ⟨w.heap.size, 0, none⟩) bgL := by
 refine .inr ⟨w.heap.size, 0, rfl, by simp, fun j hj => ?_⟩;have : j = 0 \/ j = 1 := by have : j < 2 := hj; omega
 rcases this with rfl | rfl
 ·exact ⟨by simp [bnth, bgL], by simp [bnth, bgL]⟩
 ·exact ⟨by simp [bnth, bgL], by simp [bnth, bgL]⟩
theorem bg_i64 : ∀ j, j < 2 -> I64 (bnth bgL j).rate := fun j hj => by
 have : j = 0 \/ j = 1 := by omega
 rcases this with rfl | rfl <;> (unfold I64; decide)
theorem same_rows (b b' n c c' : Nat) (F : Nat -> Int) (w : World) (hn : n <= 1000000) (h : ∀ j, j < n -> w.cell? ⟨b, j, none⟩ = some (.int .i64 (F j))) (h' : ∀ j, j < n -> w.cell? ⟨b', j, none⟩ = some (.int .i64 (F j))) :
 Calls Tryz.prog 19 #[.slice (some ⟨b, 0, none⟩) n c, .slice (some ⟨b', 0, none⟩) n c'] w fun e w' => e = .returned (.bool true) /\ Below w.heap.size w w' := by
 have HH := Hd h;have HH' := Hd h';clear h h'
 go_enter Tryz.func19, Tryz.ntmps19
 go_wp2_with fail
 go_loopw [5] (fun i wr => ∃ j : Nat, j <= n /\ i = .int .i64 j /\ Below w.heap.size w wr) (fun i _ => n - (intOf i).toNat)
 case atStart => exact ⟨0, Nat.zero_le _, rfl, Below.refl _ _⟩
 case round =>
  obtain ⟨j, hj, rfl, hb⟩ := hrel;have HB := Hd hb;clear hb
  by_cases hlt : j < n
  ·have hlt' : (j : Int) < (n : Int) := by omega
   have x0 : wr.drew.cell? ⟨b, j, none⟩ = some (.int .i64 (F j)) := (HB.out.cell (p := ⟨b, j, none⟩) (blt_of_cell (HH.out j hlt))).trans (HH.out j hlt);have x1 : wr.drew.cell? ⟨b', j, none⟩ = some (.int .i64 (F j)) := (HB.out.cell (p := ⟨b', j, none⟩) (blt_of_cell (HH'.out j hlt))).trans (HH'.out j hlt);have HB2 : Hid (Below w.heap.size w wr.drew) := HB.out.drew;generalize F j = fj at x0 x1;go_wp2_with fail
   go_region
   go_wp2_with fail
   go_roundw
   case rel => exact ⟨j + 1, by omega, by go_num, HB2.out⟩
   case measure => simp [intOf]; omega
  ·obtain rfl : j = n := by omega
   go_wp2_with fail
   go_ret;exact ⟨rfl, HB.out⟩
theorem codeBegun_any (w : World) (hE : Eff w) : Calls Tryz.prog 8 #[] w fun e w' => e = .returned (.bool true) /\ Below w.heap.size w w' := by
 have HE := Hd hE;have HB0 := Hd (kbelow_box w (.cells #[.int .i64 1, .int .i64 5, .int .i64 16, .int .i64 0] 55));have HC := Hd (CCheck_any (some ⟨w.heap.size, 0, none⟩) 2 2 bgL 1 none none none 0 0 0 0 0 0 bgK _ (bg_came w 55) rfl (by decide) (bgK_came _) rfl rfl rfl (hE.below HB0.out) bg_i64);rw [bg_E, bg_N] at HC;have HRN := Hd (fun (w : World) (hE : Eff w) => CRun_any (some ⟨w.heap.size, 0, none⟩) 2 2 bgL 1 none none none 0 0 0 0 0 0 bgK _ (bg_came w 55) rfl (by decide) (bgK_came _) rfl rfl rfl (hE.below (kbelow_box w (.cells #[.int .i64 1, .int .i64 5, .int .i64 16, .int .i64 0] 55))) bg_i64);clear hE
 go_enter Tryz.func8, Tryz.ntmps8
 go_wp2_with fail
 refine HC.out.mono ?_;rintro e w1 ⟨rfl, hb1⟩;have HB1 := Hd (HB0.out.trans (hb1.mono HB0.out.size));clear hb1 HC;go_wp2_with fail
 refine (HRN.out w1 (HE.out.below HB1.out)).mono ?_;rintro e w2 ⟨hb2, ⟨h0, _⟩ | ⟨_, s, hre, _, ⟨hat, vb, rfl, hv1, hv2, hv3⟩ | ⟨hat, hms, _⟩⟩⟩
 ·exact absurd bg_E h0
 ·have hs : s = bgS2 := by
   rcases bg_reach hre rfl with rfl | rfl | rfl
   ·exact absurd hat (by decide)
   ·exact absurd hat (by decide)
   ·rfl
  subst hs;have h5 := hv3 0 (by decide);have HB2 := Hd (HB1.out.trans (((kbelow_box w1 (.cells #[.int .i64 1, .int .i64 5, .int .i64 16, .int .i64 0] 55)).trans (hb2.mono (kbelow_box w1 _).size)).mono HB1.out.size));have hbr := kbelow_box w2 (.cells #[.int .i64 5] 3)
  have HSM := Hd (same_rows vb w2.heap.size 1 1 1 (fun _ => 5) (w2.alloc (.cells #[.int .i64 5] 3)) (by decide) (fun j hj => by
   obtain rfl : j = 0 := by omega
   exact (hbr.cell (p := ⟨vb, 0, none⟩) hv2).trans h5) (fun j hj => by
   obtain rfl : j = 0 := by omega
   simp))
  have HB3 := Hd (HB2.out.trans (hbr.mono HB2.out.size));clear hb2 hre hat hv1 hv2 hv3 h5 hbr;have hl1 : (1 : Int).toNat = 1 := rfl;rw [hl1];clear hl1;go_wp2_with fail
  refine HSM.out.mono ?_;rintro e w3 ⟨rfl, hb3⟩;go_wp2_with fail
  go_ret;exact ⟨rfl, HB3.out.trans (hb3.mono HB3.out.size)⟩
 ·exfalso
  rcases bg_reach hre rfl with rfl | rfl | rfl
  ·rw [show mstep bgK (bnth bgL ms0.at_) ms0 = some bgS1 from bg_1] at hms; cases hms
  ·rw [show mstep bgK (bnth bgL bgS1.at_) bgS1 = some bgS2 from bg_2] at hms; cases hms
  ·exact absurd hat (by decide)
end Go.Proofs.YtmlpedgcpffpnaaGreatDoor
