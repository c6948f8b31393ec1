/-
  Promise V2: the law HouseOpens: Open answers just what the document says, whatever it is handed.
-/
import Derived.Test.YtkalfdjmklakdaaGreatDoorKX
import Derived.Test.YtkalfdjmklakdaaGreatDoorKU
import Derived.Test.YtkalfdjmklakdaaGreatDoorKXD
import Derived.Deep.CutBlock
namespace Go.Proofs.YtkalfdjmklakdaaGreatDoor
open Go.RowKit Go.Sort
theorem RightC.few {F : Fs} {c : Co} (h : RightC F c) : c.sls.length ≤ 1000 ∧ c.jr.length ≤ 1000 := by
 have hsl := h.sl
 unfold Sq.Slp.slE at hsl
 have hjr := h.jr
 unfold Sq.Ldg.jrE at hjr
 constructor
 ·by_cases e : 200 < c.sls.length
  ·rw [if_pos e] at hsl; omega
  ·omega
 ·by_cases e : 100 < c.jr.length
  ·rw [if_pos e] at hjr; omega
  ·omega
set_option maxRecDepth 100000 in
set_option maxHeartbeats 8000000 in
theorem walk_houseOpens (c : Co) (s : Ly) (k : Int) (hk : (Lit.int .i64 k).wf = true) (w : World) (hc : CameC w s c) (ht : TbSz c.tbs) (hv : Vs w) :
 Calls Tryz.prog 4 #[.agg (coA c s), .int .i64 k] w fun e w' => e = .returned (.bool true) ∧ Below w.heap.size w w' := by
 obtain ⟨F, -⟩ := Fs.some
 have HB0 := Lib.hid (kbelow_box w (.cells (coA c s) 33))
 have HX0 := Lib.hid (CBox.made w c s)
 have HV := Lib.hid hv
 have HC := Lib.hid hc
 have HO := Lib.hid (open_any F c s k _ (hv.below HB0.out) (hc.below HB0.out) hk ht)
 have HWK := Lib.hid hk
 clear hc hv hk ht
 go_enter Tryz.func4, Tryz.ntmps4
 go_wp2_with (refine wpList_load_row rfl 33 (.tmp 2) rfl w.heap.size rfl 33 (coA c s) (0, 0) _ HX0.out Tryz.underlying33 rfl (coInfo c s) ?_)
 refine HO.out.mono ?_
 rintro e w1 ⟨cr, sr, rfl, hr1, hr2, hfr, hb1⟩
 have HR1 := Lib.hid hr1
 have HR2 := Lib.hid hr2
 have HFR := Lib.hid (hfr.here (Nat.le_refl _))
 have HB1 := Lib.hid (HB0.out.trans (hb1.mono HB0.out.size))
 have HX1 := Lib.hid (HX0.out.below hb1 HX0.out.lt)
 clear hr1 hr2 hfr hb1 HB0 HX0 HO
 have HG : Hid ((w1.alloc (.cells #[.int .i64 0, .int .i64 0, .int .i64 0, .int .i64 0, .slice none 0 0, .slice none 0 0, .slice none 0 0, .int .i64 0, .int .i64 0, .int .i64 0, .int .i64 0, .int .i64 0, .int .i64 0, .int .i64 0, .int .i64 0, .int .i64 0, .int .i64 0, .slice none 0 0, .slice none 0 0] 33)).heap[w1.heap.size]? = some (.cells (coA co0 ly0) 33 (0, 0))) := Lib.hid (heap_alloc_new w1 (.cells #[.int .i64 0, .int .i64 0, .int .i64 0, .int .i64 0, .slice none 0 0, .slice none 0 0, .slice none 0 0, .int .i64 0, .int .i64 0, .int .i64 0, .int .i64 0, .int .i64 0, .int .i64 0, .int .i64 0, .int .i64 0, .int .i64 0, .int .i64 0, .slice none 0 0, .slice none 0 0] 33))
 go_upto_region 2 with (refine wpList_store_row rfl 33 (.tmp 5) (.tmp 13) rfl w1.heap.size (coA cr sr) rfl rfl 33 (coA co0 ly0) HG.out (coInfo cr sr) rfl (coOne cr sr) ?_)
 rw [World.setRow_alloc_new]
 try dsimp only [Act.put]
 have HB2 := Lib.hid (HB1.out.alloc HB1.out.size (.cells (coA cr sr) 33))
 have HX2 := Lib.hid (HX1.out.below (kbelow_box _ (.cells (coA cr sr) 33)) HX1.out.lt)
 have HE2 := Lib.hid (CBox.made w1 cr sr)
 have HFR2 := Lib.hid (HFR.out.below (kbelow_box _ (.cells (coA cr sr) 33)))
 clear HG HB1 HX1 HFR
 have hsz : w1.heap.size < (w1.alloc (.cells (coA cr sr) 33)).heap.size := by simp
 generalize w1.alloc (.cells (coA cr sr) 33) = w2 at *
 generalize w1.heap.size = g at *
 go_wp2_with (refine wpList_load_row rfl 33 (.tmp 2) rfl w.heap.size rfl 33 (coA c s) (0, 0) _ HX2.out Tryz.underlying33 rfl (coInfo c s) ?_)
 refine (checkCompany_ref F c s w2 (HC.out.below HB2.out)).mono ?_
 rintro e w3 ⟨rfl, hb3⟩
 have HB3 := Lib.hid (HB2.out.trans (hb3.mono HB2.out.size))
 have HX3 := Lib.hid (HX2.out.below hb3 HX2.out.lt)
 have HE3 := Lib.hid (HE2.out.below hb3 HE2.out.lt)
 have HFR3 := Lib.hid (HFR2.out.below hb3)
 clear hb3 HB2 HX2 HE2 HFR2 hsz
 obtain ⟨x, hx⟩ : ∃ x, coE F c = x := ⟨_, rfl⟩
 obtain ⟨z, hz⟩ : ∃ z, opE F c k = z := ⟨_, rfl⟩
 have HO : Hid (z = fstL [x, ifE (workB c) 4, ifE (c.num == 999) 3, F.ae c.K c.A c.L k, ifE (!(c.num == 0) && decide (k < c.per)) 10]) := Lib.hid (by rw [← hz, ← hx]; rfl)
 have HRG : Hid (z = 0 → RightC F c) := fun h => right_of (F := F) (c := c) (by rw [hx]; exact (fst_z0 (HO.out.symm.trans h)).1)
 rw [hx]
 rw [hz] at HR1 HR2 ⊢
 clear hx hz
 go_upto_block 0 with fail
 go_cut [7] from 17 to 53 (fun v wx => v = .int .i64 z ∧ Below w3.heap.size w3 wx)
 case first =>
  obtain ⟨-, k1, k2, k3, -, -, -, k7, k8, k9, -⟩ := HX3.out.cells
  obtain ⟨nm, hnm⟩ : ∃ nm, c.num = nm := ⟨_, rfl⟩
  obtain ⟨pr, hpr⟩ : ∃ pr, c.per = pr := ⟨_, rfl⟩
  obtain ⟨rn, hrn⟩ : ∃ rn, c.run 0 = rn := ⟨_, rfl⟩
  have hwk : workB c = (!(nm == 0) && !(rn == 6)) := by unfold workB; rw [hnm, hrn]
  rw [hwk, hnm, hpr] at HO
  rw [hnm] at k7
  rw [hpr] at k8
  rw [hrn] at k9
  clear hnm hpr hrn hwk
  by_cases hx0 : x = 0
  rotate_left
  ·have hx1 : (x != 0) = true := by simp [hx0]
   have HZ := Lib.hid (HO.out.trans (fstL_nz hx0))
   clear hx0
   go_wp2_with fail
   go_meet
   case rel => exact ⟨by rw [HZ.out], Below.refl _ _⟩
  subst hx0
  have HO1 := Lib.hid (HO.out.trans (fstL_z rfl))
  clear HO
  by_cases hn0 : nm = 0
  ·subst hn0
   have HO2 : Hid (z = F.ae c.K c.A c.L k) := Lib.hid (HO1.out.trans ((fstL_ok (by rfl)).trans ((fstL_ok (by rfl)).trans (by rw [fstL_cons, fstL_last]; by_cases h : F.ae c.K c.A c.L k = 0 <;> simp [h, ifE]))))
   go_wp2_with fail
   refine (Cal.periodAt_ref c.K c.A c.L k _).mono ?_
   rintro e w4 ⟨f, t, er, rfl, hat, hb4⟩
   have HZ := Lib.hid (HO2.out.trans (F.ha _ _ _ _ _ _ _ hat).symm)
   have HB4 := Lib.hid hb4
   have k7' : w4.cell? ⟨w.heap.size, 7, none⟩ = some (.int .i64 0) := (hb4.cell (p := ⟨w.heap.size, 7, none⟩) HX3.out.lt).trans k7
   clear hat hb4 k1 k2 k3 k7 k8 k9
   by_cases he : er = 0
   ·subst he
    go_wp2_with fail
    go_meet
    case rel => exact ⟨by rw [HZ.out], HB4.out⟩
   ·have he1 : (er == 0) = false := by simp [he]
    clear he
    go_wp2_with fail
    go_meet
    case rel => exact ⟨by rw [HZ.out], HB4.out⟩
  have hn1 : (nm != 0) = true := by simp [hn0]
  have hn2 : (nm == 0) = false := by simp [hn0]
  by_cases hr6 : rn = 6
  rotate_left
  ·have hr1 : (rn != 6) = true := by simp [hr6]
   have hr2 : (rn == 6) = false := by simp [hr6]
   have HZ := Lib.hid (HO1.out.trans (fstL_no (by rw [hn2, hr2]; rfl) (by decide)))
   clear hn0 hr6 hn2 hr2
   go_wp2_with fail
   go_meet
   case rel => exact ⟨by rw [HZ.out], Below.refl _ _⟩
  subst hr6
  have HO2 := Lib.hid (HO1.out.trans (fstL_ok (by rw [hn2]; rfl)))
  clear HO1
  by_cases hn9 : nm = 999
  ·subst hn9
   have HZ := Lib.hid (HO2.out.trans (fstL_no (by rfl) (by decide)))
   go_wp2_with fail
   go_meet
   case rel => exact ⟨by rw [HZ.out], Below.refl _ _⟩
  have hn9' : (nm == 999) = false := by simp [hn9]
  have HO3 := Lib.hid (HO2.out.trans (fstL_ok hn9'))
  rw [hn2] at HO3
  clear HO2 hn0 hn9
  go_wp2_with fail
  refine (Cal.periodAt_ref c.K c.A c.L k _).mono ?_
  rintro e w4 ⟨f, t, er, rfl, hat, hb4⟩
  rw [← F.ha _ _ _ _ _ _ _ hat] at HO3
  have HB4 := Lib.hid hb4
  have k7' : w4.cell? ⟨w.heap.size, 7, none⟩ = some (.int .i64 nm) := (hb4.cell (p := ⟨w.heap.size, 7, none⟩) HX3.out.lt).trans k7
  have k8' : w4.cell? ⟨w.heap.size, 8, none⟩ = some (.int .i64 pr) := (hb4.cell (p := ⟨w.heap.size, 8, none⟩) HX3.out.lt).trans k8
  clear hat hb4 k1 k2 k3 k7 k8 k9
  by_cases he : er = 0
  rotate_left
  ·have he1 : (er == 0) = false := by simp [he]
   have HZ := Lib.hid (HO3.out.trans (fstL_nz he))
   clear he
   go_wp2_with fail
   go_meet
   case rel => exact ⟨by rw [HZ.out], HB4.out⟩
  subst he
  have HO4 := Lib.hid (HO3.out.trans ((fstL_z rfl).trans (fstL_last _)))
  cases hl : decide (k < pr)
  ·have HZ : Hid (z = 0) := Lib.hid (HO4.out.trans (by rw [hl]; rfl))
   go_wp2_with fail
   go_meet
   case rel => exact ⟨by rw [HZ.out], HB4.out⟩
  ·have HZ : Hid (z = 10) := Lib.hid (HO4.out.trans (by rw [hl]; rfl))
   go_wp2_with fail
   go_meet
   case rel => exact ⟨by rw [HZ.out], HB4.out⟩
 case rest =>
  obtain ⟨rfl, hbc⟩ := hcut
  have HBC := Lib.hid (HB3.out.trans (hbc.mono HB3.out.size))
  have HXC := Lib.hid (HX3.out.below hbc HX3.out.lt)
  have HEC := Lib.hid (HE3.out.below hbc HE3.out.lt)
  have HFC := Lib.hid (HFR3.out.below hbc)
  clear hbc HB3 HX3 HE3 HFR3 HO
  have HG : Hid ((wc.alloc (.cells #[.int .i64 0, .int .i64 0, .int .i64 0, .int .i64 0, .slice none 0 0, .slice none 0 0, .slice none 0 0, .int .i64 0, .int .i64 0, .int .i64 0, .int .i64 0, .int .i64 0, .int .i64 0, .int .i64 0, .int .i64 0, .int .i64 0, .int .i64 0, .slice none 0 0, .slice none 0 0] 33)).heap[wc.heap.size]? = some (.cells (coA co0 ly0) 33 (0, 0))) := Lib.hid (heap_alloc_new wc (.cells #[.int .i64 0, .int .i64 0, .int .i64 0, .int .i64 0, .slice none 0 0, .slice none 0 0, .slice none 0 0, .int .i64 0, .int .i64 0, .int .i64 0, .int .i64 0, .int .i64 0, .int .i64 0, .int .i64 0, .int .i64 0, .int .i64 0, .int .i64 0, .slice none 0 0, .slice none 0 0] 33))
  go_upto_region 12 with (first | (refine wpList_load_row rfl 33 (.tmp 2) rfl w.heap.size rfl 33 (coA c s) (0, 0) _ HXC.out Tryz.underlying33 rfl (coInfo c s) ?_) | (refine wpList_store_row rfl 33 (.tmp 8) (.tmp 54) rfl wc.heap.size (coA c s) rfl rfl 33 (coA co0 ly0) HG.out (coInfo c s) rfl (coOne c s) ?_))
  rw [World.setRow_alloc_new]
  try dsimp only [Act.put]
  obtain ⟨W, hW, hxw, hbw⟩ : ∃ W, wc.alloc (.cells (coA c s) 33) = W ∧ CBox W wc.heap.size c s ∧ Below wc.heap.size wc W := ⟨_, rfl, CBox.made wc c s, kbelow_box _ _⟩
  rw [hW]
  have hls : W.heap.size = wc.heap.size + 1 := by rw [← hW]; simp
  clear hW HG
  have HXW := Lib.hid hxw
  have HBW := Lib.hid hbw
  obtain ⟨h, hh⟩ : ∃ h, wc.heap.size = h := ⟨_, rfl⟩
  have HHH := Lib.hid hh
  have hg1 : g < h := by rw [← hh]; exact HEC.out.lt
  have hg2 : w.heap.size < h := by rw [← hh]; exact HXC.out.lt
  rw [hh] at HXW HBW hls ⊢
  have HLS := Lib.hid hls
  clear hxw hbw hls hh
  obtain ⟨-, -, -, -, -, -, -, p7, p8, p9, p10, p11, p12, p13, p14, p15, p16, -⟩ := HXW.out.cells
  have f7 := froz_row (w := W) 7 HXW.out
  have f8 := froz_row (w := W) 8 HXW.out
  have f9 := froz_row (w := W) 9 HXW.out
  have f10 := froz_row (w := W) 10 HXW.out
  have f11 := froz_row (w := W) 11 HXW.out
  have f12 := froz_row (w := W) 12 HXW.out
  have f13 := froz_row (w := W) 13 HXW.out
  have f14 := froz_row (w := W) 14 HXW.out
  have f15 := froz_row (w := W) 15 HXW.out
  have f16 := froz_row (w := W) 16 HXW.out
  obtain ⟨v, hvv⟩ : ∃ v, IntKind.i64.wrap (c.num + 1) = v := ⟨_, rfl⟩
  have HWV := Lib.hid hvv
  have hws := want_sets (W := W) (g := h) v k HXW.out
  have HWX := Lib.hid hws.1
  have HWB := Lib.hid hws.2
  clear hws
  go_upto_region 14 with fail
  have HBN := Lib.hid (HBC.out.trans ((HBW.out.trans HWB.out).mono (Nat.le_of_lt hg2)))
  have HEN := Lib.hid (HEC.out.below (HBW.out.trans HWB.out) hg1)
  have HFN := Lib.hid (HFC.out.below (by rw [HHH.out]; exact HBW.out.trans HWB.out))
  clear HBC HXC HEC HFC HXW HBW HWB p7 p8 p9 p10 p11 p12 p13 p14 p15 p16 f7 f8 f9 f10 f11 f12 f13 f14 f15 f16 hvv
  go_wp2_with fail
  refine (houseBegun_any F _ (HV.out.below HBN.out)).mono ?_
  rintro e w5 ⟨rfl, hb5⟩
  have HB5 := Lib.hid (HBN.out.trans (hb5.mono HBN.out.size))
  have HE5 := Lib.hid (HEN.out.below hb5 HEN.out.lt)
  have HX5 := Lib.hid (HWX.out.below hb5 HWX.out.lt)
  have HF5 := Lib.hid (HFN.out.below hb5)
  clear hb5 HBN HEN HFN HWX
  go_wp2_with (first | (refine wpList_load_row_g (by rfl) 33 (.tmp 5) rfl g rfl 33 (coA cr sr) (0, 0) _ HE5.out Tryz.underlying33 rfl (coInfo cr sr) ?_) | (refine wpList_load_row_g (by rfl) 33 (.tmp 8) rfl h rfl 33 (coA { c with num := v, per := k, run := fun _ => 0 } s) (0, 0) _ HX5.out Tryz.underlying33 rfl (coInfo { c with num := v, per := k, run := fun _ => 0 } s) ?_))
  refine (companyIs_yes cr { c with num := v, per := k, run := fun _ => 0 } sr s z w5 HR1.out (fun hz => ?_)).mono ?_
  ·have hr := HRG.out hz
   have hn := hr.num
   have hv1 : v = c.num + 1 := HWV.out.symm.trans (IntWalk.i64_in _ (by omega))
   have e : cr = { c with num := v, per := k, run := fun _ => 0 } := by rw [HR2.out hz, hv1]; rfl
   have hcs := HC.out.below HB5.out
   have hvw : (Lit.int .i64 v).wf = true := by
    have h1 : IntKind.i64.min = -9223372036854775808 := by decide
    have h2 : IntKind.i64.max = 9223372036854775807 := by decide
    simp only [Lit.wf, Bool.and_eq_true, decide_eq_true_eq]
    rw [h1, h2]
    omega
   refine ⟨e, HF5.out, ⟨hcs.l, hcs.t, hcs.p, hcs.z, hcs.j, hcs.nl, hcs.nt, hcs.np, hcs.nz, hcs.nj, hcs.ml, hcs.mt, hcs.mp, hcs.mz, hcs.mj, hcs.wf.1, hcs.wf.2.1, hcs.wf.2.2.1, hcs.wf.2.2.2.1, hvw, HWK.out, fun j hj => by show (Lit.int .i64 0).wf = true; decide⟩, ?_, ?_⟩
   ·rw [e]; exact hr.few.1
   ·rw [e]; exact hr.few.2
  ·rintro e w6 ⟨rfl, hb6⟩
   have HB6 := Lib.hid (HB5.out.trans (hb6.mono HB5.out.size))
   clear hb6
   go_wp2_with fail
   go_ret
   exact ⟨rfl, HB6.out⟩
end Go.Proofs.YtkalfdjmklakdaaGreatDoor
