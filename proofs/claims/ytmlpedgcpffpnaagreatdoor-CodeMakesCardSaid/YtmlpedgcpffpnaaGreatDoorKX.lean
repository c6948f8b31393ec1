/-
  Promise I1: the reference's ValueOf: if.
  Promise I1: the reference's ValueOf, over whatever right expression; what lines come to is money.
  Promise I1: the walk of the reference's ValueLines.
-/
import Derived.Test.YtmlpedgcpffpnaaGreatDoorKW
import Derived.Deep.RegionHeldLaw
import Derived.Test.YtmlpedgcpffpnaaGreatDoorKV
import Derived.Test.YtmlpedgcpffpnaaGreatDoorKE
set_option linter.unusedSimpArgs false
namespace Go.Proofs.YtmlpedgcpffpnaaGreatDoor
open Go.RowKit Go.Maps Go.WideMaps Go.Lib Go.Sort
set_option maxRecDepth 100000 in
set_option maxHeartbeats 8000000 in
theorem val_13 (l : List Ln) (kn : Kn) (vs : List Int) (n : Int) (s : ByteArray) (kid : Nat → Ex) (hkid : ∀ j, j < 4 → ValIs l kn vs (kid j)) (hmon : ∀ j, j < 4 → ∀ v, (kid j).val l kn vs = some v → monB v = true) (hn1 : 1 ≤ n) (hn3 : n ≤ 3) : ValIs l kn vs (.mk 13 n s 4 kid) := by
 have HKID4 := Lib.hid hkid
 have HKID : Hid (∀ j, j < 2 → ValIs l kn vs (kid j)) := Lib.hid (fun j hj => hkid j (by omega))
 have HMON : Hid (∀ j, j < 2 → ∀ v, (kid j).val l kn vs = some v → monB v = true) := Lib.hid (fun j hj => hmon j (by omega))
 have HNONE : Hid (∀ j, j < 2 → (kid j).val l kn vs = none → (∀ q, q < j → (kid q).val l kn vs = some (kvN l kn vs kid q)) → (Ex.mk 13 n s 4 kid).val l kn vs = none) := Lib.hid (fun j hj h0 hq => by
  rw [Ex.val]
  by_cases e : j = 0
  ·subst e; simp [h0]
  ·obtain rfl : j = 1 := by omega
   simp [h0, hq 0 (by omega)])
 have HSOME : Hid (∀ v u, (kid 0).val l kn vs = some v → (kid 1).val l kn vs = some u → (Ex.mk 13 n s 4 kid).val l kn vs = if holdB n v u = true then (kid 2).val l kn vs else (kid 3).val l kn vs) := Lib.hid (fun v u hv hu => by
  rw [Ex.val]
  simp [hv, hu])
 clear hkid hmon
 intro a al av a1 a2 a3 c nl cl nv cv n1 c1 n2 c2 n3 c3 w hin hk
 show Calls Tryz.prog 40 #[.agg #[.int .i64 13, .int .i64 n, .string s, .slice a (4 : Nat) c], .slice al nl cl, .slice av nv cv, .agg #[.slice a1 n1 c1, .slice a2 n2 c2, .slice a3 n3 c3]] w _
 have HBA := Lib.hid (kbelow_box w (.cells #[.int .i64 13, .int .i64 n, .string s, .slice a (4 : Nat) c] 50))
 have HXA := Lib.hid (XBox.made w 13 n s a 4 c 50)
 have hszA : (w.alloc (.cells #[.int .i64 13, .int .i64 n, .string s, .slice a (4 : Nat) c] 50)).heap.size = w.heap.size + 1 := by simp
 have HBB := Lib.hid (kbelow_box (w.alloc (.cells #[.int .i64 13, .int .i64 n, .string s, .slice a (4 : Nat) c] 50)) (.cells #[.slice a1 n1 c1, .slice a2 n2 c2, .slice a3 n3 c3] 26))
 have HK0 := Lib.hid (KAt.made (w.alloc (.cells #[.int .i64 13, .int .i64 n, .string s, .slice a (4 : Nat) c] 50)) (.slice a1 n1 c1) (.slice a2 n2 c2) (.slice a3 n3 c3) 26)
 rw [hszA] at HK0
 have HX0 := Lib.hid (HXA.out.below HBB.out)
 have HB0 := Lib.hid (HBA.out.trans (HBB.out.mono HBA.out.size))
 have HIN := Lib.hid (hin.below HB0.out)
 have HNM := Lib.hid (show s.size ≤ maxLen from hk.name)
 have HKD := Lib.hid (hk.below HB0.out)
 clear hin hk HBA HXA HBB hszA
 go_enter Tryz.func40, Tryz.ntmps40
 go_wp2_with fail
 generalize ((w.alloc (.cells #[.int .i64 13, .int .i64 n, .string s, .slice a (4 : Nat) c] 50)).alloc (.cells #[.slice a1 n1 c1, .slice a2 n2 c2, .slice a3 n3 c3] 26)) = W at *
 go_loopw [10, 11] (fun v i wr => ∃ j : Nat, j ≤ 2 ∧ i = .int .i64 j ∧ Grow wr W.heap.size v (kvL l kn vs kid j) ∧ (∀ q, q < j → (kid q).val l kn vs = some (kvN l kn vs kid q)) ∧ Below W.heap.size W wr) (fun _ i _ => 2 - (RowKit.intOf i).toNat)
 case atStart => exact ⟨0, Nat.zero_le _, rfl, Grow.nil _ _, fun q hq => by omega, Below.refl _ _⟩
 case round =>
  obtain ⟨j, hj, rfl, hgr, hvq, hb⟩ := hrel
  have HG := Lib.hid hgr
  have HVQ := Lib.hid hvq
  have HB := Lib.hid hb
  have HXr := Lib.hid (HX0.out.below hb)
  have HKr := Lib.hid (KAt.below HK0.out hb)
  have HINr := Lib.hid (HIN.out.below hb)
  have HBr := Lib.hid (HB0.out.trans (hb.mono HB0.out.size))
  obtain ⟨_, x0, x1, x2, x3⟩ := HXr.out
  obtain ⟨_, k0, k1, k2⟩ := HKr.out
  clear hgr hvq hb
  by_cases hlt : j < 2
  ·have hltM : (j : Int) < (4 : Int) := by omega
   have hlt2 : (j : Int) < (2 : Int) := by omega
   obtain ⟨b, off, rfl, hcell⟩ := HKD.out.open (show 0 < 4 by omega)
   obtain ⟨aj, cj, ⟨y0, y1, y2, y3⟩, hkj⟩ := hcell wr HB.out j (show j < 4 by omega)
   have y0' : wr.cell? ⟨b, off + j * 4, none⟩ = some (.int .i64 (kid j).k) := y0
   have y1' : wr.cell? ⟨b, off + j * 4 + 1, none⟩ = some (.int .i64 (kid j).n) := y1
   have y2' : wr.cell? ⟨b, off + j * 4 + 2, none⟩ = some (.string (kid j).s) := y2
   have y3' : wr.cell? ⟨b, off + j * 4 + 3, none⟩ = some (.slice aj (kid j).m cj) := y3
   have HKJ : Hid (∀ W', Below wr.heap.size wr W' → Calls Tryz.prog 40 #[.agg #[.int .i64 (kid j).k, .int .i64 (kid j).n, .string (kid j).s, .slice aj (kid j).m cj], .slice al nl cl, .slice av nv cv, .agg #[.slice a1 n1 c1, .slice a2 n2 c2, .slice a3 n3 c3]] W' fun e w' => (∃ (z : Int) (b : Bool), e = .returned (.tuple #[.int .i64 z, .bool b]) ∧ OkIs ((kid j).val l kn vs) z b) ∧ Below W'.heap.size W' w') := fun W' hb' => HKID.out j (by omega) aj al av a1 a2 a3 cj nl cl nv cv n1 c1 n2 c2 n3 c3 W' (HINr.out.below hb') (KidsAt.below hb' hkj)
   clear y0 y1 y2 y3 hcell hkj
   generalize hok0 : (kid j).k = kk at *
   generalize hok1 : (kid j).n = kn' at *
   generalize hok2 : (kid j).s = ks at *
   generalize hok3 : (kid j).m = km at *
   clear hok0 hok1 hok2 hok3
   go_wp2_with fail
   go_region_held_law (fun w' => w'.cell? ⟨w.heap.size, 3, none⟩ = some (.slice (some ⟨b, off, none⟩) 4 c) ∧ w'.cell? ⟨b, off + j * 4, none⟩ = some (.int .i64 kk) ∧ w'.cell? ⟨b, off + j * 4 + 1, none⟩ = some (.int .i64 kn') ∧ w'.cell? ⟨b, off + j * 4 + 2, none⟩ = some (.string ks) ∧ w'.cell? ⟨b, off + j * 4 + 3, none⟩ = some (.slice aj km cj) ∧ w'.cell? ⟨w.heap.size + 1, 0, none⟩ = some (.slice a1 n1 c1) ∧ w'.cell? ⟨w.heap.size + 1, 1, none⟩ = some (.slice a2 n2 c2) ∧ w'.cell? ⟨w.heap.size + 1, 2, none⟩ = some (.slice a3 n3 c3)) (go_keep)
    (first
     | (go_at_call 40; refine (HKJ.out _ (kbelow_dN (Below.refl _ _) 1)).mono ?_; rintro e w1 ⟨⟨z, ok, rfl, hok⟩, hb1⟩
        have HB1' := Lib.hid (nfrom_drew hb1)
        have HB1 := Lib.hid (HB.out.trans ((nfrom_drew hb1).mono HB.out.size))
        have HOK := Lib.hid hok
        have r0 := (HB1'.out.cell (p := ⟨w.heap.size, 3, none⟩) (blt_of_cell x3)).trans x3
        have r1 := (HB1'.out.cell (p := ⟨b, off + j * 4, none⟩) (blt_of_cell y0')).trans y0'
        have r2 := (HB1'.out.cell (p := ⟨b, off + j * 4 + 1, none⟩) (blt_of_cell y1')).trans y1'
        have r3 := (HB1'.out.cell (p := ⟨b, off + j * 4 + 2, none⟩) (blt_of_cell y2')).trans y2'
        have r4 := (HB1'.out.cell (p := ⟨b, off + j * 4 + 3, none⟩) (blt_of_cell y3')).trans y3'
        have r5 := (HB1'.out.cell (p := ⟨w.heap.size + 1, 0, none⟩) (blt_of_cell k0)).trans k0
        have r6 := (HB1'.out.cell (p := ⟨w.heap.size + 1, 1, none⟩) (blt_of_cell k1)).trans k1
        have r7 := (HB1'.out.cell (p := ⟨w.heap.size + 1, 2, none⟩) (blt_of_cell k2)).trans k2
        clear hok hb1))
   have HGW := Lib.hid (rvgrow_below HG.out HB1'.out)
   have HBE := Lib.hid (HB0.out.trans (HB1.out.mono HB0.out.size))
   clear r0 r1 r2 r3 r4 r5 r6 r7 x0 x1 x2 x3 k0 k1 k2 y0' y1' y2' y3' HKJ
   rcases HOK.out with ⟨hno, rfl⟩ | ⟨hso, rfl⟩
   ·have HNO : Hid ((Ex.mk 13 n s 4 kid).val l kn vs = none) := Lib.hid (HNONE.out j hlt hno HVQ.out)
    clear hno
    go_wp2_with fail
    refine bodyPost_ret (v := .tuple #[.int .i64 (0), .bool (false)]) (by simp [results, Tryz.results40, go_sem] <;> rfl) rfl ?_
    exact ⟨⟨_, _, rfl, .inl ⟨HNO.out, rfl⟩⟩, HBE.out⟩
   ·have HSO := Lib.hid hso
    have HKV := Lib.hid (kvN_of hso)
    clear hso
    have hW1 : W.heap.size ≤ w1.heap.size := HB1.out.size
    have HBX := Lib.hid (kbelow_box w1 (.cells #[.int .i64 z] 3))
    have HGX := Lib.hid (rvgrow_below HGW.out HBX.out)
    have HBY := Lib.hid (HB1.out.trans (HBX.out.mono HB1.out.size))
    have hlen : (kvL l kn vs kid j).length ≤ 1000000000 := by rw [kvL_len]; omega
    go_wp2_with (at_builtin; refine wpList_app _ rfl _ _ rfl W.heap.size _ (kvL l kn vs kid j) rfl HGX.out ⟨w1.heap.size, 0, none⟩ 1 z rfl (by simp) hlen HBY.out.size ?_; intro v9 w9 hg9 hgr9 hd9 hs9; refine Hid.out ?_)
    have HG9 := Lib.hid hg9
    have HB9 := Lib.hid (HBY.out.grown hgr9 HBY.out.size fun k hk => (HGX.out.lt k hk).1)
    clear hg9 hgr9 hd9 hs9
    unfold Hid
    go_wp2_with fail
    go_roundw
    case rel => exact ⟨j + 1, by omega, by go_num, by rw [kvL_succ, HKV.out]; exact HG9.out, fun q hq => by
     by_cases e : q = j
     ·subst e; rw [HKV.out]; exact HSO.out
     ·exact HVQ.out q (by omega), HB9.out⟩
    case measure => simp [RowKit.intOf]; omega
  ·obtain rfl : j = 2 := by omega
   obtain ⟨g, cg, rfl, _, hog⟩ := HG.out.own (by rw [kvL_len]; omega)
   rw [kvL_len]
   have g0 := hog.cell (j := 0) (by rw [kvL_len]; omega)
   have g1 := hog.cell (j := 1) (by rw [kvL_len]; omega)
   rw [kvL_at l kn vs kid (by omega)] at g0 g1
   have HV0 := Lib.hid (HVQ.out 0 (by omega))
   have HV1 := Lib.hid (HVQ.out 1 (by omega))
   have hb0 := monB_iff.1 (HMON.out 0 (by omega) _ HV0.out)
   have hb1 := monB_iff.1 (HMON.out 1 (by omega) _ HV1.out)
   obtain ⟨v0, hv0⟩ : ∃ v0, kvN l kn vs kid 0 = v0 := ⟨_, rfl⟩
   obtain ⟨v1, hv1⟩ : ∃ v1, kvN l kn vs kid 1 = v1 := ⟨_, rfl⟩
   rw [hv0] at g0 HV0 hb0
   rw [hv1] at g1 HV1 hb1
   clear hog hv0 hv1
   have hn3 : n = 1 ∨ n = 2 ∨ n = 3 := by omega
   rcases hn3 with rfl | rfl | rfl
   ·by_cases hh : v0 < v1
    ·have hd : decide (v0 < v1) = true := decide_eq_true hh
     have HHO : Hid (holdB 1 v0 v1 = true) := hd
     go_wp2_with fail
     have t0 := cell_regrown g0
     have t1 := cell_regrown g1
     have t2 := cell_regrown x1
     refine wp_region_quiet_below (by kernel_rfl) (by kernel_rfl) ?_
     repeat (go_big_quiet_step (fail))
     refine wpQuiet_nil ?_
     intro _ hw'
     obtain ⟨⟨dq, osq⟩, hw''⟩ := hw'
     subst hw''
     have HBN := Lib.hid (HBr.out.trans ((below_regrown wr dq osq).mono HBr.out.size))
     obtain ⟨b, off, rfl, hcell⟩ := HKD.out.open (show 0 < 4 by omega)
     have HBW := Lib.hid (HB.out.trans ((below_regrown wr dq osq).mono HB.out.size))
     generalize hwn : grow (redrawn wr dq) osq = wn at *
     obtain ⟨aj, cj, ⟨y0, y1, y2, y3⟩, hkj⟩ := hcell wn HBW.out 2 (show 2 < 4 by omega)
     have y0' : wn.cell? ⟨b, off + 8, none⟩ = some (.int .i64 (kid 2).k) := y0
     have y1' : wn.cell? ⟨b, off + 9, none⟩ = some (.int .i64 (kid 2).n) := y1
     have y2' : wn.cell? ⟨b, off + 10, none⟩ = some (.string (kid 2).s) := y2
     have y3' : wn.cell? ⟨b, off + 11, none⟩ = some (.slice aj (kid 2).m cj) := y3
     have HINn := Lib.hid (HIN.out.below HBW.out)
     obtain ⟨_, x0n, x1n, x2n, x3n⟩ := HX0.out.below HBW.out
     obtain ⟨_, k0n, k1n, k2n⟩ := KAt.below HK0.out HBW.out
     have HKJ : Hid (∀ W', Below wn.heap.size wn W' → Calls Tryz.prog 40 #[.agg #[.int .i64 (kid 2).k, .int .i64 (kid 2).n, .string (kid 2).s, .slice aj (kid 2).m cj], .slice al nl cl, .slice av nv cv, .agg #[.slice a1 n1 c1, .slice a2 n2 c2, .slice a3 n3 c3]] W' fun e w' => (∃ (z : Int) (b : Bool), e = .returned (.tuple #[.int .i64 z, .bool b]) ∧ OkIs ((kid 2).val l kn vs) z b) ∧ Below W'.heap.size W' w') := fun W' hb' => HKID4.out 2 (by omega) aj al av a1 a2 a3 cj nl cl nv cv n1 c1 n2 c2 n3 c3 W' (HINn.out.below hb') (KidsAt.below hb' hkj)
     clear y0 y1 y2 y3 hcell hkj hwn x0 x1 x2 x3 k0 k1 k2 g0 g1 t0 t1 t2
     generalize hok0 : (kid 2).k = kk at *
     generalize hok1 : (kid 2).n = kn' at *
     generalize hok2 : (kid 2).s = ks at *
     generalize hok3 : (kid 2).m = km at *
     clear hok0 hok1 hok2 hok3
     go_wp2_with fail
     go_region_held_law (fun w' => w'.cell? ⟨w.heap.size, 3, none⟩ = some (.slice (some ⟨b, off, none⟩) 4 c) ∧ w'.cell? ⟨b, off + 8, none⟩ = some (.int .i64 kk) ∧ w'.cell? ⟨b, off + 9, none⟩ = some (.int .i64 kn') ∧ w'.cell? ⟨b, off + 10, none⟩ = some (.string ks) ∧ w'.cell? ⟨b, off + 11, none⟩ = some (.slice aj km cj) ∧ w'.cell? ⟨w.heap.size + 1, 0, none⟩ = some (.slice a1 n1 c1) ∧ w'.cell? ⟨w.heap.size + 1, 1, none⟩ = some (.slice a2 n2 c2) ∧ w'.cell? ⟨w.heap.size + 1, 2, none⟩ = some (.slice a3 n3 c3)) (go_keep)
      (first
       | (go_at_call 40; refine (HKJ.out _ (kbelow_dN (Below.refl _ _) 1)).mono ?_; rintro e w1 ⟨⟨z, ok, rfl, hok⟩, hb1⟩
          have HB1' := Lib.hid (nfrom_drew hb1)
          have HB1 := Lib.hid (HBN.out.trans ((nfrom_drew hb1).mono HBN.out.size))
          have HOK := Lib.hid hok
          have r0 := (HB1'.out.cell (p := ⟨w.heap.size, 3, none⟩) (blt_of_cell x3n)).trans x3n
          have r1 := (HB1'.out.cell (p := ⟨b, off + 8, none⟩) (blt_of_cell y0')).trans y0'
          have r2 := (HB1'.out.cell (p := ⟨b, off + 9, none⟩) (blt_of_cell y1')).trans y1'
          have r3 := (HB1'.out.cell (p := ⟨b, off + 10, none⟩) (blt_of_cell y2')).trans y2'
          have r4 := (HB1'.out.cell (p := ⟨b, off + 11, none⟩) (blt_of_cell y3')).trans y3'
          have r5 := (HB1'.out.cell (p := ⟨w.heap.size + 1, 0, none⟩) (blt_of_cell k0n)).trans k0n
          have r6 := (HB1'.out.cell (p := ⟨w.heap.size + 1, 1, none⟩) (blt_of_cell k1n)).trans k1n
          have r7 := (HB1'.out.cell (p := ⟨w.heap.size + 1, 2, none⟩) (blt_of_cell k2n)).trans k2n
          clear hok hb1))
     go_wp2_with fail
     refine bodyPost_ret (v := .tuple #[.int .i64 (z), .bool (ok)]) (by simp [results, Tryz.results40, go_sem] <;> rfl) rfl ?_
     exact ⟨⟨_, _, rfl, by rw [HSOME.out _ _ HV0.out HV1.out, HHO.out]; exact HOK.out⟩, HB1.out⟩
    ·have hd : decide (v0 < v1) = false := decide_eq_false hh
     have HHO : Hid (holdB 1 v0 v1 = false) := hd
     go_wp2_with fail
     have t0 := cell_regrown g0
     have t1 := cell_regrown g1
     have t2 := cell_regrown x1
     refine wp_region_quiet_below (by kernel_rfl) (by kernel_rfl) ?_
     repeat (go_big_quiet_step (fail))
     refine wpQuiet_nil ?_
     intro _ hw'
     obtain ⟨⟨dq, osq⟩, hw''⟩ := hw'
     subst hw''
     have HBN := Lib.hid (HBr.out.trans ((below_regrown wr dq osq).mono HBr.out.size))
     obtain ⟨b, off, rfl, hcell⟩ := HKD.out.open (show 0 < 4 by omega)
     have HBW := Lib.hid (HB.out.trans ((below_regrown wr dq osq).mono HB.out.size))
     generalize hwn : grow (redrawn wr dq) osq = wn at *
     obtain ⟨aj, cj, ⟨y0, y1, y2, y3⟩, hkj⟩ := hcell wn HBW.out 3 (show 3 < 4 by omega)
     have y0' : wn.cell? ⟨b, off + 12, none⟩ = some (.int .i64 (kid 3).k) := y0
     have y1' : wn.cell? ⟨b, off + 13, none⟩ = some (.int .i64 (kid 3).n) := y1
     have y2' : wn.cell? ⟨b, off + 14, none⟩ = some (.string (kid 3).s) := y2
     have y3' : wn.cell? ⟨b, off + 15, none⟩ = some (.slice aj (kid 3).m cj) := y3
     have HINn := Lib.hid (HIN.out.below HBW.out)
     obtain ⟨_, x0n, x1n, x2n, x3n⟩ := HX0.out.below HBW.out
     obtain ⟨_, k0n, k1n, k2n⟩ := KAt.below HK0.out HBW.out
     have HKJ : Hid (∀ W', Below wn.heap.size wn W' → Calls Tryz.prog 40 #[.agg #[.int .i64 (kid 3).k, .int .i64 (kid 3).n, .string (kid 3).s, .slice aj (kid 3).m cj], .slice al nl cl, .slice av nv cv, .agg #[.slice a1 n1 c1, .slice a2 n2 c2, .slice a3 n3 c3]] W' fun e w' => (∃ (z : Int) (b : Bool), e = .returned (.tuple #[.int .i64 z, .bool b]) ∧ OkIs ((kid 3).val l kn vs) z b) ∧ Below W'.heap.size W' w') := fun W' hb' => HKID4.out 3 (by omega) aj al av a1 a2 a3 cj nl cl nv cv n1 c1 n2 c2 n3 c3 W' (HINn.out.below hb') (KidsAt.below hb' hkj)
     clear y0 y1 y2 y3 hcell hkj hwn x0 x1 x2 x3 k0 k1 k2 g0 g1 t0 t1 t2
     generalize hok0 : (kid 3).k = kk at *
     generalize hok1 : (kid 3).n = kn' at *
     generalize hok2 : (kid 3).s = ks at *
     generalize hok3 : (kid 3).m = km at *
     clear hok0 hok1 hok2 hok3
     go_wp2_with fail
     go_region_held_law (fun w' => w'.cell? ⟨w.heap.size, 3, none⟩ = some (.slice (some ⟨b, off, none⟩) 4 c) ∧ w'.cell? ⟨b, off + 12, none⟩ = some (.int .i64 kk) ∧ w'.cell? ⟨b, off + 13, none⟩ = some (.int .i64 kn') ∧ w'.cell? ⟨b, off + 14, none⟩ = some (.string ks) ∧ w'.cell? ⟨b, off + 15, none⟩ = some (.slice aj km cj) ∧ w'.cell? ⟨w.heap.size + 1, 0, none⟩ = some (.slice a1 n1 c1) ∧ w'.cell? ⟨w.heap.size + 1, 1, none⟩ = some (.slice a2 n2 c2) ∧ w'.cell? ⟨w.heap.size + 1, 2, none⟩ = some (.slice a3 n3 c3)) (go_keep)
      (first
       | (go_at_call 40; refine (HKJ.out _ (kbelow_dN (Below.refl _ _) 1)).mono ?_; rintro e w1 ⟨⟨z, ok, rfl, hok⟩, hb1⟩
          have HB1' := Lib.hid (nfrom_drew hb1)
          have HB1 := Lib.hid (HBN.out.trans ((nfrom_drew hb1).mono HBN.out.size))
          have HOK := Lib.hid hok
          have r0 := (HB1'.out.cell (p := ⟨w.heap.size, 3, none⟩) (blt_of_cell x3n)).trans x3n
          have r1 := (HB1'.out.cell (p := ⟨b, off + 12, none⟩) (blt_of_cell y0')).trans y0'
          have r2 := (HB1'.out.cell (p := ⟨b, off + 13, none⟩) (blt_of_cell y1')).trans y1'
          have r3 := (HB1'.out.cell (p := ⟨b, off + 14, none⟩) (blt_of_cell y2')).trans y2'
          have r4 := (HB1'.out.cell (p := ⟨b, off + 15, none⟩) (blt_of_cell y3')).trans y3'
          have r5 := (HB1'.out.cell (p := ⟨w.heap.size + 1, 0, none⟩) (blt_of_cell k0n)).trans k0n
          have r6 := (HB1'.out.cell (p := ⟨w.heap.size + 1, 1, none⟩) (blt_of_cell k1n)).trans k1n
          have r7 := (HB1'.out.cell (p := ⟨w.heap.size + 1, 2, none⟩) (blt_of_cell k2n)).trans k2n
          clear hok hb1))
     go_wp2_with fail
     refine bodyPost_ret (v := .tuple #[.int .i64 (z), .bool (ok)]) (by simp [results, Tryz.results40, go_sem] <;> rfl) rfl ?_
     exact ⟨⟨_, _, rfl, by rw [HSOME.out _ _ HV0.out HV1.out, HHO.out]; exact HOK.out⟩, HB1.out⟩
   ·by_cases hh : v0 ≤ v1
    ·have hd : decide (v0 ≤ v1) = true := decide_eq_true hh
     have HHO : Hid (holdB 2 v0 v1 = true) := hd
     go_wp2_with fail
     have t0 := cell_regrown g0
     have t1 := cell_regrown g1
     have t2 := cell_regrown x1
     refine wp_region_quiet_below (by kernel_rfl) (by kernel_rfl) ?_
     repeat (go_big_quiet_step (fail))
     refine wpQuiet_nil ?_
     intro _ hw'
     obtain ⟨⟨dq, osq⟩, hw''⟩ := hw'
     subst hw''
     have HBN := Lib.hid (HBr.out.trans ((below_regrown wr dq osq).mono HBr.out.size))
     obtain ⟨b, off, rfl, hcell⟩ := HKD.out.open (show 0 < 4 by omega)
     have HBW := Lib.hid (HB.out.trans ((below_regrown wr dq osq).mono HB.out.size))
     generalize hwn : grow (redrawn wr dq) osq = wn at *
     obtain ⟨aj, cj, ⟨y0, y1, y2, y3⟩, hkj⟩ := hcell wn HBW.out 2 (show 2 < 4 by omega)
     have y0' : wn.cell? ⟨b, off + 8, none⟩ = some (.int .i64 (kid 2).k) := y0
     have y1' : wn.cell? ⟨b, off + 9, none⟩ = some (.int .i64 (kid 2).n) := y1
     have y2' : wn.cell? ⟨b, off + 10, none⟩ = some (.string (kid 2).s) := y2
     have y3' : wn.cell? ⟨b, off + 11, none⟩ = some (.slice aj (kid 2).m cj) := y3
     have HINn := Lib.hid (HIN.out.below HBW.out)
     obtain ⟨_, x0n, x1n, x2n, x3n⟩ := HX0.out.below HBW.out
     obtain ⟨_, k0n, k1n, k2n⟩ := KAt.below HK0.out HBW.out
     have HKJ : Hid (∀ W', Below wn.heap.size wn W' → Calls Tryz.prog 40 #[.agg #[.int .i64 (kid 2).k, .int .i64 (kid 2).n, .string (kid 2).s, .slice aj (kid 2).m cj], .slice al nl cl, .slice av nv cv, .agg #[.slice a1 n1 c1, .slice a2 n2 c2, .slice a3 n3 c3]] W' fun e w' => (∃ (z : Int) (b : Bool), e = .returned (.tuple #[.int .i64 z, .bool b]) ∧ OkIs ((kid 2).val l kn vs) z b) ∧ Below W'.heap.size W' w') := fun W' hb' => HKID4.out 2 (by omega) aj al av a1 a2 a3 cj nl cl nv cv n1 c1 n2 c2 n3 c3 W' (HINn.out.below hb') (KidsAt.below hb' hkj)
     clear y0 y1 y2 y3 hcell hkj hwn x0 x1 x2 x3 k0 k1 k2 g0 g1 t0 t1 t2
     generalize hok0 : (kid 2).k = kk at *
     generalize hok1 : (kid 2).n = kn' at *
     generalize hok2 : (kid 2).s = ks at *
     generalize hok3 : (kid 2).m = km at *
     clear hok0 hok1 hok2 hok3
     go_wp2_with fail
     go_region_held_law (fun w' => w'.cell? ⟨w.heap.size, 3, none⟩ = some (.slice (some ⟨b, off, none⟩) 4 c) ∧ w'.cell? ⟨b, off + 8, none⟩ = some (.int .i64 kk) ∧ w'.cell? ⟨b, off + 9, none⟩ = some (.int .i64 kn') ∧ w'.cell? ⟨b, off + 10, none⟩ = some (.string ks) ∧ w'.cell? ⟨b, off + 11, none⟩ = some (.slice aj km cj) ∧ w'.cell? ⟨w.heap.size + 1, 0, none⟩ = some (.slice a1 n1 c1) ∧ w'.cell? ⟨w.heap.size + 1, 1, none⟩ = some (.slice a2 n2 c2) ∧ w'.cell? ⟨w.heap.size + 1, 2, none⟩ = some (.slice a3 n3 c3)) (go_keep)
      (first
       | (go_at_call 40; refine (HKJ.out _ (kbelow_dN (Below.refl _ _) 1)).mono ?_; rintro e w1 ⟨⟨z, ok, rfl, hok⟩, hb1⟩
          have HB1' := Lib.hid (nfrom_drew hb1)
          have HB1 := Lib.hid (HBN.out.trans ((nfrom_drew hb1).mono HBN.out.size))
          have HOK := Lib.hid hok
          have r0 := (HB1'.out.cell (p := ⟨w.heap.size, 3, none⟩) (blt_of_cell x3n)).trans x3n
          have r1 := (HB1'.out.cell (p := ⟨b, off + 8, none⟩) (blt_of_cell y0')).trans y0'
          have r2 := (HB1'.out.cell (p := ⟨b, off + 9, none⟩) (blt_of_cell y1')).trans y1'
          have r3 := (HB1'.out.cell (p := ⟨b, off + 10, none⟩) (blt_of_cell y2')).trans y2'
          have r4 := (HB1'.out.cell (p := ⟨b, off + 11, none⟩) (blt_of_cell y3')).trans y3'
          have r5 := (HB1'.out.cell (p := ⟨w.heap.size + 1, 0, none⟩) (blt_of_cell k0n)).trans k0n
          have r6 := (HB1'.out.cell (p := ⟨w.heap.size + 1, 1, none⟩) (blt_of_cell k1n)).trans k1n
          have r7 := (HB1'.out.cell (p := ⟨w.heap.size + 1, 2, none⟩) (blt_of_cell k2n)).trans k2n
          clear hok hb1))
     go_wp2_with fail
     refine bodyPost_ret (v := .tuple #[.int .i64 (z), .bool (ok)]) (by simp [results, Tryz.results40, go_sem] <;> rfl) rfl ?_
     exact ⟨⟨_, _, rfl, by rw [HSOME.out _ _ HV0.out HV1.out, HHO.out]; exact HOK.out⟩, HB1.out⟩
    ·have hd : decide (v0 ≤ v1) = false := decide_eq_false hh
     have HHO : Hid (holdB 2 v0 v1 = false) := hd
     go_wp2_with fail
     have t0 := cell_regrown g0
     have t1 := cell_regrown g1
     have t2 := cell_regrown x1
     refine wp_region_quiet_below (by kernel_rfl) (by kernel_rfl) ?_
     repeat (go_big_quiet_step (fail))
     refine wpQuiet_nil ?_
     intro _ hw'
     obtain ⟨⟨dq, osq⟩, hw''⟩ := hw'
     subst hw''
     have HBN := Lib.hid (HBr.out.trans ((below_regrown wr dq osq).mono HBr.out.size))
     obtain ⟨b, off, rfl, hcell⟩ := HKD.out.open (show 0 < 4 by omega)
     have HBW := Lib.hid (HB.out.trans ((below_regrown wr dq osq).mono HB.out.size))
     generalize hwn : grow (redrawn wr dq) osq = wn at *
     obtain ⟨aj, cj, ⟨y0, y1, y2, y3⟩, hkj⟩ := hcell wn HBW.out 3 (show 3 < 4 by omega)
     have y0' : wn.cell? ⟨b, off + 12, none⟩ = some (.int .i64 (kid 3).k) := y0
     have y1' : wn.cell? ⟨b, off + 13, none⟩ = some (.int .i64 (kid 3).n) := y1
     have y2' : wn.cell? ⟨b, off + 14, none⟩ = some (.string (kid 3).s) := y2
     have y3' : wn.cell? ⟨b, off + 15, none⟩ = some (.slice aj (kid 3).m cj) := y3
     have HINn := Lib.hid (HIN.out.below HBW.out)
     obtain ⟨_, x0n, x1n, x2n, x3n⟩ := HX0.out.below HBW.out
     obtain ⟨_, k0n, k1n, k2n⟩ := KAt.below HK0.out HBW.out
     have HKJ : Hid (∀ W', Below wn.heap.size wn W' → Calls Tryz.prog 40 #[.agg #[.int .i64 (kid 3).k, .int .i64 (kid 3).n, .string (kid 3).s, .slice aj (kid 3).m cj], .slice al nl cl, .slice av nv cv, .agg #[.slice a1 n1 c1, .slice a2 n2 c2, .slice a3 n3 c3]] W' fun e w' => (∃ (z : Int) (b : Bool), e = .returned (.tuple #[.int .i64 z, .bool b]) ∧ OkIs ((kid 3).val l kn vs) z b) ∧ Below W'.heap.size W' w') := fun W' hb' => HKID4.out 3 (by omega) aj al av a1 a2 a3 cj nl cl nv cv n1 c1 n2 c2 n3 c3 W' (HINn.out.below hb') (KidsAt.below hb' hkj)
     clear y0 y1 y2 y3 hcell hkj hwn x0 x1 x2 x3 k0 k1 k2 g0 g1 t0 t1 t2
     generalize hok0 : (kid 3).k = kk at *
     generalize hok1 : (kid 3).n = kn' at *
     generalize hok2 : (kid 3).s = ks at *
     generalize hok3 : (kid 3).m = km at *
     clear hok0 hok1 hok2 hok3
     go_wp2_with fail
     go_region_held_law (fun w' => w'.cell? ⟨w.heap.size, 3, none⟩ = some (.slice (some ⟨b, off, none⟩) 4 c) ∧ w'.cell? ⟨b, off + 12, none⟩ = some (.int .i64 kk) ∧ w'.cell? ⟨b, off + 13, none⟩ = some (.int .i64 kn') ∧ w'.cell? ⟨b, off + 14, none⟩ = some (.string ks) ∧ w'.cell? ⟨b, off + 15, none⟩ = some (.slice aj km cj) ∧ w'.cell? ⟨w.heap.size + 1, 0, none⟩ = some (.slice a1 n1 c1) ∧ w'.cell? ⟨w.heap.size + 1, 1, none⟩ = some (.slice a2 n2 c2) ∧ w'.cell? ⟨w.heap.size + 1, 2, none⟩ = some (.slice a3 n3 c3)) (go_keep)
      (first
       | (go_at_call 40; refine (HKJ.out _ (kbelow_dN (Below.refl _ _) 1)).mono ?_; rintro e w1 ⟨⟨z, ok, rfl, hok⟩, hb1⟩
          have HB1' := Lib.hid (nfrom_drew hb1)
          have HB1 := Lib.hid (HBN.out.trans ((nfrom_drew hb1).mono HBN.out.size))
          have HOK := Lib.hid hok
          have r0 := (HB1'.out.cell (p := ⟨w.heap.size, 3, none⟩) (blt_of_cell x3n)).trans x3n
          have r1 := (HB1'.out.cell (p := ⟨b, off + 12, none⟩) (blt_of_cell y0')).trans y0'
          have r2 := (HB1'.out.cell (p := ⟨b, off + 13, none⟩) (blt_of_cell y1')).trans y1'
          have r3 := (HB1'.out.cell (p := ⟨b, off + 14, none⟩) (blt_of_cell y2')).trans y2'
          have r4 := (HB1'.out.cell (p := ⟨b, off + 15, none⟩) (blt_of_cell y3')).trans y3'
          have r5 := (HB1'.out.cell (p := ⟨w.heap.size + 1, 0, none⟩) (blt_of_cell k0n)).trans k0n
          have r6 := (HB1'.out.cell (p := ⟨w.heap.size + 1, 1, none⟩) (blt_of_cell k1n)).trans k1n
          have r7 := (HB1'.out.cell (p := ⟨w.heap.size + 1, 2, none⟩) (blt_of_cell k2n)).trans k2n
          clear hok hb1))
     go_wp2_with fail
     refine bodyPost_ret (v := .tuple #[.int .i64 (z), .bool (ok)]) (by simp [results, Tryz.results40, go_sem] <;> rfl) rfl ?_
     exact ⟨⟨_, _, rfl, by rw [HSOME.out _ _ HV0.out HV1.out, HHO.out]; exact HOK.out⟩, HB1.out⟩
   ·by_cases hh : v0 = v1
    ·have hd : (v0 == v1) = true := by simp [hh]
     have HHO : Hid (holdB 3 v0 v1 = true) := hd
     go_wp2_with fail
     have t0 := cell_regrown g0
     have t1 := cell_regrown g1
     have t2 := cell_regrown x1
     refine wp_region_quiet_below (by kernel_rfl) (by kernel_rfl) ?_
     repeat (go_big_quiet_step (fail))
     refine wpQuiet_nil ?_
     intro _ hw'
     obtain ⟨⟨dq, osq⟩, hw''⟩ := hw'
     subst hw''
     have HBN := Lib.hid (HBr.out.trans ((below_regrown wr dq osq).mono HBr.out.size))
     obtain ⟨b, off, rfl, hcell⟩ := HKD.out.open (show 0 < 4 by omega)
     have HBW := Lib.hid (HB.out.trans ((below_regrown wr dq osq).mono HB.out.size))
     generalize hwn : grow (redrawn wr dq) osq = wn at *
     obtain ⟨aj, cj, ⟨y0, y1, y2, y3⟩, hkj⟩ := hcell wn HBW.out 2 (show 2 < 4 by omega)
     have y0' : wn.cell? ⟨b, off + 8, none⟩ = some (.int .i64 (kid 2).k) := y0
     have y1' : wn.cell? ⟨b, off + 9, none⟩ = some (.int .i64 (kid 2).n) := y1
     have y2' : wn.cell? ⟨b, off + 10, none⟩ = some (.string (kid 2).s) := y2
     have y3' : wn.cell? ⟨b, off + 11, none⟩ = some (.slice aj (kid 2).m cj) := y3
     have HINn := Lib.hid (HIN.out.below HBW.out)
     obtain ⟨_, x0n, x1n, x2n, x3n⟩ := HX0.out.below HBW.out
     obtain ⟨_, k0n, k1n, k2n⟩ := KAt.below HK0.out HBW.out
     have HKJ : Hid (∀ W', Below wn.heap.size wn W' → Calls Tryz.prog 40 #[.agg #[.int .i64 (kid 2).k, .int .i64 (kid 2).n, .string (kid 2).s, .slice aj (kid 2).m cj], .slice al nl cl, .slice av nv cv, .agg #[.slice a1 n1 c1, .slice a2 n2 c2, .slice a3 n3 c3]] W' fun e w' => (∃ (z : Int) (b : Bool), e = .returned (.tuple #[.int .i64 z, .bool b]) ∧ OkIs ((kid 2).val l kn vs) z b) ∧ Below W'.heap.size W' w') := fun W' hb' => HKID4.out 2 (by omega) aj al av a1 a2 a3 cj nl cl nv cv n1 c1 n2 c2 n3 c3 W' (HINn.out.below hb') (KidsAt.below hb' hkj)
     clear y0 y1 y2 y3 hcell hkj hwn x0 x1 x2 x3 k0 k1 k2 g0 g1 t0 t1 t2
     generalize hok0 : (kid 2).k = kk at *
     generalize hok1 : (kid 2).n = kn' at *
     generalize hok2 : (kid 2).s = ks at *
     generalize hok3 : (kid 2).m = km at *
     clear hok0 hok1 hok2 hok3
     go_wp2_with fail
     go_region_held_law (fun w' => w'.cell? ⟨w.heap.size, 3, none⟩ = some (.slice (some ⟨b, off, none⟩) 4 c) ∧ w'.cell? ⟨b, off + 8, none⟩ = some (.int .i64 kk) ∧ w'.cell? ⟨b, off + 9, none⟩ = some (.int .i64 kn') ∧ w'.cell? ⟨b, off + 10, none⟩ = some (.string ks) ∧ w'.cell? ⟨b, off + 11, none⟩ = some (.slice aj km cj) ∧ w'.cell? ⟨w.heap.size + 1, 0, none⟩ = some (.slice a1 n1 c1) ∧ w'.cell? ⟨w.heap.size + 1, 1, none⟩ = some (.slice a2 n2 c2) ∧ w'.cell? ⟨w.heap.size + 1, 2, none⟩ = some (.slice a3 n3 c3)) (go_keep)
      (first
       | (go_at_call 40; refine (HKJ.out _ (kbelow_dN (Below.refl _ _) 1)).mono ?_; rintro e w1 ⟨⟨z, ok, rfl, hok⟩, hb1⟩
          have HB1' := Lib.hid (nfrom_drew hb1)
          have HB1 := Lib.hid (HBN.out.trans ((nfrom_drew hb1).mono HBN.out.size))
          have HOK := Lib.hid hok
          have r0 := (HB1'.out.cell (p := ⟨w.heap.size, 3, none⟩) (blt_of_cell x3n)).trans x3n
          have r1 := (HB1'.out.cell (p := ⟨b, off + 8, none⟩) (blt_of_cell y0')).trans y0'
          have r2 := (HB1'.out.cell (p := ⟨b, off + 9, none⟩) (blt_of_cell y1')).trans y1'
          have r3 := (HB1'.out.cell (p := ⟨b, off + 10, none⟩) (blt_of_cell y2')).trans y2'
          have r4 := (HB1'.out.cell (p := ⟨b, off + 11, none⟩) (blt_of_cell y3')).trans y3'
          have r5 := (HB1'.out.cell (p := ⟨w.heap.size + 1, 0, none⟩) (blt_of_cell k0n)).trans k0n
          have r6 := (HB1'.out.cell (p := ⟨w.heap.size + 1, 1, none⟩) (blt_of_cell k1n)).trans k1n
          have r7 := (HB1'.out.cell (p := ⟨w.heap.size + 1, 2, none⟩) (blt_of_cell k2n)).trans k2n
          clear hok hb1))
     go_wp2_with fail
     refine bodyPost_ret (v := .tuple #[.int .i64 (z), .bool (ok)]) (by simp [results, Tryz.results40, go_sem] <;> rfl) rfl ?_
     exact ⟨⟨_, _, rfl, by rw [HSOME.out _ _ HV0.out HV1.out, HHO.out]; exact HOK.out⟩, HB1.out⟩
    ·have hd : (v0 == v1) = false := by simp [hh]
     have HHO : Hid (holdB 3 v0 v1 = false) := hd
     go_wp2_with fail
     have t0 := cell_regrown g0
     have t1 := cell_regrown g1
     have t2 := cell_regrown x1
     refine wp_region_quiet_below (by kernel_rfl) (by kernel_rfl) ?_
     repeat (go_big_quiet_step (fail))
     refine wpQuiet_nil ?_
     intro _ hw'
     obtain ⟨⟨dq, osq⟩, hw''⟩ := hw'
     subst hw''
     have HBN := Lib.hid (HBr.out.trans ((below_regrown wr dq osq).mono HBr.out.size))
     obtain ⟨b, off, rfl, hcell⟩ := HKD.out.open (show 0 < 4 by omega)
     have HBW := Lib.hid (HB.out.trans ((below_regrown wr dq osq).mono HB.out.size))
     generalize hwn : grow (redrawn wr dq) osq = wn at *
     obtain ⟨aj, cj, ⟨y0, y1, y2, y3⟩, hkj⟩ := hcell wn HBW.out 3 (show 3 < 4 by omega)
     have y0' : wn.cell? ⟨b, off + 12, none⟩ = some (.int .i64 (kid 3).k) := y0
     have y1' : wn.cell? ⟨b, off + 13, none⟩ = some (.int .i64 (kid 3).n) := y1
     have y2' : wn.cell? ⟨b, off + 14, none⟩ = some (.string (kid 3).s) := y2
     have y3' : wn.cell? ⟨b, off + 15, none⟩ = some (.slice aj (kid 3).m cj) := y3
     have HINn := Lib.hid (HIN.out.below HBW.out)
     obtain ⟨_, x0n, x1n, x2n, x3n⟩ := HX0.out.below HBW.out
     obtain ⟨_, k0n, k1n, k2n⟩ := KAt.below HK0.out HBW.out
     have HKJ : Hid (∀ W', Below wn.heap.size wn W' → Calls Tryz.prog 40 #[.agg #[.int .i64 (kid 3).k, .int .i64 (kid 3).n, .string (kid 3).s, .slice aj (kid 3).m cj], .slice al nl cl, .slice av nv cv, .agg #[.slice a1 n1 c1, .slice a2 n2 c2, .slice a3 n3 c3]] W' fun e w' => (∃ (z : Int) (b : Bool), e = .returned (.tuple #[.int .i64 z, .bool b]) ∧ OkIs ((kid 3).val l kn vs) z b) ∧ Below W'.heap.size W' w') := fun W' hb' => HKID4.out 3 (by omega) aj al av a1 a2 a3 cj nl cl nv cv n1 c1 n2 c2 n3 c3 W' (HINn.out.below hb') (KidsAt.below hb' hkj)
     clear y0 y1 y2 y3 hcell hkj hwn x0 x1 x2 x3 k0 k1 k2 g0 g1 t0 t1 t2
     generalize hok0 : (kid 3).k = kk at *
     generalize hok1 : (kid 3).n = kn' at *
     generalize hok2 : (kid 3).s = ks at *
     generalize hok3 : (kid 3).m = km at *
     clear hok0 hok1 hok2 hok3
     go_wp2_with fail
     go_region_held_law (fun w' => w'.cell? ⟨w.heap.size, 3, none⟩ = some (.slice (some ⟨b, off, none⟩) 4 c) ∧ w'.cell? ⟨b, off + 12, none⟩ = some (.int .i64 kk) ∧ w'.cell? ⟨b, off + 13, none⟩ = some (.int .i64 kn') ∧ w'.cell? ⟨b, off + 14, none⟩ = some (.string ks) ∧ w'.cell? ⟨b, off + 15, none⟩ = some (.slice aj km cj) ∧ w'.cell? ⟨w.heap.size + 1, 0, none⟩ = some (.slice a1 n1 c1) ∧ w'.cell? ⟨w.heap.size + 1, 1, none⟩ = some (.slice a2 n2 c2) ∧ w'.cell? ⟨w.heap.size + 1, 2, none⟩ = some (.slice a3 n3 c3)) (go_keep)
      (first
       | (go_at_call 40; refine (HKJ.out _ (kbelow_dN (Below.refl _ _) 1)).mono ?_; rintro e w1 ⟨⟨z, ok, rfl, hok⟩, hb1⟩
          have HB1' := Lib.hid (nfrom_drew hb1)
          have HB1 := Lib.hid (HBN.out.trans ((nfrom_drew hb1).mono HBN.out.size))
          have HOK := Lib.hid hok
          have r0 := (HB1'.out.cell (p := ⟨w.heap.size, 3, none⟩) (blt_of_cell x3n)).trans x3n
          have r1 := (HB1'.out.cell (p := ⟨b, off + 12, none⟩) (blt_of_cell y0')).trans y0'
          have r2 := (HB1'.out.cell (p := ⟨b, off + 13, none⟩) (blt_of_cell y1')).trans y1'
          have r3 := (HB1'.out.cell (p := ⟨b, off + 14, none⟩) (blt_of_cell y2')).trans y2'
          have r4 := (HB1'.out.cell (p := ⟨b, off + 15, none⟩) (blt_of_cell y3')).trans y3'
          have r5 := (HB1'.out.cell (p := ⟨w.heap.size + 1, 0, none⟩) (blt_of_cell k0n)).trans k0n
          have r6 := (HB1'.out.cell (p := ⟨w.heap.size + 1, 1, none⟩) (blt_of_cell k1n)).trans k1n
          have r7 := (HB1'.out.cell (p := ⟨w.heap.size + 1, 2, none⟩) (blt_of_cell k2n)).trans k2n
          clear hok hb1))
     go_wp2_with fail
     refine bodyPost_ret (v := .tuple #[.int .i64 (z), .bool (ok)]) (by simp [results, Tryz.results40, go_sem] <;> rfl) rfl ?_
     exact ⟨⟨_, _, rfl, by rw [HSOME.out _ _ HV0.out HV1.out, HHO.out]; exact HOK.out⟩, HB1.out⟩
end Go.Proofs.YtmlpedgcpffpnaaGreatDoor
namespace Go.Proofs.YtmlpedgcpffpnaaGreatDoor
open Go.RowKit Go.Maps Go.WideMaps
theorem valueOf_ref {l : List Ln} {kn : Kn} {vs : List Int} {gv gl : ByteArray → Option Nat} (hS : ScOk kn vs) (hk : knE kn = 0) (hg : ∀ s, (gv s).isSome = true → NameOk l kn vs s) (x : Ex) : x.err = 0 → x.all (knowB gv gl (tabsG kn)) = true → ValIs l kn vs x := by
 obtain ⟨u1, u2, u3⟩ := kn_up hk
 induction x with
 | no => exact fun _ _ _ _ _ _ _ _ _ _ _ _ _ _ _ _ _ _ _ _ _ h => h.elim
 | mk k n s m kid ih =>
   intro he ha
   rw [err_mk] at he
   rw [all_mk] at ha
   by_cases hown : ownE k n s m = 0
   ·rw [if_pos hown] at he
    simp only [Bool.and_eq_true] at ha
    have hkid : ∀ j, j < m → ValIs l kn vs (kid j) := fun j hj => ih j (firstE_zero he j hj) (allN_each ha.2 j hj)
    have hmon : ∀ j, j < m → ∀ v, (kid j).val l kn vs = some v → monB v = true := fun j hj => val_mon hS hg (kid j) (firstE_zero he j hj) (allN_each ha.2 j hj)
    have hkn := ha.1
    obtain ⟨h1, h13, hm, hnm, hl, hu⟩ := own_parts hown
    clear ih he ha hown
    have hcase : k = 1 ∨ k = 2 ∨ k = 3 ∨ k = 4 ∨ k = 5 ∨ k = 6 ∨ k = 7 ∨ k = 8 ∨ k = 9 ∨ k = 10 ∨ k = 11 ∨ k = 12 ∨ k = 13 := by omega
    clear h1 h13
    rcases hcase with rfl | rfl | rfl | rfl | rfl | rfl | rfl | rfl | rfl | rfl | rfl | rfl | rfl
    ·obtain rfl : m = 0 := by have : kidsOf 1 = 0 := (by decide); omega
     have e1 : leastOf 1 = 0 := by decide
     have e2 : mostOf 1 = 1000000000000 := by decide
     exact val_1 l kn vs n s kid (mon_of (by omega) (by omega))
    ·obtain rfl : m = 0 := by have : kidsOf 2 = 0 := (by decide); omega
     exact val_2 l kn vs n s kid hS (hg s hkn) u1
    ·obtain rfl : m = 0 := by have : kidsOf 3 = 0 := (by decide); omega
     exact val_3 l kn vs n s kid u3 hS.2.2.2.2.2.1
    ·obtain rfl : m = 1 := by have : kidsOf 4 = 1 := (by decide); omega
     have e1 : leastOf 4 = 0 := by decide
     have e2 : mostOf 4 = 1000000 := by decide
     exact rv_one l kn vs 4 n s kid (by decide) hkid hmon (fun _ => ⟨by omega, by omega⟩) (fun h => by omega) (fun h => by omega)
    ·obtain rfl : m = 1 := by have : kidsOf 5 = 1 := (by decide); omega
     obtain ⟨q, hq⟩ := Option.isSome_iff_exists.1 (show (tbsG kn s).isSome = true from hkn)
     exact rv_one l kn vs 5 n s kid (by decide) hkid hmon (fun h => by omega) (fun h => by omega) (fun _ => ⟨q, hq, hS.2.2.2.2.1 q (vlast_lt hq), u2⟩)
    ·obtain rfl : m = 1 := by have : kidsOf 6 = 1 := (by decide); omega
     exact rv_one l kn vs 6 n s kid (by decide) hkid hmon (fun h => by omega) (fun h => by omega) (fun h => by omega)
    ·obtain rfl : m = 2 := by have : kidsOf 7 = 2 := (by decide); omega
     exact rv_two l kn vs 7 n s kid (by decide) hkid hmon
    ·obtain rfl : m = 2 := by have : kidsOf 8 = 2 := (by decide); omega
     exact rv_two l kn vs 8 n s kid (by decide) hkid hmon
    ·obtain rfl : m = 1 := by have : kidsOf 9 = 1 := (by decide); omega
     have e1 : leastOf 9 = 1 := by decide
     have e2 : mostOf 9 = 1000000 := by decide
     exact rv_one l kn vs 9 n s kid (by decide) hkid hmon (fun h => by omega) (fun _ => ⟨by omega, by omega⟩) (fun h => by omega)
    ·obtain rfl : m = 1 := by have : kidsOf 10 = 1 := (by decide); omega
     have e1 : leastOf 10 = 1 := by decide
     have e2 : mostOf 10 = 1000000 := by decide
     exact rv_one l kn vs 10 n s kid (by decide) hkid hmon (fun h => by omega) (fun _ => ⟨by omega, by omega⟩) (fun h => by omega)
    ·obtain rfl : m = 2 := by have : kidsOf 11 = 2 := (by decide); omega
     exact rv_two l kn vs 11 n s kid (by decide) hkid hmon
    ·obtain rfl : m = 2 := by have : kidsOf 12 = 2 := (by decide); omega
     exact rv_two l kn vs 12 n s kid (by decide) hkid hmon
    ·obtain rfl : m = 4 := by have : kidsOf 13 = 4 := (by decide); omega
     have e1 : leastOf 13 = 1 := by decide
     have e2 : mostOf 13 = 3 := by decide
     exact val_13 l kn vs n s kid hkid hmon (by omega) (by omega)
   ·rw [if_neg hown] at he
    exact absurd he hown
theorem line_val {l : List Ln} {kn : Kn} {vs : List Int} (hE : linesE l = 0) (hk : knE kn = 0) (hok : ∀ q, q < l.length → lineOk l kn q = 0) (hS : ScOk kn vs) (hj : vs.length < l.length) : ValIs l kn vs (lnth l vs.length).ex :=
 valueOf_ref (gv := valsK l kn vs.length) (gl := linesG l) hS hk (fun _ h => name_ok hok hj h) _ (lines_err hE hj) (line_knows (hok _ hj))
theorem lnV_ok {l : List Ln} {kn : Kn} (hE : linesE l = 0) (hok : ∀ q, q < l.length → lineOk l kn q = 0) (hkn : knE kn = 0) : ∀ (n : Nat), n ≤ l.length → ∀ vs, linesV l kn n = (vs, true) → vs.length = n ∧ ScOk kn vs
 | 0, _, vs, h => by
   simp only [linesV, Prod.mk.injEq] at h
   obtain ⟨rfl, _⟩ := h
   exact ⟨rfl, kn_ok hkn⟩
 | n + 1, hn, vs, h => by
   obtain ⟨ws, b, hw⟩ : ∃ ws b, linesV l kn n = (ws, b) := ⟨_, _, rfl⟩
   simp only [linesV, hw] at h
   cases b
   ·simp at h
   ·obtain ⟨h1, h2⟩ := lnV_ok hE hok hkn n (by omega) ws hw
    have hc := line_mon (vs := ws) hE hok h2 (by omega)
    rw [h1] at hc
    cases hv : (lnth l n).ex.val l kn ws with
    | none => simp [hv] at h
    | some v =>
      simp only [hv, Prod.mk.injEq, and_true] at h
      subst h
      exact ⟨by simp [h1], h2.more (hc v hv)⟩
end Go.Proofs.YtmlpedgcpffpnaaGreatDoor
set_option linter.unusedSimpArgs false
namespace Go.Proofs.YtmlpedgcpffpnaaGreatDoor
open Go.RowKit Go.Maps Go.WideMaps
theorem linesV_no {l : List Ln} {kn : Kn} {j : Nat} {vs : List Int} (h : linesV l kn j = (vs, true)) (h0 : (lnth l j).ex.val l kn vs = none) : ∀ n, j < n → linesV l kn n = (vs, false)
 | 0, hn => by omega
 | n + 1, hn => by
   by_cases e : j = n
   ·subst e; simp [linesV, h, h0]
   ·simp [linesV, linesV_no h h0 n (by omega)]
theorem grow_vat {w : World} {B : Nat} {v : Value} {vs : List Int} (h : Grow w B v vs) : ∃ a c, v = .slice a vs.length c ∧ VAt w a vs := by
 by_cases h0 : vs.length = 0
 ·obtain ⟨_, h2⟩ := h
  rcases h2 with ⟨rfl, _⟩ | ⟨g, c, cur, rfl, _⟩
  ·exact ⟨none, 0, by rw [h0], .inl h0⟩
  ·exact ⟨_, c, rfl, .inl h0⟩
 ·obtain ⟨g, c, rfl, _, ho⟩ := h.own (by omega)
  exact ⟨some ⟨g, 0, none⟩, c, rfl, .inr ⟨g, 0, rfl, ho.1, fun j hj => by rw [Nat.zero_add]; exact (ho.2 j hj).1⟩⟩
set_option maxRecDepth 100000 in
set_option maxHeartbeats 2000000 in
theorem valueLines_ref (a : Option Addr) (n cap : Nat) (l : List Ln) (a1 a2 a3 : Option Addr) (n1 n2 n3 c1 c2 c3 : Nat) (kn : Kn) (w : World) (hl : CameL w a l) (hn : l.length = n) (hm : n ≤ maxLen) (hc : CameK w a1 a2 a3 kn) (h1 : kn.ins.length = n1) (h2 : kn.tbs.length = n2) (h3 : kn.yrs.length = n3) :
 Calls Tryz.prog 11 #[.slice a n cap, .agg #[.slice a1 n1 c1, .slice a2 n2 c2, .slice a3 n3 c3]] w fun e w' => linesR l kn w e w' := by
 have HB0 := Lib.hid (kbelow_box w (.cells #[.slice a1 n1 c1, .slice a2 n2 c2, .slice a3 n3 c3] 26))
 have HK0 := Lib.hid (KAt.made w (.slice a1 n1 c1) (.slice a2 n2 c2) (.slice a3 n3 c3) 26)
 have HL := Lib.hid hl
 have HN := Lib.hid hn
 have HM := Lib.hid hm
 have HC := Lib.hid hc
 have H1 := Lib.hid h1
 have H2 := Lib.hid h2
 have H3 := Lib.hid h3
 clear hl hn hm hc h1 h2 h3
 obtain ⟨_, x0, x1, x2⟩ := HK0.out
 go_enter Tryz.func11, Tryz.ntmps11
 go_wp2_with fail
 refine (lines_ref a n cap l a1 a2 a3 n1 n2 n3 c1 c2 c3 kn _ (HL.out.below HB0.out) HN.out HM.out ⟨HC.out.1.below HB0.out, HC.out.2.1.below HB0.out, HC.out.2.2.1.below HB0.out, HC.out.2.2.2⟩ H1.out H2.out H3.out).mono ?_
 rintro e w1 ⟨i1, e1, rfl, hbi, hb1⟩
 have HB1 := Lib.hid (HB0.out.trans (hb1.mono HB0.out.size))
 have HK1 := Lib.hid (KAt.below HK0.out hb1)
 have hw1 : w.heap.size < w1.heap.size := HK1.out.1
 clear hb1 x0 x1 x2 HK0 HB0
 by_cases hz : e1 = 0
 ·subst hz
  have hbi0 : BindIs l kn 0 0 ∧ i1 = 0 := by
   rcases hbi with ⟨q1, _, q2⟩ | ⟨_, q1, _, q2⟩ | ⟨q1, q2, ⟨q3, _, q4⟩ | ⟨_, _, _, _, q, _⟩⟩
   ·exact absurd q2.symm q1
   ·exact absurd q2.symm q1
   ·exact ⟨.inr (.inr ⟨q1, q2, .inl ⟨rfl, rfl, q4⟩⟩), q3⟩
   ·exact absurd rfl q
  have hall : linesE l = 0 ∧ knE kn = 0 ∧ ∀ j, j < l.length → lineOk l kn j = 0 := by
   rcases hbi0.1 with ⟨q1, _, q2⟩ | ⟨_, q1, _, q2⟩ | ⟨q1, q2, ⟨_, _, q3⟩ | ⟨_, _, _, _, q, _⟩⟩
   ·exact absurd q2.symm q1
   ·exact absurd q2.symm q1
   ·exact ⟨q1, q2, q3⟩
   ·exact absurd rfl q
  have HBI := Lib.hid hbi0.1
  have HALL := Lib.hid hall
  have hn40 : n ≤ 40 := by have := linesE_40 hall.1; have := HN.out; omega
  clear hbi hbi0 hall
  go_wp2_with fail
  go_loopw [9, 10] (fun v i wr => ∃ (j : Nat) (vs : List Int), j ≤ n ∧ i = .int .i64 j ∧ linesV l kn j = (vs, true) ∧ Grow wr w1.heap.size v vs ∧ Below w1.heap.size w1 wr) (fun _ i _ => n - (intOf i).toNat)
  case atStart => exact ⟨0, [], Nat.zero_le _, rfl, rfl, Grow.nil _ _, Below.refl _ _⟩
  case round =>
   obtain ⟨j, vs, hj, rfl, hlv, hgr, hb⟩ := hrel
   have HLV := Lib.hid hlv
   have HG := Lib.hid hgr
   have HB := Lib.hid hb
   have HBW := Lib.hid (HB1.out.trans (hb.mono HB1.out.size))
   have HKr := Lib.hid (KAt.below HK1.out hb)
   obtain ⟨hvl, hsc⟩ := lnV_ok HALL.out.1 HALL.out.2.2 HALL.out.2.1 j (by have := HN.out; omega) vs hlv
   have HSC := Lib.hid hsc
   have HVL := Lib.hid hvl
   obtain ⟨_, k0, k1, k2⟩ := HKr.out
   obtain ⟨av, cv, rfl, hva⟩ := grow_vat hgr
   have HVA := Lib.hid hva
   rw [hvl] at HG ⊢
   clear hlv hgr hb hvl hsc hva
   by_cases hlt : j < n
   ·have hlt' : (j : Int) < (n : Int) := by omega
    obtain ⟨b, off, rfl, hcell⟩ := HL.out.open HN.out (by omega)
    obtain ⟨aj, cj, ⟨y0, y1, y2, y3, y4, y5⟩, hns, hkj⟩ := hcell wr HBW.out j hlt
    have HVX : Hid (∀ W', Below wr.heap.size wr W' → Calls Tryz.prog 40 #[.agg #[.int .i64 (lnth l j).ex.k, .int .i64 (lnth l j).ex.n, .string (lnth l j).ex.s, .slice aj (lnth l j).ex.m cj], .slice (some ⟨b, off, none⟩) n cap, .slice av j cv, .agg #[.slice a1 n1 c1, .slice a2 n2 c2, .slice a3 n3 c3]] W' fun e w' => (∃ (z : Int) (b : Bool), e = .returned (.tuple #[.int .i64 z, .bool b]) ∧ OkIs ((lnth l j).ex.val l kn vs) z b) ∧ Below W'.heap.size W' w') := fun W' hb' => by
     have h := line_val (vs := vs) HALL.out.1 HALL.out.2.1 HALL.out.2.2 HSC.out (by rw [HVL.out, HN.out]; exact hlt)
     rw [HVL.out] at h
     have hbb := HBW.out.trans (hb'.mono HBW.out.size)
     exact h aj (some ⟨b, off, none⟩) av a1 a2 a3 cj n cap j cv n1 c1 n2 c2 n3 c3 W' ⟨HL.out.below hbb, HN.out, HM.out, HVA.out.below hb', HVL.out, by omega, ⟨HC.out.1.below hbb, HC.out.2.1.below hbb, HC.out.2.2.1.below hbb, HC.out.2.2.2⟩, H1.out, H2.out, H3.out⟩ (KidsAt.below hb' hkj)
    clear hcell hns hkj
    generalize hok0 : (lnth l j).ex.k = kk at *
    generalize hok1 : (lnth l j).ex.n = kn' at *
    generalize hok2 : (lnth l j).ex.s = ks at *
    generalize hok3 : (lnth l j).ex.m = km at *
    clear hok0 hok1 hok2 hok3
    go_wp2_with fail
    go_region_held_law (fun w' => w'.cell? ⟨b, off + j * 6 + 2, none⟩ = some (.int .i64 kk) ∧ w'.cell? ⟨b, off + j * 6 + 3, none⟩ = some (.int .i64 kn') ∧ w'.cell? ⟨b, off + j * 6 + 4, none⟩ = some (.string ks) ∧ w'.cell? ⟨b, off + j * 6 + 5, none⟩ = some (.slice aj km cj) ∧ w'.cell? ⟨w.heap.size, 0, none⟩ = some (.slice a1 n1 c1) ∧ w'.cell? ⟨w.heap.size, 1, none⟩ = some (.slice a2 n2 c2) ∧ w'.cell? ⟨w.heap.size, 2, none⟩ = some (.slice a3 n3 c3)) (go_keep)
     (first
      | (go_at_call 40; refine (HVX.out _ (kbelow_dN (Below.refl _ _) 1)).mono ?_; rintro e w2 ⟨⟨z, ok, rfl, hok⟩, hb2⟩
         have HB2' := Lib.hid (nfrom_drew hb2)
         have HB2 := Lib.hid (HB.out.trans ((nfrom_drew hb2).mono HB.out.size))
         have HOK := Lib.hid hok
         have r1 := (HB2'.out.cell (p := ⟨b, off + j * 6 + 2, none⟩) (blt_of_cell y2)).trans y2
         have r2 := (HB2'.out.cell (p := ⟨b, off + j * 6 + 3, none⟩) (blt_of_cell y3)).trans y3
         have r3 := (HB2'.out.cell (p := ⟨b, off + j * 6 + 4, none⟩) (blt_of_cell y4)).trans y4
         have r4 := (HB2'.out.cell (p := ⟨b, off + j * 6 + 5, none⟩) (blt_of_cell y5)).trans y5
         have r5 := (HB2'.out.cell (p := ⟨w.heap.size, 0, none⟩) (blt_of_cell k0)).trans k0
         have r6 := (HB2'.out.cell (p := ⟨w.heap.size, 1, none⟩) (blt_of_cell k1)).trans k1
         have r7 := (HB2'.out.cell (p := ⟨w.heap.size, 2, none⟩) (blt_of_cell k2)).trans k2
         clear hok hb2))
    have HGW := Lib.hid (rvgrow_below HG.out HB2'.out)
    have HBE := Lib.hid (HB1.out.trans (HB2.out.mono HB1.out.size))
    clear r1 r2 r3 r4 r5 r6 r7 k0 k1 k2 y0 y1 y2 y3 y4 y5 HVX
    rcases HOK.out with ⟨hno, rfl⟩ | ⟨hso, rfl⟩
    ·have HNO : Hid (linesV l kn l.length = (vs, false)) := Lib.hid (linesV_no HLV.out hno _ (by have := HN.out; omega))
     clear hno
     go_wp2_with fail
     refine bodyPost_ret (v := .tuple #[(.slice none 0 0), .int .i64 ((j : Int)), .int .i64 (3)]) (by simp [results, Tryz.results11, go_sem] <;> rfl) rfl ?_
     exact ⟨HBE.out, .inr (.inl ⟨HBI.out, vs, HNO.out, by rw [HVL.out]⟩)⟩
    ·have HSO : Hid (linesV l kn (j + 1) = (vs ++ [z], true)) := Lib.hid (by simp [linesV, HLV.out, hso])
     clear hso
     have hW1 : w1.heap.size ≤ w2.heap.size := HB2.out.size
     have HBX := Lib.hid (kbelow_box w2 (.cells #[.int .i64 z] 3))
     have HGX := Lib.hid (rvgrow_below HGW.out HBX.out)
     have HBY := Lib.hid (HB2.out.trans (HBX.out.mono HB2.out.size))
     have hlen : vs.length ≤ 1000000000 := by rw [HVL.out]; omega
     go_wp2_with (at_builtin; refine wpList_app _ rfl _ _ rfl w1.heap.size _ vs rfl HGX.out ⟨w2.heap.size, 0, none⟩ 1 z rfl (by simp) hlen HBY.out.size ?_; intro v9 w9 hg9 hgr9 hd9 hs9; refine Hid.out ?_)
     have HG9 := Lib.hid hg9
     have HB9 := Lib.hid (HBY.out.grown hgr9 HBY.out.size fun k hk => (HGX.out.lt k hk).1)
     clear hg9 hgr9 hd9 hs9
     unfold Hid
     go_wp2_with fail
     go_roundw
     case rel => exact ⟨j + 1, vs ++ [z], by omega, by go_num, HSO.out, HG9.out, HB9.out⟩
     case measure => simp [intOf]; omega
   ·obtain rfl : j = n := by omega
    have hltB : decide ((j : Int) < (j : Int)) = false := decide_eq_false (by omega)
    go_wp2_with fail
    refine bodyPost_ret (v := .tuple #[(.slice av j cv), .int .i64 (0), .int .i64 (0)]) (by simp [results, Tryz.results11, go_sem] <;> rfl) rfl ?_
    exact ⟨HBW.out, .inr (.inr ⟨HBI.out, vs, _, w1.heap.size, by rw [HN.out]; exact HLV.out, by omega, HG.out, rfl⟩)⟩
 ·have hzB : (e1 != 0) = true := by simp [hz]
  have HNE := Lib.hid hz
  have HBI := Lib.hid hbi
  clear hz hbi
  go_wp2_with fail
  refine bodyPost_ret (v := .tuple #[(.slice none 0 0), .int .i64 (i1), .int .i64 (e1)]) (by simp [results, Tryz.results11, go_sem] <;> rfl) rfl ?_
  exact ⟨HB1.out, .inl ⟨i1, e1, HNE.out, HBI.out, rfl⟩⟩
end Go.Proofs.YtmlpedgcpffpnaaGreatDoor
