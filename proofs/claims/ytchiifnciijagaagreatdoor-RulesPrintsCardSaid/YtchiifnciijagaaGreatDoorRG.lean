/-
  Promise F3: the walk of the reference's ExprText, some kinds.
  Promise F3: the walk of the reference's ExprText, some kinds.
  Promise F3: the walk of the reference's ExprText, some kinds.
  Promise F3: the walk of the reference's ExprText, some kinds.
-/
import Derived.Test.YtchiifnciijagaaGreatDoorRQ
import Derived.Deep.RegionHeldLaw
import Derived.Lib.Hide
import Derived.Lib.QuietBelow
import Derived.BigQuiet
import Derived.BigRegion
set_option linter.unusedSimpArgs false
namespace Go.Proofs.YtchiifnciijagaaGreatDoor
open Go.RowKit


set_option maxRecDepth 100000 in
set_option maxHeartbeats 4000000 in
theorem exprText_11_false (n : Int) (s : ByteArray) (kid : Nat → Ex)  (hC : ∀ j, j < 2 → ∀ b, RcX b (kid j)) (hZ : ∀ j, j < 2 → ∀ b, Sz (rT (inT b (kid j))) 500000) (hT : ⟨#[109, 105, 110, 32, 40, 32]⟩ ++ rT (inT false (kid 0)) ++ ⟨#[32, 44, 32]⟩ ++ rT (inT false (kid 1)) ++ ⟨#[32, 41]⟩ = rT (inT false (Ex.mk 11 n s 2 kid))) : RcX false (Ex.mk 11 n s 2 kid) := by
  have HKC := Lib.hid hC
  have HFL : Hid (∀ j, flg 11 j = false) := by unfold Hid flg; simp
  have HZ := Lib.hid hZ
  have HT := Lib.hid hT
  clear hC hZ hT
  intro a c w hk
  show Calls Tryz.prog 26 #[.agg #[.int .i64 11, .int .i64 n, .string s, .slice a (2 : Nat) c], .bool false] w _
  have HB0 := Lib.hid (kbelow_box w (.cells #[.int .i64 11, .int .i64 n, .string s, .slice a (2 : Nat) c] 39))
  have HX0 : Hid (Obx (w.alloc (.cells #[.int .i64 11, .int .i64 n, .string s, .slice a (2 : Nat) c] 39)) w.heap.size [.int .i64 11, .int .i64 n, .string s, .slice a (2 : Nat) c] 39) := Lib.hid (Obx.made w [.int .i64 11, .int .i64 n, .string s, .slice a (2 : Nat) c] _)
  have HKD := Lib.hid (hk.below HB0.out)
  clear hk
  go_enter Tryz.func26, Tryz.ntmps26
  go_wp2_with fail
  generalize (w.alloc (.cells #[.int .i64 11, .int .i64 n, .string s, .slice a (2 : Nat) c] 39)) = W at *
  go_loopw [5, 6] (fun v i wr => ∃ j : Nat, j ≤ 2 ∧ i = .int .i64 j ∧ GrS wr W.heap.size v (kTs 11 kid j) ∧ Below W.heap.size W wr) (fun _ i _ => 2 - (intOf i).toNat)
  case atStart => exact ⟨0, Nat.zero_le _, rfl, GrS.nil _ _, Below.refl _ _⟩
  case round =>
  
    obtain ⟨j, hj, rfl, hgr, hb⟩ := hrel
    have HG := Lib.hid hgr
    have HB := Lib.hid hb
    obtain ⟨x0, x1, x2, x3⟩ := (HX0.out.below hb).four
    clear hgr hb
    by_cases hlt : j < 2
    · have hltM : (j : Int) < (2 : Int) := by omega
      obtain ⟨b, off, rfl, hcell⟩ := HKD.out.open (show 0 < 2 by omega)
      obtain ⟨aj, cj, ⟨y0, y1, y2, y3⟩, hkj⟩ := hcell wr HB.out j hlt
      obtain ⟨aj2, cj2, hyy, -⟩ := hcell W (Below.refl _ _) j hlt
      have y0' : wr.cell? ⟨b, off + j * 4, none⟩ = some (.int .i64 (kid j).k) := y0
      have y1' : wr.cell? ⟨b, off + j * 4 + 1, none⟩ = some (.int .i64 (kid j).n) := y1
      have y2' : wr.cell? ⟨b, off + j * 4 + 2, none⟩ = some (.string (kid j).s) := y2
      have y3' : wr.cell? ⟨b, off + j * 4 + 3, none⟩ = some (.slice aj (kid j).m cj) := y3
      have HY : Hid (W.cell? ⟨b, off + j * 4, none⟩ = some (.int .i64 (kid j).k) ∧ W.cell? ⟨b, off + j * 4 + 1, none⟩ = some (.int .i64 (kid j).n) ∧ W.cell? ⟨b, off + j * 4 + 2, none⟩ = some (.string (kid j).s) ∧ W.cell? ⟨b, off + j * 4 + 3, none⟩ = some (.slice aj (kid j).m cj)) := by
        obtain ⟨z0, z1, z2, z3⟩ := hyy
        have e3 := (HB.out.cell (p := ⟨b, off + j * 4 + 3, none⟩) (blt_of_cell z3)).trans z3
        have e4 := e3.symm.trans y3'
        injection e4 with e4
        injection e4 with e5 e6 e7
        subst e5 e7
        exact ⟨z0, z1, z2, z3⟩
      have HKJ : Hid (∀ (fb : Bool) (W' : World), Below wr.heap.size wr W' → Calls Tryz.prog 26 #[.agg #[.int .i64 (kid j).k, .int .i64 (kid j).n, .string (kid j).s, .slice aj (kid j).m cj], .bool fb] W' fun e w' => e = .returned (.string (rT (inT fb (kid j)))) ∧ Below W'.heap.size W' w') := fun fb W' hb' => HKC.out j hlt fb aj cj W' (hkj.below hb')
      clear y0 y1 y2 y3 hcell hkj hyy
      generalize (kid j).k = kk at *
      generalize (kid j).n = kn' at *
      generalize (kid j).s = ks at *
      generalize (kid j).m = km at *
      have HFJ := Lib.hid (HFL.out j)
      go_wp2_with fail
      have HSW : Hid (∀ w2, Below W.heap.size W w2 → (w2.cell? ⟨w.heap.size, 0, none⟩ = some (.int .i64 11) ∧ w2.cell? ⟨w.heap.size, 3, none⟩ = some (.slice (some ⟨b, off, none⟩) 2 c) ∧ w2.cell? ⟨b, off + j * 4, none⟩ = some (.int .i64 kk) ∧ w2.cell? ⟨b, off + j * 4 + 1, none⟩ = some (.int .i64 kn') ∧ w2.cell? ⟨b, off + j * 4 + 2, none⟩ = some (.string ks) ∧ w2.cell? ⟨b, off + j * 4 + 3, none⟩ = some (.slice aj km cj))) := fun w2 hb =>
        ⟨(hb.cell (blt_of_cell HX0.out.c0)).trans HX0.out.c0, (hb.cell (blt_of_cell HX0.out.c3)).trans HX0.out.c3, (hb.cell (blt_of_cell HY.out.1)).trans HY.out.1, (hb.cell (blt_of_cell HY.out.2.1)).trans HY.out.2.1, (hb.cell (blt_of_cell HY.out.2.2.1)).trans HY.out.2.2.1, (hb.cell (blt_of_cell HY.out.2.2.2)).trans HY.out.2.2.2⟩
      clear x0 x1 x2 x3 y0' y1' y2' y3'
      refine wp_region_held_drew (S := fun w' => w'.cell? ⟨w.heap.size, 0, none⟩ = some (.int .i64 11) ∧ w'.cell? ⟨w.heap.size, 3, none⟩ = some (.slice (some ⟨b, off, none⟩) 2 c) ∧ w'.cell? ⟨b, off + j * 4, none⟩ = some (.int .i64 kk) ∧ w'.cell? ⟨b, off + j * 4 + 1, none⟩ = some (.int .i64 kn') ∧ w'.cell? ⟨b, off + j * 4 + 2, none⟩ = some (.string ks) ∧ w'.cell? ⟨b, off + j * 4 + 3, none⟩ = some (.slice aj km cj)) (by kernel_rfl) ?_ (fun hHeld => ?_)
      · exact HSW.out wr HB.out
      refine wpAnyH_take (i := 0) (oi := _) (v := u5) rfl (by kernel_rfl) (by kernel_rfl) (by kernel_rfl) (fun _ _ _ h => h) (Or.inl ⟨by kernel_rfl, fun w' hSw => ?_⟩) (by assumption) ?_
      · ((try dsimp only at hSw); go_simp; try with_reducible rfl)
      try simp only [Act.put, List.setIfInBounds_toArray, List.set_cons_zero, List.set_cons_succ]
      refine wpAnyH_take (i := 1) (oi := _) (v := .pointer (some ⟨w.heap.size, 3, none⟩)) rfl (by kernel_rfl) (by kernel_rfl) (by kernel_rfl) (fun _ _ _ h => h) (Or.inl ⟨by kernel_rfl, fun w' hSw => ?_⟩) (by assumption) ?_
      · ((try dsimp only at hSw); go_simp; try with_reducible rfl)
      try simp only [Act.put, List.setIfInBounds_toArray, List.set_cons_zero, List.set_cons_succ]
      refine wpAnyH_take (i := 2) (oi := _) (v := .slice (some ⟨b, off, none⟩) 2 c) rfl (by kernel_rfl) (by kernel_rfl) (by kernel_rfl) (fun _ _ _ h => h) (Or.inl ⟨by kernel_rfl, fun w' hSw => ?_⟩) (by assumption) ?_
      · ((try dsimp only at hSw); go_simp; try with_reducible rfl)
      try simp only [Act.put, List.setIfInBounds_toArray, List.set_cons_zero, List.set_cons_succ]
      refine wpAnyH_take (i := 3) (oi := _) (v := .int .i64 (j : Int)) rfl (by kernel_rfl) (by kernel_rfl) (by kernel_rfl) (fun _ _ _ h => h) (Or.inl ⟨by kernel_rfl, fun w' hSw => ?_⟩) (by assumption) ?_
      · ((try dsimp only at hSw); go_simp; try with_reducible rfl)
      try simp only [Act.put, List.setIfInBounds_toArray, List.set_cons_zero, List.set_cons_succ]
      refine wpAnyH_take (i := 4) (oi := _) (v := .pointer (some ⟨b, off + j * 4, none⟩)) rfl (by kernel_rfl) (by kernel_rfl) (by kernel_rfl) (fun _ _ _ h => h) (Or.inl ⟨by kernel_rfl, fun w' hSw => ?_⟩) (by assumption) ?_
      · ((try dsimp only at hSw); go_simp; try with_reducible rfl)
      try simp only [Act.put, List.setIfInBounds_toArray, List.set_cons_zero, List.set_cons_succ]
      refine wpAnyH_take (i := 5) (oi := _) (v := .agg #[.int .i64 kk, .int .i64 kn', .string ks, .slice aj km cj]) rfl (by kernel_rfl) (by kernel_rfl) (by kernel_rfl) (fun _ _ _ h => h) (Or.inl ⟨by kernel_rfl, fun w' hSw => ?_⟩) (by assumption) ?_
      · ((try dsimp only at hSw); go_simp; try with_reducible rfl)
      try simp only [Act.put, List.setIfInBounds_toArray, List.set_cons_zero, List.set_cons_succ]
      refine wpAnyH_take (i := 6) (oi := _) (v := .pointer (some ⟨w.heap.size, 0, none⟩)) rfl (by kernel_rfl) (by kernel_rfl) (by kernel_rfl) (fun _ _ _ h => h) (Or.inl ⟨by kernel_rfl, fun w' hSw => ?_⟩) (by assumption) ?_
      · ((try dsimp only at hSw); go_simp; try with_reducible rfl)
      try simp only [Act.put, List.setIfInBounds_toArray, List.set_cons_zero, List.set_cons_succ]
      refine wpAnyH_take (i := 7) (oi := _) (v := .int .i64 11) rfl (by kernel_rfl) (by kernel_rfl) (by kernel_rfl) (fun _ _ _ h => h) (Or.inl ⟨by kernel_rfl, fun w' hSw => ?_⟩) (by assumption) ?_
      · ((try dsimp only at hSw); go_simp; try with_reducible rfl)
      try simp only [Act.put, List.setIfInBounds_toArray, List.set_cons_zero, List.set_cons_succ]
      refine wpAnyH_take (i := 8) (oi := _) (v := .bool false) rfl (by kernel_rfl) (by kernel_rfl) (by kernel_rfl) (fun _ _ _ h => h) (Or.inl ⟨by kernel_rfl, fun w' hSw => ?_⟩) (by assumption) ?_
      · ((try dsimp only at hSw); go_simp; try with_reducible rfl)
      try simp only [Act.put, List.setIfInBounds_toArray, List.set_cons_zero, List.set_cons_succ]
      refine wpAnyH_take (i := 9) (oi := _) (v := .bool false) rfl (by kernel_rfl) (by kernel_rfl) (by kernel_rfl) (fun _ _ _ h => h) (Or.inl ⟨by kernel_rfl, fun w' hSw => ?_⟩) (by assumption) ?_
      · ((try dsimp only at hSw); go_simp; try with_reducible rfl)
      try simp only [Act.put, List.setIfInBounds_toArray, List.set_cons_zero, List.set_cons_succ]
      refine wpAnyH_take (i := 10) (oi := _) (v := .pointer (some ⟨w.heap.size, 0, none⟩)) rfl (by kernel_rfl) (by kernel_rfl) (by kernel_rfl) (fun _ _ _ h => h) (Or.inl ⟨by kernel_rfl, fun w' hSw => ?_⟩) (by assumption) ?_
      · ((try dsimp only at hSw); go_simp; try with_reducible rfl)
      try simp only [Act.put, List.setIfInBounds_toArray, List.set_cons_zero, List.set_cons_succ]
      refine wpAnyH_take (i := 11) (oi := _) (v := .int .i64 11) rfl (by kernel_rfl) (by kernel_rfl) (by kernel_rfl) (fun _ _ _ h => h) (Or.inl ⟨by kernel_rfl, fun w' hSw => ?_⟩) (by assumption) ?_
      · ((try dsimp only at hSw); go_simp; try with_reducible rfl)
      try simp only [Act.put, List.setIfInBounds_toArray, List.set_cons_zero, List.set_cons_succ]
      refine wpAnyH_take (i := 12) (oi := _) (v := .bool false) rfl (by kernel_rfl) (by kernel_rfl) (by kernel_rfl) (fun _ _ _ h => h) (Or.inl ⟨by kernel_rfl, fun w' hSw => ?_⟩) (by assumption) ?_
      · ((try dsimp only at hSw); go_simp; try with_reducible rfl)
      try simp only [Act.put, List.setIfInBounds_toArray, List.set_cons_zero, List.set_cons_succ]
      refine wpAnyH_take (i := 13) (oi := _) (v := .bool false) rfl (by kernel_rfl) (by kernel_rfl) (by kernel_rfl) (fun _ _ _ h => h) (Or.inl ⟨by kernel_rfl, fun w' hSw => ?_⟩) (by assumption) ?_
      · ((try dsimp only at hSw); go_simp; try with_reducible rfl)
      try simp only [Act.put, List.setIfInBounds_toArray, List.set_cons_zero, List.set_cons_succ]
      refine wpAnyH_take (i := 14) (oi := _) (v := undef) rfl (by kernel_rfl) (by kernel_rfl) (by kernel_rfl) (fun _ _ _ h => h) (Or.inr ⟨by kernel_rfl, rfl⟩) (by assumption) ?_
      try simp only [Act.put, List.setIfInBounds_toArray, List.set_cons_zero, List.set_cons_succ]
      refine wpAnyH_take (i := 15) (oi := _) (v := undef) rfl (by kernel_rfl) (by kernel_rfl) (by kernel_rfl) (fun _ _ _ h => h) (Or.inr ⟨by kernel_rfl, rfl⟩) (by assumption) ?_
      try simp only [Act.put, List.setIfInBounds_toArray, List.set_cons_zero, List.set_cons_succ]
      refine wpAnyH_take (i := 16) (oi := _) (v := .bool false) rfl (by kernel_rfl) (by kernel_rfl) (by kernel_rfl) (fun _ _ _ h => h) (Or.inl ⟨by kernel_rfl, fun w' hSw => ?_⟩) (by assumption) ?_
      · ((try dsimp only at hSw); go_simp; try with_reducible rfl)
      try simp only [Act.put, List.setIfInBounds_toArray, List.set_cons_zero, List.set_cons_succ]
      refine wpAnyH_take (i := 17) (oi := _) (v := .bool false) rfl (by kernel_rfl) (by kernel_rfl) (by kernel_rfl) (fun _ _ _ h => h) (Or.inl ⟨by kernel_rfl, fun w' hSw => ?_⟩) (by assumption) ?_
      · ((try dsimp only at hSw); go_simp; try with_reducible rfl)
      try simp only [Act.put, List.setIfInBounds_toArray, List.set_cons_zero, List.set_cons_succ]
      refine wpAnyH_ready (rs := [18]) (by kernel_rfl) (by simp) ?_
      refine AllReadyH.cons rfl (fun K hK => ?_) AllReadyH.nil
      go_simp
      refine (HKJ.out false _ (kbelow_dN (Below.refl _ _) 1)).mono ?_
      rintro e w1 ⟨rfl, hb1⟩
      have HB1' := Lib.hid (rfrom_drew hb1)
      have HB1 := Lib.hid (HB.out.trans ((rfrom_drew hb1).mono HB.out.size))
      have HTX := Lib.hid (kbelow_box w1 (.cells #[.string (rT (inT false (kid j)))] 9))
      have HGX := Lib.hid ((HG.out.below HB1'.out).below HTX.out)
      have HBX := Lib.hid (HB1.out.trans (HTX.out.mono HB1.out.size))
      have hsrc : (w1.alloc (.cells #[.string (rT (inT false (kid j)))] 9)).cell? ⟨w1.heap.size, 0, none⟩ = some (.string (rT (inT false (kid j)))) := by simp
      have HSRC := Lib.hid hsrc
      clear hb1 hsrc
      try go_wp2_with fail
      refine hK.out _ _ (by exact HSW.out _ HB1.out) (fun hHeld => ?_)
      clear hK K
      try simp only [Act.put, List.setIfInBounds_toArray, List.set_cons_zero, List.set_cons_succ]
      refine wpAnyH_ready (rs := [19]) (by kernel_rfl) (by simp) ?_
      refine AllReadyH.cons rfl (fun K hK => ?_) AllReadyH.nil
      go_simp
      refine hK.out _ _ (by exact HSW.out _ HBX.out) (fun hHeld => ?_)
      clear hK K
      try simp only [Act.put, List.setIfInBounds_toArray, List.set_cons_zero, List.set_cons_succ]
      refine wpAnyH_ready (rs := [20]) (by kernel_rfl) (by simp) ?_
      refine AllReadyH.cons rfl (fun K hK => ?_) AllReadyH.nil
      refine step_app_s _ rfl (.tmp 34) (.tmp 53) rfl W.heap.size u5 (kTs 11 kid j) (by simp [Act.eval]) HGX.out w1.heap.size 1 (rT (inT false (kid j))) (by simp [Act.eval]) HSRC.out (by rw [kTs_len]; omega) HBX.out.size ?_
      intro v9 w9 hg9 hr9
      have HG9 := Lib.hid hg9
      have HB9 := Lib.hid (HBX.out.grown hr9 HBX.out.size fun q hq => (HGX.out.lt q hq).1)
      clear hg9 hr9
      refine hK.out _ _ (by exact HSW.out _ HB9.out) (fun hHeld => ?_)
      clear hK K
      try simp only [Act.put, List.setIfInBounds_toArray, List.set_cons_zero, List.set_cons_succ]
      refine wpAnyH_ready (rs := [21]) (by kernel_rfl) (by simp) ?_
      refine AllReadyH.cons rfl (fun K hK => ?_) AllReadyH.nil
      go_simp
      refine hK.out _ _ (by exact HSW.out _ HB9.out) (fun hHeld => ?_)
      clear hK K
      try simp only [Act.put, List.setIfInBounds_toArray, List.set_cons_zero, List.set_cons_succ]
      refine wpAnyH_done (by kernel_rfl) ?_ _
      go_wp2_with fail
      go_roundw
      case rel => exact ⟨j + 1, by omega, by go_num, by rw [kTs_succ, HFJ.out]; exact HG9.out, HB9.out⟩
      case measure => simp [intOf]; omega
    · obtain rfl : j = 2 := by omega
      obtain ⟨g, cg, hv, hcs⟩ := HG.out.open (by rw [kTs_len]; omega)
      rw [kTs_len] at hv
      subst hv
      have c0 : wr.cell? ⟨g, 0, none⟩ = some (.string (rT (inT false (kid 0)))) := by
        have := hcs 0 (by rw [kTs_len]; omega)
        rw [kTs_at] at this
        exact this
      have z0 : Sz (rT (inT false (kid 0))) 500000 := HZ.out 0 (by omega) false
      generalize rT (inT false (kid 0)) = T0 at *
      have c1 : wr.cell? ⟨g, 1, none⟩ = some (.string (rT (inT false (kid 1)))) := by
        have := hcs 1 (by rw [kTs_len]; omega)
        rw [kTs_at] at this
        exact this
      have z1 : Sz (rT (inT false (kid 1))) 500000 := HZ.out 1 (by omega) false
      generalize rT (inT false (kid 1)) = T1 at *
      clear HKC HFL hcs
      have q1 : Sz ⟨#[109, 105, 110, 32, 40, 32]⟩ 20 := by unfold Sz; decide
      have q2 : Sz ⟨#[32, 44, 32]⟩ 20 := by unfold Sz; decide
      have q3 : Sz ⟨#[32, 41]⟩ 20 := by unfold Sz; decide
      have j1 := Sz.run q1 z0 (by omega)
      have p1 := Sz.app q1 z0
      have j2 := Sz.run p1 q2 (by omega)
      have p2 := Sz.app p1 q2
      have j3 := Sz.run p2 z1 (by omega)
      have p3 := Sz.app p2 z1
      have j4 := Sz.run p3 q3 (by omega)
      have p4 := Sz.app p3 q3
      go_wp2_with fail
      have d0 := cell_regrown c0
      have d1 := cell_regrown c1
      refine wp_region_quiet_below (by kernel_rfl) (by kernel_rfl) ?_
      repeat (quiet_step (fail))
      refine wpQuiet_nil ?_
      intro _ hw'
      obtain ⟨⟨dq, osq⟩, hw''⟩ := hw'
      subst hw''
      have HBE := Lib.hid (below_regrown wr dq osq)
      go_wp2_with fail
      go_ret
      exact ⟨congrArg (fun x => Ending.returned (.string x)) HT.out, HB0.out.trans ((HB.out.trans (HBE.out.mono HB.out.size)).mono HB0.out.size)⟩
set_option maxRecDepth 100000 in
set_option maxHeartbeats 4000000 in
theorem exprText_12_false (n : Int) (s : ByteArray) (kid : Nat → Ex)  (hC : ∀ j, j < 2 → ∀ b, RcX b (kid j)) (hZ : ∀ j, j < 2 → ∀ b, Sz (rT (inT b (kid j))) 500000) (hT : ⟨#[109, 97, 120, 32, 40, 32]⟩ ++ rT (inT false (kid 0)) ++ ⟨#[32, 44, 32]⟩ ++ rT (inT false (kid 1)) ++ ⟨#[32, 41]⟩ = rT (inT false (Ex.mk 12 n s 2 kid))) : RcX false (Ex.mk 12 n s 2 kid) := by
  have HKC := Lib.hid hC
  have HFL : Hid (∀ j, flg 12 j = false) := by unfold Hid flg; simp
  have HZ := Lib.hid hZ
  have HT := Lib.hid hT
  clear hC hZ hT
  intro a c w hk
  show Calls Tryz.prog 26 #[.agg #[.int .i64 12, .int .i64 n, .string s, .slice a (2 : Nat) c], .bool false] w _
  have HB0 := Lib.hid (kbelow_box w (.cells #[.int .i64 12, .int .i64 n, .string s, .slice a (2 : Nat) c] 39))
  have HX0 : Hid (Obx (w.alloc (.cells #[.int .i64 12, .int .i64 n, .string s, .slice a (2 : Nat) c] 39)) w.heap.size [.int .i64 12, .int .i64 n, .string s, .slice a (2 : Nat) c] 39) := Lib.hid (Obx.made w [.int .i64 12, .int .i64 n, .string s, .slice a (2 : Nat) c] _)
  have HKD := Lib.hid (hk.below HB0.out)
  clear hk
  go_enter Tryz.func26, Tryz.ntmps26
  go_wp2_with fail
  generalize (w.alloc (.cells #[.int .i64 12, .int .i64 n, .string s, .slice a (2 : Nat) c] 39)) = W at *
  go_loopw [5, 6] (fun v i wr => ∃ j : Nat, j ≤ 2 ∧ i = .int .i64 j ∧ GrS wr W.heap.size v (kTs 12 kid j) ∧ Below W.heap.size W wr) (fun _ i _ => 2 - (intOf i).toNat)
  case atStart => exact ⟨0, Nat.zero_le _, rfl, GrS.nil _ _, Below.refl _ _⟩
  case round =>
  
    obtain ⟨j, hj, rfl, hgr, hb⟩ := hrel
    have HG := Lib.hid hgr
    have HB := Lib.hid hb
    obtain ⟨x0, x1, x2, x3⟩ := (HX0.out.below hb).four
    clear hgr hb
    by_cases hlt : j < 2
    · have hltM : (j : Int) < (2 : Int) := by omega
      obtain ⟨b, off, rfl, hcell⟩ := HKD.out.open (show 0 < 2 by omega)
      obtain ⟨aj, cj, ⟨y0, y1, y2, y3⟩, hkj⟩ := hcell wr HB.out j hlt
      obtain ⟨aj2, cj2, hyy, -⟩ := hcell W (Below.refl _ _) j hlt
      have y0' : wr.cell? ⟨b, off + j * 4, none⟩ = some (.int .i64 (kid j).k) := y0
      have y1' : wr.cell? ⟨b, off + j * 4 + 1, none⟩ = some (.int .i64 (kid j).n) := y1
      have y2' : wr.cell? ⟨b, off + j * 4 + 2, none⟩ = some (.string (kid j).s) := y2
      have y3' : wr.cell? ⟨b, off + j * 4 + 3, none⟩ = some (.slice aj (kid j).m cj) := y3
      have HY : Hid (W.cell? ⟨b, off + j * 4, none⟩ = some (.int .i64 (kid j).k) ∧ W.cell? ⟨b, off + j * 4 + 1, none⟩ = some (.int .i64 (kid j).n) ∧ W.cell? ⟨b, off + j * 4 + 2, none⟩ = some (.string (kid j).s) ∧ W.cell? ⟨b, off + j * 4 + 3, none⟩ = some (.slice aj (kid j).m cj)) := by
        obtain ⟨z0, z1, z2, z3⟩ := hyy
        have e3 := (HB.out.cell (p := ⟨b, off + j * 4 + 3, none⟩) (blt_of_cell z3)).trans z3
        have e4 := e3.symm.trans y3'
        injection e4 with e4
        injection e4 with e5 e6 e7
        subst e5 e7
        exact ⟨z0, z1, z2, z3⟩
      have HKJ : Hid (∀ (fb : Bool) (W' : World), Below wr.heap.size wr W' → Calls Tryz.prog 26 #[.agg #[.int .i64 (kid j).k, .int .i64 (kid j).n, .string (kid j).s, .slice aj (kid j).m cj], .bool fb] W' fun e w' => e = .returned (.string (rT (inT fb (kid j)))) ∧ Below W'.heap.size W' w') := fun fb W' hb' => HKC.out j hlt fb aj cj W' (hkj.below hb')
      clear y0 y1 y2 y3 hcell hkj hyy
      generalize (kid j).k = kk at *
      generalize (kid j).n = kn' at *
      generalize (kid j).s = ks at *
      generalize (kid j).m = km at *
      have HFJ := Lib.hid (HFL.out j)
      go_wp2_with fail
      have HSW : Hid (∀ w2, Below W.heap.size W w2 → (w2.cell? ⟨w.heap.size, 0, none⟩ = some (.int .i64 12) ∧ w2.cell? ⟨w.heap.size, 3, none⟩ = some (.slice (some ⟨b, off, none⟩) 2 c) ∧ w2.cell? ⟨b, off + j * 4, none⟩ = some (.int .i64 kk) ∧ w2.cell? ⟨b, off + j * 4 + 1, none⟩ = some (.int .i64 kn') ∧ w2.cell? ⟨b, off + j * 4 + 2, none⟩ = some (.string ks) ∧ w2.cell? ⟨b, off + j * 4 + 3, none⟩ = some (.slice aj km cj))) := fun w2 hb =>
        ⟨(hb.cell (blt_of_cell HX0.out.c0)).trans HX0.out.c0, (hb.cell (blt_of_cell HX0.out.c3)).trans HX0.out.c3, (hb.cell (blt_of_cell HY.out.1)).trans HY.out.1, (hb.cell (blt_of_cell HY.out.2.1)).trans HY.out.2.1, (hb.cell (blt_of_cell HY.out.2.2.1)).trans HY.out.2.2.1, (hb.cell (blt_of_cell HY.out.2.2.2)).trans HY.out.2.2.2⟩
      clear x0 x1 x2 x3 y0' y1' y2' y3'
      refine wp_region_held_drew (S := fun w' => w'.cell? ⟨w.heap.size, 0, none⟩ = some (.int .i64 12) ∧ w'.cell? ⟨w.heap.size, 3, none⟩ = some (.slice (some ⟨b, off, none⟩) 2 c) ∧ w'.cell? ⟨b, off + j * 4, none⟩ = some (.int .i64 kk) ∧ w'.cell? ⟨b, off + j * 4 + 1, none⟩ = some (.int .i64 kn') ∧ w'.cell? ⟨b, off + j * 4 + 2, none⟩ = some (.string ks) ∧ w'.cell? ⟨b, off + j * 4 + 3, none⟩ = some (.slice aj km cj)) (by kernel_rfl) ?_ (fun hHeld => ?_)
      · exact HSW.out wr HB.out
      refine wpAnyH_take (i := 0) (oi := _) (v := u5) rfl (by kernel_rfl) (by kernel_rfl) (by kernel_rfl) (fun _ _ _ h => h) (Or.inl ⟨by kernel_rfl, fun w' hSw => ?_⟩) (by assumption) ?_
      · ((try dsimp only at hSw); go_simp; try with_reducible rfl)
      try simp only [Act.put, List.setIfInBounds_toArray, List.set_cons_zero, List.set_cons_succ]
      refine wpAnyH_take (i := 1) (oi := _) (v := .pointer (some ⟨w.heap.size, 3, none⟩)) rfl (by kernel_rfl) (by kernel_rfl) (by kernel_rfl) (fun _ _ _ h => h) (Or.inl ⟨by kernel_rfl, fun w' hSw => ?_⟩) (by assumption) ?_
      · ((try dsimp only at hSw); go_simp; try with_reducible rfl)
      try simp only [Act.put, List.setIfInBounds_toArray, List.set_cons_zero, List.set_cons_succ]
      refine wpAnyH_take (i := 2) (oi := _) (v := .slice (some ⟨b, off, none⟩) 2 c) rfl (by kernel_rfl) (by kernel_rfl) (by kernel_rfl) (fun _ _ _ h => h) (Or.inl ⟨by kernel_rfl, fun w' hSw => ?_⟩) (by assumption) ?_
      · ((try dsimp only at hSw); go_simp; try with_reducible rfl)
      try simp only [Act.put, List.setIfInBounds_toArray, List.set_cons_zero, List.set_cons_succ]
      refine wpAnyH_take (i := 3) (oi := _) (v := .int .i64 (j : Int)) rfl (by kernel_rfl) (by kernel_rfl) (by kernel_rfl) (fun _ _ _ h => h) (Or.inl ⟨by kernel_rfl, fun w' hSw => ?_⟩) (by assumption) ?_
      · ((try dsimp only at hSw); go_simp; try with_reducible rfl)
      try simp only [Act.put, List.setIfInBounds_toArray, List.set_cons_zero, List.set_cons_succ]
      refine wpAnyH_take (i := 4) (oi := _) (v := .pointer (some ⟨b, off + j * 4, none⟩)) rfl (by kernel_rfl) (by kernel_rfl) (by kernel_rfl) (fun _ _ _ h => h) (Or.inl ⟨by kernel_rfl, fun w' hSw => ?_⟩) (by assumption) ?_
      · ((try dsimp only at hSw); go_simp; try with_reducible rfl)
      try simp only [Act.put, List.setIfInBounds_toArray, List.set_cons_zero, List.set_cons_succ]
      refine wpAnyH_take (i := 5) (oi := _) (v := .agg #[.int .i64 kk, .int .i64 kn', .string ks, .slice aj km cj]) rfl (by kernel_rfl) (by kernel_rfl) (by kernel_rfl) (fun _ _ _ h => h) (Or.inl ⟨by kernel_rfl, fun w' hSw => ?_⟩) (by assumption) ?_
      · ((try dsimp only at hSw); go_simp; try with_reducible rfl)
      try simp only [Act.put, List.setIfInBounds_toArray, List.set_cons_zero, List.set_cons_succ]
      refine wpAnyH_take (i := 6) (oi := _) (v := .pointer (some ⟨w.heap.size, 0, none⟩)) rfl (by kernel_rfl) (by kernel_rfl) (by kernel_rfl) (fun _ _ _ h => h) (Or.inl ⟨by kernel_rfl, fun w' hSw => ?_⟩) (by assumption) ?_
      · ((try dsimp only at hSw); go_simp; try with_reducible rfl)
      try simp only [Act.put, List.setIfInBounds_toArray, List.set_cons_zero, List.set_cons_succ]
      refine wpAnyH_take (i := 7) (oi := _) (v := .int .i64 12) rfl (by kernel_rfl) (by kernel_rfl) (by kernel_rfl) (fun _ _ _ h => h) (Or.inl ⟨by kernel_rfl, fun w' hSw => ?_⟩) (by assumption) ?_
      · ((try dsimp only at hSw); go_simp; try with_reducible rfl)
      try simp only [Act.put, List.setIfInBounds_toArray, List.set_cons_zero, List.set_cons_succ]
      refine wpAnyH_take (i := 8) (oi := _) (v := .bool false) rfl (by kernel_rfl) (by kernel_rfl) (by kernel_rfl) (fun _ _ _ h => h) (Or.inl ⟨by kernel_rfl, fun w' hSw => ?_⟩) (by assumption) ?_
      · ((try dsimp only at hSw); go_simp; try with_reducible rfl)
      try simp only [Act.put, List.setIfInBounds_toArray, List.set_cons_zero, List.set_cons_succ]
      refine wpAnyH_take (i := 9) (oi := _) (v := .bool false) rfl (by kernel_rfl) (by kernel_rfl) (by kernel_rfl) (fun _ _ _ h => h) (Or.inl ⟨by kernel_rfl, fun w' hSw => ?_⟩) (by assumption) ?_
      · ((try dsimp only at hSw); go_simp; try with_reducible rfl)
      try simp only [Act.put, List.setIfInBounds_toArray, List.set_cons_zero, List.set_cons_succ]
      refine wpAnyH_take (i := 10) (oi := _) (v := .pointer (some ⟨w.heap.size, 0, none⟩)) rfl (by kernel_rfl) (by kernel_rfl) (by kernel_rfl) (fun _ _ _ h => h) (Or.inl ⟨by kernel_rfl, fun w' hSw => ?_⟩) (by assumption) ?_
      · ((try dsimp only at hSw); go_simp; try with_reducible rfl)
      try simp only [Act.put, List.setIfInBounds_toArray, List.set_cons_zero, List.set_cons_succ]
      refine wpAnyH_take (i := 11) (oi := _) (v := .int .i64 12) rfl (by kernel_rfl) (by kernel_rfl) (by kernel_rfl) (fun _ _ _ h => h) (Or.inl ⟨by kernel_rfl, fun w' hSw => ?_⟩) (by assumption) ?_
      · ((try dsimp only at hSw); go_simp; try with_reducible rfl)
      try simp only [Act.put, List.setIfInBounds_toArray, List.set_cons_zero, List.set_cons_succ]
      refine wpAnyH_take (i := 12) (oi := _) (v := .bool false) rfl (by kernel_rfl) (by kernel_rfl) (by kernel_rfl) (fun _ _ _ h => h) (Or.inl ⟨by kernel_rfl, fun w' hSw => ?_⟩) (by assumption) ?_
      · ((try dsimp only at hSw); go_simp; try with_reducible rfl)
      try simp only [Act.put, List.setIfInBounds_toArray, List.set_cons_zero, List.set_cons_succ]
      refine wpAnyH_take (i := 13) (oi := _) (v := .bool false) rfl (by kernel_rfl) (by kernel_rfl) (by kernel_rfl) (fun _ _ _ h => h) (Or.inl ⟨by kernel_rfl, fun w' hSw => ?_⟩) (by assumption) ?_
      · ((try dsimp only at hSw); go_simp; try with_reducible rfl)
      try simp only [Act.put, List.setIfInBounds_toArray, List.set_cons_zero, List.set_cons_succ]
      refine wpAnyH_take (i := 14) (oi := _) (v := undef) rfl (by kernel_rfl) (by kernel_rfl) (by kernel_rfl) (fun _ _ _ h => h) (Or.inr ⟨by kernel_rfl, rfl⟩) (by assumption) ?_
      try simp only [Act.put, List.setIfInBounds_toArray, List.set_cons_zero, List.set_cons_succ]
      refine wpAnyH_take (i := 15) (oi := _) (v := undef) rfl (by kernel_rfl) (by kernel_rfl) (by kernel_rfl) (fun _ _ _ h => h) (Or.inr ⟨by kernel_rfl, rfl⟩) (by assumption) ?_
      try simp only [Act.put, List.setIfInBounds_toArray, List.set_cons_zero, List.set_cons_succ]
      refine wpAnyH_take (i := 16) (oi := _) (v := .bool false) rfl (by kernel_rfl) (by kernel_rfl) (by kernel_rfl) (fun _ _ _ h => h) (Or.inl ⟨by kernel_rfl, fun w' hSw => ?_⟩) (by assumption) ?_
      · ((try dsimp only at hSw); go_simp; try with_reducible rfl)
      try simp only [Act.put, List.setIfInBounds_toArray, List.set_cons_zero, List.set_cons_succ]
      refine wpAnyH_take (i := 17) (oi := _) (v := .bool false) rfl (by kernel_rfl) (by kernel_rfl) (by kernel_rfl) (fun _ _ _ h => h) (Or.inl ⟨by kernel_rfl, fun w' hSw => ?_⟩) (by assumption) ?_
      · ((try dsimp only at hSw); go_simp; try with_reducible rfl)
      try simp only [Act.put, List.setIfInBounds_toArray, List.set_cons_zero, List.set_cons_succ]
      refine wpAnyH_ready (rs := [18]) (by kernel_rfl) (by simp) ?_
      refine AllReadyH.cons rfl (fun K hK => ?_) AllReadyH.nil
      go_simp
      refine (HKJ.out false _ (kbelow_dN (Below.refl _ _) 1)).mono ?_
      rintro e w1 ⟨rfl, hb1⟩
      have HB1' := Lib.hid (rfrom_drew hb1)
      have HB1 := Lib.hid (HB.out.trans ((rfrom_drew hb1).mono HB.out.size))
      have HTX := Lib.hid (kbelow_box w1 (.cells #[.string (rT (inT false (kid j)))] 9))
      have HGX := Lib.hid ((HG.out.below HB1'.out).below HTX.out)
      have HBX := Lib.hid (HB1.out.trans (HTX.out.mono HB1.out.size))
      have hsrc : (w1.alloc (.cells #[.string (rT (inT false (kid j)))] 9)).cell? ⟨w1.heap.size, 0, none⟩ = some (.string (rT (inT false (kid j)))) := by simp
      have HSRC := Lib.hid hsrc
      clear hb1 hsrc
      try go_wp2_with fail
      refine hK.out _ _ (by exact HSW.out _ HB1.out) (fun hHeld => ?_)
      clear hK K
      try simp only [Act.put, List.setIfInBounds_toArray, List.set_cons_zero, List.set_cons_succ]
      refine wpAnyH_ready (rs := [19]) (by kernel_rfl) (by simp) ?_
      refine AllReadyH.cons rfl (fun K hK => ?_) AllReadyH.nil
      go_simp
      refine hK.out _ _ (by exact HSW.out _ HBX.out) (fun hHeld => ?_)
      clear hK K
      try simp only [Act.put, List.setIfInBounds_toArray, List.set_cons_zero, List.set_cons_succ]
      refine wpAnyH_ready (rs := [20]) (by kernel_rfl) (by simp) ?_
      refine AllReadyH.cons rfl (fun K hK => ?_) AllReadyH.nil
      refine step_app_s _ rfl (.tmp 34) (.tmp 53) rfl W.heap.size u5 (kTs 12 kid j) (by simp [Act.eval]) HGX.out w1.heap.size 1 (rT (inT false (kid j))) (by simp [Act.eval]) HSRC.out (by rw [kTs_len]; omega) HBX.out.size ?_
      intro v9 w9 hg9 hr9
      have HG9 := Lib.hid hg9
      have HB9 := Lib.hid (HBX.out.grown hr9 HBX.out.size fun q hq => (HGX.out.lt q hq).1)
      clear hg9 hr9
      refine hK.out _ _ (by exact HSW.out _ HB9.out) (fun hHeld => ?_)
      clear hK K
      try simp only [Act.put, List.setIfInBounds_toArray, List.set_cons_zero, List.set_cons_succ]
      refine wpAnyH_ready (rs := [21]) (by kernel_rfl) (by simp) ?_
      refine AllReadyH.cons rfl (fun K hK => ?_) AllReadyH.nil
      go_simp
      refine hK.out _ _ (by exact HSW.out _ HB9.out) (fun hHeld => ?_)
      clear hK K
      try simp only [Act.put, List.setIfInBounds_toArray, List.set_cons_zero, List.set_cons_succ]
      refine wpAnyH_done (by kernel_rfl) ?_ _
      go_wp2_with fail
      go_roundw
      case rel => exact ⟨j + 1, by omega, by go_num, by rw [kTs_succ, HFJ.out]; exact HG9.out, HB9.out⟩
      case measure => simp [intOf]; omega
    · obtain rfl : j = 2 := by omega
      obtain ⟨g, cg, hv, hcs⟩ := HG.out.open (by rw [kTs_len]; omega)
      rw [kTs_len] at hv
      subst hv
      have c0 : wr.cell? ⟨g, 0, none⟩ = some (.string (rT (inT false (kid 0)))) := by
        have := hcs 0 (by rw [kTs_len]; omega)
        rw [kTs_at] at this
        exact this
      have z0 : Sz (rT (inT false (kid 0))) 500000 := HZ.out 0 (by omega) false
      generalize rT (inT false (kid 0)) = T0 at *
      have c1 : wr.cell? ⟨g, 1, none⟩ = some (.string (rT (inT false (kid 1)))) := by
        have := hcs 1 (by rw [kTs_len]; omega)
        rw [kTs_at] at this
        exact this
      have z1 : Sz (rT (inT false (kid 1))) 500000 := HZ.out 1 (by omega) false
      generalize rT (inT false (kid 1)) = T1 at *
      clear HKC HFL hcs
      have q1 : Sz ⟨#[109, 97, 120, 32, 40, 32]⟩ 20 := by unfold Sz; decide
      have q2 : Sz ⟨#[32, 44, 32]⟩ 20 := by unfold Sz; decide
      have q3 : Sz ⟨#[32, 41]⟩ 20 := by unfold Sz; decide
      have j1 := Sz.run q1 z0 (by omega)
      have p1 := Sz.app q1 z0
      have j2 := Sz.run p1 q2 (by omega)
      have p2 := Sz.app p1 q2
      have j3 := Sz.run p2 z1 (by omega)
      have p3 := Sz.app p2 z1
      have j4 := Sz.run p3 q3 (by omega)
      have p4 := Sz.app p3 q3
      go_wp2_with fail
      have d0 := cell_regrown c0
      have d1 := cell_regrown c1
      refine wp_region_quiet_below (by kernel_rfl) (by kernel_rfl) ?_
      repeat (quiet_step (fail))
      refine wpQuiet_nil ?_
      intro _ hw'
      obtain ⟨⟨dq, osq⟩, hw''⟩ := hw'
      subst hw''
      have HBE := Lib.hid (below_regrown wr dq osq)
      go_wp2_with fail
      go_ret
      exact ⟨congrArg (fun x => Ending.returned (.string x)) HT.out, HB0.out.trans ((HB.out.trans (HBE.out.mono HB.out.size)).mono HB0.out.size)⟩
end Go.Proofs.YtchiifnciijagaaGreatDoor
set_option linter.unusedSimpArgs false
namespace Go.Proofs.YtchiifnciijagaaGreatDoor
open Go.RowKit


set_option maxRecDepth 100000 in
set_option maxHeartbeats 4000000 in
theorem exprText_1_false (n : Int) (s : ByteArray) (kid : Nat → Ex) (HN : Hid (monB n = true)) (hC : ∀ j, j < 0 → ∀ b, RcX b (kid j)) (hZ : ∀ j, j < 0 → ∀ b, Sz (rT (inT b (kid j))) 500000) (hT : mT n = rT (inT false (Ex.mk 1 n s 0 kid))) : RcX false (Ex.mk 1 n s 0 kid) := by
  have HKC := Lib.hid hC
  have HZ := Lib.hid hZ
  have HT := Lib.hid hT
  clear hC hZ hT
  intro a c w hk
  show Calls Tryz.prog 26 #[.agg #[.int .i64 1, .int .i64 n, .string s, .slice a (0 : Nat) c], .bool false] w _
  have HB0 := Lib.hid (kbelow_box w (.cells #[.int .i64 1, .int .i64 n, .string s, .slice a (0 : Nat) c] 39))
  have HX0 : Hid (Obx (w.alloc (.cells #[.int .i64 1, .int .i64 n, .string s, .slice a (0 : Nat) c] 39)) w.heap.size [.int .i64 1, .int .i64 n, .string s, .slice a (0 : Nat) c] 39) := Lib.hid (Obx.made w [.int .i64 1, .int .i64 n, .string s, .slice a (0 : Nat) c] _)
  have HKD := Lib.hid (hk.below HB0.out)
  clear hk
  go_enter Tryz.func26, Tryz.ntmps26
  go_wp2_with fail
  generalize (w.alloc (.cells #[.int .i64 1, .int .i64 n, .string s, .slice a (0 : Nat) c] 39)) = W at *
  go_loopw [5, 6] (fun v i wr => i = .int .i64 0 ∧ Below W.heap.size W wr) (fun _ i _ => 0)
  case atStart => exact ⟨rfl, Below.refl _ _⟩
  case round =>
  
    obtain ⟨rfl, hb⟩ := hrel
    have HB := Lib.hid hb
    obtain ⟨x0, x1, x2, x3⟩ := (HX0.out.below hb).four
    clear hb
    go_wp2_with fail
    refine (moneyText_m n _ HN.out).mono ?_
    rintro e w1 ⟨rfl, hb1⟩
    go_wp2_with fail
    go_ret
    exact ⟨congrArg (fun x => Ending.returned (.string x)) HT.out, HB0.out.trans ((HB.out.trans (hb1.mono HB.out.size)).mono HB0.out.size)⟩
set_option maxRecDepth 100000 in
set_option maxHeartbeats 4000000 in
theorem exprText_2_false (n : Int) (s : ByteArray) (kid : Nat → Ex)  (hC : ∀ j, j < 0 → ∀ b, RcX b (kid j)) (hZ : ∀ j, j < 0 → ∀ b, Sz (rT (inT b (kid j))) 500000) (hT : s = rT (inT false (Ex.mk 2 n s 0 kid))) : RcX false (Ex.mk 2 n s 0 kid) := by
  have HKC := Lib.hid hC
  have HZ := Lib.hid hZ
  have HT := Lib.hid hT
  clear hC hZ hT
  intro a c w hk
  show Calls Tryz.prog 26 #[.agg #[.int .i64 2, .int .i64 n, .string s, .slice a (0 : Nat) c], .bool false] w _
  have HB0 := Lib.hid (kbelow_box w (.cells #[.int .i64 2, .int .i64 n, .string s, .slice a (0 : Nat) c] 39))
  have HX0 : Hid (Obx (w.alloc (.cells #[.int .i64 2, .int .i64 n, .string s, .slice a (0 : Nat) c] 39)) w.heap.size [.int .i64 2, .int .i64 n, .string s, .slice a (0 : Nat) c] 39) := Lib.hid (Obx.made w [.int .i64 2, .int .i64 n, .string s, .slice a (0 : Nat) c] _)
  have HKD := Lib.hid (hk.below HB0.out)
  clear hk
  go_enter Tryz.func26, Tryz.ntmps26
  go_wp2_with fail
  generalize (w.alloc (.cells #[.int .i64 2, .int .i64 n, .string s, .slice a (0 : Nat) c] 39)) = W at *
  go_loopw [5, 6] (fun v i wr => i = .int .i64 0 ∧ Below W.heap.size W wr) (fun _ i _ => 0)
  case atStart => exact ⟨rfl, Below.refl _ _⟩
  case round =>
  
    obtain ⟨rfl, hb⟩ := hrel
    have HB := Lib.hid hb
    obtain ⟨x0, x1, x2, x3⟩ := (HX0.out.below hb).four
    clear hb
    go_wp2_with fail
    go_ret
    exact ⟨congrArg (fun x => Ending.returned (.string x)) HT.out, HB0.out.trans (HB.out.mono HB0.out.size)⟩
set_option maxRecDepth 100000 in
set_option maxHeartbeats 4000000 in
theorem exprText_3_false (n : Int) (s : ByteArray) (kid : Nat → Ex) (ZN : Sz s 8) (hC : ∀ j, j < 0 → ∀ b, RcX b (kid j)) (hZ : ∀ j, j < 0 → ∀ b, Sz (rT (inT b (kid j))) 500000) (hT : ⟨#[121, 101, 97, 114, 32]⟩ ++ s = rT (inT false (Ex.mk 3 n s 0 kid))) : RcX false (Ex.mk 3 n s 0 kid) := by
  have HKC := Lib.hid hC
  have HZ := Lib.hid hZ
  have HT := Lib.hid hT
  clear hC hZ hT
  intro a c w hk
  show Calls Tryz.prog 26 #[.agg #[.int .i64 3, .int .i64 n, .string s, .slice a (0 : Nat) c], .bool false] w _
  have HB0 := Lib.hid (kbelow_box w (.cells #[.int .i64 3, .int .i64 n, .string s, .slice a (0 : Nat) c] 39))
  have HX0 : Hid (Obx (w.alloc (.cells #[.int .i64 3, .int .i64 n, .string s, .slice a (0 : Nat) c] 39)) w.heap.size [.int .i64 3, .int .i64 n, .string s, .slice a (0 : Nat) c] 39) := Lib.hid (Obx.made w [.int .i64 3, .int .i64 n, .string s, .slice a (0 : Nat) c] _)
  have HKD := Lib.hid (hk.below HB0.out)
  clear hk
  go_enter Tryz.func26, Tryz.ntmps26
  go_wp2_with fail
  generalize (w.alloc (.cells #[.int .i64 3, .int .i64 n, .string s, .slice a (0 : Nat) c] 39)) = W at *
  go_loopw [5, 6] (fun v i wr => i = .int .i64 0 ∧ Below W.heap.size W wr) (fun _ i _ => 0)
  case atStart => exact ⟨rfl, Below.refl _ _⟩
  case round =>
  
    obtain ⟨rfl, hb⟩ := hrel
    have HB := Lib.hid hb
    obtain ⟨x0, x1, x2, x3⟩ := (HX0.out.below hb).four
    clear hb
    have q1 : Sz ⟨#[121, 101, 97, 114, 32]⟩ 20 := by unfold Sz; decide
    have j1 := Sz.run q1 ZN (by omega)
    have p1 := Sz.app q1 ZN
    go_wp2_with fail
    go_ret
    exact ⟨congrArg (fun x => Ending.returned (.string x)) HT.out, HB0.out.trans (HB.out.mono HB0.out.size)⟩
set_option maxRecDepth 100000 in
set_option maxHeartbeats 4000000 in
theorem exprText_1_true (n : Int) (s : ByteArray) (kid : Nat → Ex) (HN : Hid (monB n = true)) (hC : ∀ j, j < 0 → ∀ b, RcX b (kid j)) (hZ : ∀ j, j < 0 → ∀ b, Sz (rT (inT b (kid j))) 500000) (hT : mT n = rT (inT true (Ex.mk 1 n s 0 kid))) : RcX true (Ex.mk 1 n s 0 kid) := by
  have HKC := Lib.hid hC
  have HZ := Lib.hid hZ
  have HT := Lib.hid hT
  clear hC hZ hT
  intro a c w hk
  show Calls Tryz.prog 26 #[.agg #[.int .i64 1, .int .i64 n, .string s, .slice a (0 : Nat) c], .bool true] w _
  have HB0 := Lib.hid (kbelow_box w (.cells #[.int .i64 1, .int .i64 n, .string s, .slice a (0 : Nat) c] 39))
  have HX0 : Hid (Obx (w.alloc (.cells #[.int .i64 1, .int .i64 n, .string s, .slice a (0 : Nat) c] 39)) w.heap.size [.int .i64 1, .int .i64 n, .string s, .slice a (0 : Nat) c] 39) := Lib.hid (Obx.made w [.int .i64 1, .int .i64 n, .string s, .slice a (0 : Nat) c] _)
  have HKD := Lib.hid (hk.below HB0.out)
  clear hk
  go_enter Tryz.func26, Tryz.ntmps26
  go_wp2_with fail
  generalize (w.alloc (.cells #[.int .i64 1, .int .i64 n, .string s, .slice a (0 : Nat) c] 39)) = W at *
  go_loopw [5, 6] (fun v i wr => i = .int .i64 0 ∧ Below W.heap.size W wr) (fun _ i _ => 0)
  case atStart => exact ⟨rfl, Below.refl _ _⟩
  case round =>
  
    obtain ⟨rfl, hb⟩ := hrel
    have HB := Lib.hid hb
    obtain ⟨x0, x1, x2, x3⟩ := (HX0.out.below hb).four
    clear hb
    go_wp2_with fail
    refine (moneyText_m n _ HN.out).mono ?_
    rintro e w1 ⟨rfl, hb1⟩
    go_wp2_with fail
    go_ret
    exact ⟨congrArg (fun x => Ending.returned (.string x)) HT.out, HB0.out.trans ((HB.out.trans (hb1.mono HB.out.size)).mono HB0.out.size)⟩
set_option maxRecDepth 100000 in
set_option maxHeartbeats 4000000 in
theorem exprText_2_true (n : Int) (s : ByteArray) (kid : Nat → Ex)  (hC : ∀ j, j < 0 → ∀ b, RcX b (kid j)) (hZ : ∀ j, j < 0 → ∀ b, Sz (rT (inT b (kid j))) 500000) (hT : s = rT (inT true (Ex.mk 2 n s 0 kid))) : RcX true (Ex.mk 2 n s 0 kid) := by
  have HKC := Lib.hid hC
  have HZ := Lib.hid hZ
  have HT := Lib.hid hT
  clear hC hZ hT
  intro a c w hk
  show Calls Tryz.prog 26 #[.agg #[.int .i64 2, .int .i64 n, .string s, .slice a (0 : Nat) c], .bool true] w _
  have HB0 := Lib.hid (kbelow_box w (.cells #[.int .i64 2, .int .i64 n, .string s, .slice a (0 : Nat) c] 39))
  have HX0 : Hid (Obx (w.alloc (.cells #[.int .i64 2, .int .i64 n, .string s, .slice a (0 : Nat) c] 39)) w.heap.size [.int .i64 2, .int .i64 n, .string s, .slice a (0 : Nat) c] 39) := Lib.hid (Obx.made w [.int .i64 2, .int .i64 n, .string s, .slice a (0 : Nat) c] _)
  have HKD := Lib.hid (hk.below HB0.out)
  clear hk
  go_enter Tryz.func26, Tryz.ntmps26
  go_wp2_with fail
  generalize (w.alloc (.cells #[.int .i64 2, .int .i64 n, .string s, .slice a (0 : Nat) c] 39)) = W at *
  go_loopw [5, 6] (fun v i wr => i = .int .i64 0 ∧ Below W.heap.size W wr) (fun _ i _ => 0)
  case atStart => exact ⟨rfl, Below.refl _ _⟩
  case round =>
  
    obtain ⟨rfl, hb⟩ := hrel
    have HB := Lib.hid hb
    obtain ⟨x0, x1, x2, x3⟩ := (HX0.out.below hb).four
    clear hb
    go_wp2_with fail
    go_ret
    exact ⟨congrArg (fun x => Ending.returned (.string x)) HT.out, HB0.out.trans (HB.out.mono HB0.out.size)⟩
set_option maxRecDepth 100000 in
set_option maxHeartbeats 4000000 in
theorem exprText_3_true (n : Int) (s : ByteArray) (kid : Nat → Ex) (ZN : Sz s 8) (hC : ∀ j, j < 0 → ∀ b, RcX b (kid j)) (hZ : ∀ j, j < 0 → ∀ b, Sz (rT (inT b (kid j))) 500000) (hT : ⟨#[121, 101, 97, 114, 32]⟩ ++ s = rT (inT true (Ex.mk 3 n s 0 kid))) : RcX true (Ex.mk 3 n s 0 kid) := by
  have HKC := Lib.hid hC
  have HZ := Lib.hid hZ
  have HT := Lib.hid hT
  clear hC hZ hT
  intro a c w hk
  show Calls Tryz.prog 26 #[.agg #[.int .i64 3, .int .i64 n, .string s, .slice a (0 : Nat) c], .bool true] w _
  have HB0 := Lib.hid (kbelow_box w (.cells #[.int .i64 3, .int .i64 n, .string s, .slice a (0 : Nat) c] 39))
  have HX0 : Hid (Obx (w.alloc (.cells #[.int .i64 3, .int .i64 n, .string s, .slice a (0 : Nat) c] 39)) w.heap.size [.int .i64 3, .int .i64 n, .string s, .slice a (0 : Nat) c] 39) := Lib.hid (Obx.made w [.int .i64 3, .int .i64 n, .string s, .slice a (0 : Nat) c] _)
  have HKD := Lib.hid (hk.below HB0.out)
  clear hk
  go_enter Tryz.func26, Tryz.ntmps26
  go_wp2_with fail
  generalize (w.alloc (.cells #[.int .i64 3, .int .i64 n, .string s, .slice a (0 : Nat) c] 39)) = W at *
  go_loopw [5, 6] (fun v i wr => i = .int .i64 0 ∧ Below W.heap.size W wr) (fun _ i _ => 0)
  case atStart => exact ⟨rfl, Below.refl _ _⟩
  case round =>
  
    obtain ⟨rfl, hb⟩ := hrel
    have HB := Lib.hid hb
    obtain ⟨x0, x1, x2, x3⟩ := (HX0.out.below hb).four
    clear hb
    have q1 : Sz ⟨#[121, 101, 97, 114, 32]⟩ 20 := by unfold Sz; decide
    have j1 := Sz.run q1 ZN (by omega)
    have p1 := Sz.app q1 ZN
    go_wp2_with fail
    go_ret
    exact ⟨congrArg (fun x => Ending.returned (.string x)) HT.out, HB0.out.trans (HB.out.mono HB0.out.size)⟩
end Go.Proofs.YtchiifnciijagaaGreatDoor
set_option linter.unusedSimpArgs false
namespace Go.Proofs.YtchiifnciijagaaGreatDoor
open Go.RowKit


set_option maxRecDepth 100000 in
set_option maxHeartbeats 4000000 in
theorem exprText_w_7 (n : Int) (s : ByteArray) (m : Nat) (kid : Nat → Ex) (hC : RcX false (Ex.mk 7 n s m kid)) (hz : Sz (rT (inT false (Ex.mk 7 n s m kid))) 500000) (hT : ⟨#[40, 32]⟩ ++ rT (inT false (Ex.mk 7 n s m kid)) ++ ⟨#[32, 41]⟩ = rT (inT true (Ex.mk 7 n s m kid))) : RcX true (Ex.mk 7 n s m kid) := by
  have HC : Hid (∀ (a : Option Addr) (c : Nat) (w : World), KidsAt w (Ex.mk 7 n s m kid) a → Calls Tryz.prog 26 #[.agg #[.int .i64 7, .int .i64 n, .string s, .slice a m c], .bool false] w fun e w' => e = .returned (.string (rT (inT false (Ex.mk 7 n s m kid)))) ∧ Below w.heap.size w w') := Lib.hid hC
  have HT := Lib.hid hT
  have q1 : Sz ⟨#[40, 32]⟩ 20 := by unfold Sz; decide
  have q2 : Sz ⟨#[32, 41]⟩ 20 := by unfold Sz; decide
  have j1 := Sz.run q1 hz (by omega)
  have p1 := Sz.app q1 hz
  have j2 := Sz.run p1 q2 (by omega)
  have p2 := Sz.app p1 q2
  clear hC hT
  intro a c w hk
  show Calls Tryz.prog 26 #[.agg #[.int .i64 7, .int .i64 n, .string s, .slice a (m : Nat) c], .bool true] w _
  have HB0 := Lib.hid (kbelow_box w (.cells #[.int .i64 7, .int .i64 n, .string s, .slice a (m : Nat) c] 39))
  have HX0 : Hid (Obx (w.alloc (.cells #[.int .i64 7, .int .i64 n, .string s, .slice a (m : Nat) c] 39)) w.heap.size [.int .i64 7, .int .i64 n, .string s, .slice a (m : Nat) c] 39) := Lib.hid (Obx.made w [.int .i64 7, .int .i64 n, .string s, .slice a (m : Nat) c] _)
  have HKD := Lib.hid (hk.below HB0.out)
  clear hk
  go_enter Tryz.func26, Tryz.ntmps26
  go_wp2_with fail
  generalize (w.alloc (.cells #[.int .i64 7, .int .i64 n, .string s, .slice a (m : Nat) c] 39)) = W at *
  refine (HC.out a c _ (HKD.out.below (kbelow_dN (Below.refl _ _) 0))).mono ?_
  rintro e w1 ⟨rfl, hb1⟩
  go_wp2_with fail
  go_ret
  exact ⟨congrArg (fun x => Ending.returned (.string x)) HT.out, HB0.out.trans (hb1.mono HB0.out.size)⟩
set_option maxRecDepth 100000 in
set_option maxHeartbeats 4000000 in
theorem exprText_w_8 (n : Int) (s : ByteArray) (m : Nat) (kid : Nat → Ex) (hC : RcX false (Ex.mk 8 n s m kid)) (hz : Sz (rT (inT false (Ex.mk 8 n s m kid))) 500000) (hT : ⟨#[40, 32]⟩ ++ rT (inT false (Ex.mk 8 n s m kid)) ++ ⟨#[32, 41]⟩ = rT (inT true (Ex.mk 8 n s m kid))) : RcX true (Ex.mk 8 n s m kid) := by
  have HC : Hid (∀ (a : Option Addr) (c : Nat) (w : World), KidsAt w (Ex.mk 8 n s m kid) a → Calls Tryz.prog 26 #[.agg #[.int .i64 8, .int .i64 n, .string s, .slice a m c], .bool false] w fun e w' => e = .returned (.string (rT (inT false (Ex.mk 8 n s m kid)))) ∧ Below w.heap.size w w') := Lib.hid hC
  have HT := Lib.hid hT
  have q1 : Sz ⟨#[40, 32]⟩ 20 := by unfold Sz; decide
  have q2 : Sz ⟨#[32, 41]⟩ 20 := by unfold Sz; decide
  have j1 := Sz.run q1 hz (by omega)
  have p1 := Sz.app q1 hz
  have j2 := Sz.run p1 q2 (by omega)
  have p2 := Sz.app p1 q2
  clear hC hT
  intro a c w hk
  show Calls Tryz.prog 26 #[.agg #[.int .i64 8, .int .i64 n, .string s, .slice a (m : Nat) c], .bool true] w _
  have HB0 := Lib.hid (kbelow_box w (.cells #[.int .i64 8, .int .i64 n, .string s, .slice a (m : Nat) c] 39))
  have HX0 : Hid (Obx (w.alloc (.cells #[.int .i64 8, .int .i64 n, .string s, .slice a (m : Nat) c] 39)) w.heap.size [.int .i64 8, .int .i64 n, .string s, .slice a (m : Nat) c] 39) := Lib.hid (Obx.made w [.int .i64 8, .int .i64 n, .string s, .slice a (m : Nat) c] _)
  have HKD := Lib.hid (hk.below HB0.out)
  clear hk
  go_enter Tryz.func26, Tryz.ntmps26
  go_wp2_with fail
  generalize (w.alloc (.cells #[.int .i64 8, .int .i64 n, .string s, .slice a (m : Nat) c] 39)) = W at *
  refine (HC.out a c _ (HKD.out.below (kbelow_dN (Below.refl _ _) 0))).mono ?_
  rintro e w1 ⟨rfl, hb1⟩
  go_wp2_with fail
  go_ret
  exact ⟨congrArg (fun x => Ending.returned (.string x)) HT.out, HB0.out.trans (hb1.mono HB0.out.size)⟩
set_option maxRecDepth 100000 in
set_option maxHeartbeats 4000000 in
theorem exprText_w_9 (n : Int) (s : ByteArray) (m : Nat) (kid : Nat → Ex) (hC : RcX false (Ex.mk 9 n s m kid)) (hz : Sz (rT (inT false (Ex.mk 9 n s m kid))) 500000) (hT : ⟨#[40, 32]⟩ ++ rT (inT false (Ex.mk 9 n s m kid)) ++ ⟨#[32, 41]⟩ = rT (inT true (Ex.mk 9 n s m kid))) : RcX true (Ex.mk 9 n s m kid) := by
  have HC : Hid (∀ (a : Option Addr) (c : Nat) (w : World), KidsAt w (Ex.mk 9 n s m kid) a → Calls Tryz.prog 26 #[.agg #[.int .i64 9, .int .i64 n, .string s, .slice a m c], .bool false] w fun e w' => e = .returned (.string (rT (inT false (Ex.mk 9 n s m kid)))) ∧ Below w.heap.size w w') := Lib.hid hC
  have HT := Lib.hid hT
  have q1 : Sz ⟨#[40, 32]⟩ 20 := by unfold Sz; decide
  have q2 : Sz ⟨#[32, 41]⟩ 20 := by unfold Sz; decide
  have j1 := Sz.run q1 hz (by omega)
  have p1 := Sz.app q1 hz
  have j2 := Sz.run p1 q2 (by omega)
  have p2 := Sz.app p1 q2
  clear hC hT
  intro a c w hk
  show Calls Tryz.prog 26 #[.agg #[.int .i64 9, .int .i64 n, .string s, .slice a (m : Nat) c], .bool true] w _
  have HB0 := Lib.hid (kbelow_box w (.cells #[.int .i64 9, .int .i64 n, .string s, .slice a (m : Nat) c] 39))
  have HX0 : Hid (Obx (w.alloc (.cells #[.int .i64 9, .int .i64 n, .string s, .slice a (m : Nat) c] 39)) w.heap.size [.int .i64 9, .int .i64 n, .string s, .slice a (m : Nat) c] 39) := Lib.hid (Obx.made w [.int .i64 9, .int .i64 n, .string s, .slice a (m : Nat) c] _)
  have HKD := Lib.hid (hk.below HB0.out)
  clear hk
  go_enter Tryz.func26, Tryz.ntmps26
  go_wp2_with fail
  generalize (w.alloc (.cells #[.int .i64 9, .int .i64 n, .string s, .slice a (m : Nat) c] 39)) = W at *
  refine (HC.out a c _ (HKD.out.below (kbelow_dN (Below.refl _ _) 0))).mono ?_
  rintro e w1 ⟨rfl, hb1⟩
  go_wp2_with fail
  go_ret
  exact ⟨congrArg (fun x => Ending.returned (.string x)) HT.out, HB0.out.trans (hb1.mono HB0.out.size)⟩
set_option maxRecDepth 100000 in
set_option maxHeartbeats 4000000 in
theorem exprText_w_10 (n : Int) (s : ByteArray) (m : Nat) (kid : Nat → Ex) (hC : RcX false (Ex.mk 10 n s m kid)) (hz : Sz (rT (inT false (Ex.mk 10 n s m kid))) 500000) (hT : ⟨#[40, 32]⟩ ++ rT (inT false (Ex.mk 10 n s m kid)) ++ ⟨#[32, 41]⟩ = rT (inT true (Ex.mk 10 n s m kid))) : RcX true (Ex.mk 10 n s m kid) := by
  have HC : Hid (∀ (a : Option Addr) (c : Nat) (w : World), KidsAt w (Ex.mk 10 n s m kid) a → Calls Tryz.prog 26 #[.agg #[.int .i64 10, .int .i64 n, .string s, .slice a m c], .bool false] w fun e w' => e = .returned (.string (rT (inT false (Ex.mk 10 n s m kid)))) ∧ Below w.heap.size w w') := Lib.hid hC
  have HT := Lib.hid hT
  have q1 : Sz ⟨#[40, 32]⟩ 20 := by unfold Sz; decide
  have q2 : Sz ⟨#[32, 41]⟩ 20 := by unfold Sz; decide
  have j1 := Sz.run q1 hz (by omega)
  have p1 := Sz.app q1 hz
  have j2 := Sz.run p1 q2 (by omega)
  have p2 := Sz.app p1 q2
  clear hC hT
  intro a c w hk
  show Calls Tryz.prog 26 #[.agg #[.int .i64 10, .int .i64 n, .string s, .slice a (m : Nat) c], .bool true] w _
  have HB0 := Lib.hid (kbelow_box w (.cells #[.int .i64 10, .int .i64 n, .string s, .slice a (m : Nat) c] 39))
  have HX0 : Hid (Obx (w.alloc (.cells #[.int .i64 10, .int .i64 n, .string s, .slice a (m : Nat) c] 39)) w.heap.size [.int .i64 10, .int .i64 n, .string s, .slice a (m : Nat) c] 39) := Lib.hid (Obx.made w [.int .i64 10, .int .i64 n, .string s, .slice a (m : Nat) c] _)
  have HKD := Lib.hid (hk.below HB0.out)
  clear hk
  go_enter Tryz.func26, Tryz.ntmps26
  go_wp2_with fail
  generalize (w.alloc (.cells #[.int .i64 10, .int .i64 n, .string s, .slice a (m : Nat) c] 39)) = W at *
  refine (HC.out a c _ (HKD.out.below (kbelow_dN (Below.refl _ _) 0))).mono ?_
  rintro e w1 ⟨rfl, hb1⟩
  go_wp2_with fail
  go_ret
  exact ⟨congrArg (fun x => Ending.returned (.string x)) HT.out, HB0.out.trans (hb1.mono HB0.out.size)⟩
set_option maxRecDepth 100000 in
set_option maxHeartbeats 4000000 in
theorem exprText_w_13 (n : Int) (s : ByteArray) (m : Nat) (kid : Nat → Ex) (hC : RcX false (Ex.mk 13 n s m kid)) (hz : Sz (rT (inT false (Ex.mk 13 n s m kid))) 500000) (hT : ⟨#[40, 32]⟩ ++ rT (inT false (Ex.mk 13 n s m kid)) ++ ⟨#[32, 41]⟩ = rT (inT true (Ex.mk 13 n s m kid))) : RcX true (Ex.mk 13 n s m kid) := by
  have HC : Hid (∀ (a : Option Addr) (c : Nat) (w : World), KidsAt w (Ex.mk 13 n s m kid) a → Calls Tryz.prog 26 #[.agg #[.int .i64 13, .int .i64 n, .string s, .slice a m c], .bool false] w fun e w' => e = .returned (.string (rT (inT false (Ex.mk 13 n s m kid)))) ∧ Below w.heap.size w w') := Lib.hid hC
  have HT := Lib.hid hT
  have q1 : Sz ⟨#[40, 32]⟩ 20 := by unfold Sz; decide
  have q2 : Sz ⟨#[32, 41]⟩ 20 := by unfold Sz; decide
  have j1 := Sz.run q1 hz (by omega)
  have p1 := Sz.app q1 hz
  have j2 := Sz.run p1 q2 (by omega)
  have p2 := Sz.app p1 q2
  clear hC hT
  intro a c w hk
  show Calls Tryz.prog 26 #[.agg #[.int .i64 13, .int .i64 n, .string s, .slice a (m : Nat) c], .bool true] w _
  have HB0 := Lib.hid (kbelow_box w (.cells #[.int .i64 13, .int .i64 n, .string s, .slice a (m : Nat) c] 39))
  have HX0 : Hid (Obx (w.alloc (.cells #[.int .i64 13, .int .i64 n, .string s, .slice a (m : Nat) c] 39)) w.heap.size [.int .i64 13, .int .i64 n, .string s, .slice a (m : Nat) c] 39) := Lib.hid (Obx.made w [.int .i64 13, .int .i64 n, .string s, .slice a (m : Nat) c] _)
  have HKD := Lib.hid (hk.below HB0.out)
  clear hk
  go_enter Tryz.func26, Tryz.ntmps26
  go_wp2_with fail
  generalize (w.alloc (.cells #[.int .i64 13, .int .i64 n, .string s, .slice a (m : Nat) c] 39)) = W at *
  refine (HC.out a c _ (HKD.out.below (kbelow_dN (Below.refl _ _) 0))).mono ?_
  rintro e w1 ⟨rfl, hb1⟩
  go_wp2_with fail
  go_ret
  exact ⟨congrArg (fun x => Ending.returned (.string x)) HT.out, HB0.out.trans (hb1.mono HB0.out.size)⟩
end Go.Proofs.YtchiifnciijagaaGreatDoor
set_option linter.unusedSimpArgs false
namespace Go.Proofs.YtchiifnciijagaaGreatDoor
open Go.RowKit


/-- What holds behind every operation may be made more on the way. -/
theorem wpAnyH_more {P : Program} {ops : Array Oper} {Q : Exit → Act → World → Prop} {md : Region.Mode} {S S' : World → Prop} (hSS : ∀ w, S' w → S w) : ∀ (fuel : Nat) (listed : Array Bool) (a : Act) (w : World), wpAnyH P md ops Q S' fuel listed a w → wpAnyH P md ops Q S fuel listed a w
  | 0, _, _, _, h => h
  | fuel + 1, _, _, _, h => ⟨h.1, fun i hi => wpOp_mono (fun a' w' h' => ⟨hSS w' h'.1, wpAnyH_more hSS fuel _ a' w' h'.2⟩) (h.2 i hi)⟩
theorem signs_at (V : World) (t : Nat) (h1 : 1 ≤ t) (h3 : t ≤ 3) : (V.alloc (.cells #[.string ⟨#[]⟩, .string ⟨#[60]⟩, .string ⟨#[60, 61]⟩, .string ⟨#[61]⟩] 9)).cell? ⟨V.heap.size, t, none⟩ = some (.string (tsW t)) := by
  have hc : t = 1 ∨ t = 2 ∨ t = 3 := by omega
  rcases hc with rfl | rfl | rfl <;> simp [tsW]
theorem tsz_len (t : Nat) (h1 : 1 ≤ t) (h3 : t ≤ 3) : Sz (tsW t) 20 := by
  have hc : t = 1 ∨ t = 2 ∨ t = 3 := by omega
  rcases hc with rfl | rfl | rfl <;> (unfold Sz; decide)
set_option maxRecDepth 100000 in
set_option maxHeartbeats 4000000 in
theorem exprText_13_false (n : Int) (s : ByteArray) (kid : Nat → Ex) (HN : Hid (n = 1 ∨ n = 2 ∨ n = 3)) (hC : ∀ j, j < 4 → ∀ b, RcX b (kid j)) (hZ : ∀ j, j < 4 → ∀ b, Sz (rT (inT b (kid j))) 500000) (hT : ⟨#[105, 102, 32]⟩ ++ rT (inT true (kid 0)) ++ ⟨#[32]⟩ ++ tsW n.toNat ++ ⟨#[32]⟩ ++ rT (inT true (kid 1)) ++ ⟨#[32, 116, 104, 101, 110, 32]⟩ ++ rT (inT false (kid 2)) ++ ⟨#[32, 101, 108, 115, 101, 32]⟩ ++ rT (inT false (kid 3)) = rT (inT false (Ex.mk 13 n s 4 kid))) : RcX false (Ex.mk 13 n s 4 kid) := by
  have HKC := Lib.hid hC
  have HZ := Lib.hid hZ
  have HT := Lib.hid hT
  clear hC hZ hT
  intro a c w hk
  show Calls Tryz.prog 26 #[.agg #[.int .i64 13, .int .i64 n, .string s, .slice a (4 : Nat) c], .bool false] w _
  have HB0 := Lib.hid (kbelow_box w (.cells #[.int .i64 13, .int .i64 n, .string s, .slice a (4 : Nat) c] 39))
  have HX0 : Hid (Obx (w.alloc (.cells #[.int .i64 13, .int .i64 n, .string s, .slice a (4 : Nat) c] 39)) w.heap.size [.int .i64 13, .int .i64 n, .string s, .slice a (4 : Nat) c] 39) := Lib.hid (Obx.made w [.int .i64 13, .int .i64 n, .string s, .slice a (4 : Nat) c] _)
  have HKD := Lib.hid (hk.below HB0.out)
  clear hk
  go_enter Tryz.func26, Tryz.ntmps26
  go_wp2_with fail
  generalize (w.alloc (.cells #[.int .i64 13, .int .i64 n, .string s, .slice a (4 : Nat) c] 39)) = W at *
  go_loopw [5, 6] (fun v i wr => ∃ j : Nat, j ≤ 4 ∧ i = .int .i64 j ∧ GrS wr W.heap.size v (kTs 13 kid j) ∧ Below W.heap.size W wr) (fun _ i _ => 4 - (intOf i).toNat)
  case atStart => exact ⟨0, Nat.zero_le _, rfl, GrS.nil _ _, Below.refl _ _⟩
  case round =>
  
    obtain ⟨j, hj, rfl, hgr, hb⟩ := hrel
    have HG := Lib.hid hgr
    have HB := Lib.hid hb
    obtain ⟨x0, x1, x2, x3⟩ := (HX0.out.below hb).four
    clear hgr hb
    by_cases hlt : j < 4
    · by_cases hj2 : j < 2
      · have hltM : (j : Int) < (4 : Int) := by omega
        obtain ⟨b, off, rfl, hcell⟩ := HKD.out.open (show 0 < 4 by omega)
        obtain ⟨aj, cj, ⟨y0, y1, y2, y3⟩, hkj⟩ := hcell wr HB.out j hlt
        obtain ⟨aj2, cj2, hyy, -⟩ := hcell W (Below.refl _ _) j hlt
        have y0' : wr.cell? ⟨b, off + j * 4, none⟩ = some (.int .i64 (kid j).k) := y0
        have y1' : wr.cell? ⟨b, off + j * 4 + 1, none⟩ = some (.int .i64 (kid j).n) := y1
        have y2' : wr.cell? ⟨b, off + j * 4 + 2, none⟩ = some (.string (kid j).s) := y2
        have y3' : wr.cell? ⟨b, off + j * 4 + 3, none⟩ = some (.slice aj (kid j).m cj) := y3
        have HY : Hid (W.cell? ⟨b, off + j * 4, none⟩ = some (.int .i64 (kid j).k) ∧ W.cell? ⟨b, off + j * 4 + 1, none⟩ = some (.int .i64 (kid j).n) ∧ W.cell? ⟨b, off + j * 4 + 2, none⟩ = some (.string (kid j).s) ∧ W.cell? ⟨b, off + j * 4 + 3, none⟩ = some (.slice aj (kid j).m cj)) := by
          obtain ⟨z0, z1, z2, z3⟩ := hyy
          have e3 := (HB.out.cell (p := ⟨b, off + j * 4 + 3, none⟩) (blt_of_cell z3)).trans z3
          have e4 := e3.symm.trans y3'
          injection e4 with e4
          injection e4 with e5 e6 e7
          subst e5 e7
          exact ⟨z0, z1, z2, z3⟩
        have HKJ : Hid (∀ (fb : Bool) (W' : World), Below wr.heap.size wr W' → Calls Tryz.prog 26 #[.agg #[.int .i64 (kid j).k, .int .i64 (kid j).n, .string (kid j).s, .slice aj (kid j).m cj], .bool fb] W' fun e w' => e = .returned (.string (rT (inT fb (kid j)))) ∧ Below W'.heap.size W' w') := fun fb W' hb' => HKC.out j hlt fb aj cj W' (hkj.below hb')
        clear y0 y1 y2 y3 hcell hkj hyy
        generalize (kid j).k = kk at *
        generalize (kid j).n = kn' at *
        generalize (kid j).s = ks at *
        generalize (kid j).m = km at *
        have HFJ : Hid (flg 13 j = true) := by unfold Hid flg; simp [hj2]
        have hd2 : (j : Int) < 2 := by omega
        go_wp2_with fail
        have HSW : Hid (∀ w2, Below W.heap.size W w2 → (w2.cell? ⟨w.heap.size, 0, none⟩ = some (.int .i64 13) ∧ w2.cell? ⟨w.heap.size, 3, none⟩ = some (.slice (some ⟨b, off, none⟩) 4 c) ∧ w2.cell? ⟨b, off + j * 4, none⟩ = some (.int .i64 kk) ∧ w2.cell? ⟨b, off + j * 4 + 1, none⟩ = some (.int .i64 kn') ∧ w2.cell? ⟨b, off + j * 4 + 2, none⟩ = some (.string ks) ∧ w2.cell? ⟨b, off + j * 4 + 3, none⟩ = some (.slice aj km cj))) := fun w2 hb =>
          ⟨(hb.cell (blt_of_cell HX0.out.c0)).trans HX0.out.c0, (hb.cell (blt_of_cell HX0.out.c3)).trans HX0.out.c3, (hb.cell (blt_of_cell HY.out.1)).trans HY.out.1, (hb.cell (blt_of_cell HY.out.2.1)).trans HY.out.2.1, (hb.cell (blt_of_cell HY.out.2.2.1)).trans HY.out.2.2.1, (hb.cell (blt_of_cell HY.out.2.2.2)).trans HY.out.2.2.2⟩
        clear x0 x1 x2 x3 y0' y1' y2' y3'
        refine wp_region_held_drew (S := fun w' => w'.cell? ⟨w.heap.size, 0, none⟩ = some (.int .i64 13) ∧ w'.cell? ⟨w.heap.size, 3, none⟩ = some (.slice (some ⟨b, off, none⟩) 4 c) ∧ w'.cell? ⟨b, off + j * 4, none⟩ = some (.int .i64 kk) ∧ w'.cell? ⟨b, off + j * 4 + 1, none⟩ = some (.int .i64 kn') ∧ w'.cell? ⟨b, off + j * 4 + 2, none⟩ = some (.string ks) ∧ w'.cell? ⟨b, off + j * 4 + 3, none⟩ = some (.slice aj km cj)) (by kernel_rfl) ?_ (fun hHeld => ?_)
        · exact HSW.out wr HB.out
        refine wpAnyH_take (i := 0) (oi := _) (v := u5) rfl (by kernel_rfl) (by kernel_rfl) (by kernel_rfl) (fun _ _ _ h => h) (Or.inl ⟨by kernel_rfl, fun w' hSw => ?_⟩) (by assumption) ?_
        · ((try dsimp only at hSw); go_simp; try with_reducible rfl)
        try simp only [Act.put, List.setIfInBounds_toArray, List.set_cons_zero, List.set_cons_succ]
        refine wpAnyH_take (i := 1) (oi := _) (v := .pointer (some ⟨w.heap.size, 3, none⟩)) rfl (by kernel_rfl) (by kernel_rfl) (by kernel_rfl) (fun _ _ _ h => h) (Or.inl ⟨by kernel_rfl, fun w' hSw => ?_⟩) (by assumption) ?_
        · ((try dsimp only at hSw); go_simp; try with_reducible rfl)
        try simp only [Act.put, List.setIfInBounds_toArray, List.set_cons_zero, List.set_cons_succ]
        refine wpAnyH_take (i := 2) (oi := _) (v := .slice (some ⟨b, off, none⟩) 4 c) rfl (by kernel_rfl) (by kernel_rfl) (by kernel_rfl) (fun _ _ _ h => h) (Or.inl ⟨by kernel_rfl, fun w' hSw => ?_⟩) (by assumption) ?_
        · ((try dsimp only at hSw); go_simp; try with_reducible rfl)
        try simp only [Act.put, List.setIfInBounds_toArray, List.set_cons_zero, List.set_cons_succ]
        refine wpAnyH_take (i := 3) (oi := _) (v := .int .i64 (j : Int)) rfl (by kernel_rfl) (by kernel_rfl) (by kernel_rfl) (fun _ _ _ h => h) (Or.inl ⟨by kernel_rfl, fun w' hSw => ?_⟩) (by assumption) ?_
        · ((try dsimp only at hSw); go_simp; try with_reducible rfl)
        try simp only [Act.put, List.setIfInBounds_toArray, List.set_cons_zero, List.set_cons_succ]
        refine wpAnyH_take (i := 4) (oi := _) (v := .pointer (some ⟨b, off + j * 4, none⟩)) rfl (by kernel_rfl) (by kernel_rfl) (by kernel_rfl) (fun _ _ _ h => h) (Or.inl ⟨by kernel_rfl, fun w' hSw => ?_⟩) (by assumption) ?_
        · ((try dsimp only at hSw); go_simp; try with_reducible rfl)
        try simp only [Act.put, List.setIfInBounds_toArray, List.set_cons_zero, List.set_cons_succ]
        refine wpAnyH_take (i := 5) (oi := _) (v := .agg #[.int .i64 kk, .int .i64 kn', .string ks, .slice aj km cj]) rfl (by kernel_rfl) (by kernel_rfl) (by kernel_rfl) (fun _ _ _ h => h) (Or.inl ⟨by kernel_rfl, fun w' hSw => ?_⟩) (by assumption) ?_
        · ((try dsimp only at hSw); go_simp; try with_reducible rfl)
        try simp only [Act.put, List.setIfInBounds_toArray, List.set_cons_zero, List.set_cons_succ]
        refine wpAnyH_take (i := 6) (oi := _) (v := .pointer (some ⟨w.heap.size, 0, none⟩)) rfl (by kernel_rfl) (by kernel_rfl) (by kernel_rfl) (fun _ _ _ h => h) (Or.inl ⟨by kernel_rfl, fun w' hSw => ?_⟩) (by assumption) ?_
        · ((try dsimp only at hSw); go_simp; try with_reducible rfl)
        try simp only [Act.put, List.setIfInBounds_toArray, List.set_cons_zero, List.set_cons_succ]
        refine wpAnyH_take (i := 7) (oi := _) (v := .int .i64 13) rfl (by kernel_rfl) (by kernel_rfl) (by kernel_rfl) (fun _ _ _ h => h) (Or.inl ⟨by kernel_rfl, fun w' hSw => ?_⟩) (by assumption) ?_
        · ((try dsimp only at hSw); go_simp; try with_reducible rfl)
        try simp only [Act.put, List.setIfInBounds_toArray, List.set_cons_zero, List.set_cons_succ]
        refine wpAnyH_take (i := 8) (oi := _) (v := .bool false) rfl (by kernel_rfl) (by kernel_rfl) (by kernel_rfl) (fun _ _ _ h => h) (Or.inl ⟨by kernel_rfl, fun w' hSw => ?_⟩) (by assumption) ?_
        · ((try dsimp only at hSw); go_simp; try with_reducible rfl)
        try simp only [Act.put, List.setIfInBounds_toArray, List.set_cons_zero, List.set_cons_succ]
        refine wpAnyH_take (i := 9) (oi := _) (v := .bool false) rfl (by kernel_rfl) (by kernel_rfl) (by kernel_rfl) (fun _ _ _ h => h) (Or.inl ⟨by kernel_rfl, fun w' hSw => ?_⟩) (by assumption) ?_
        · ((try dsimp only at hSw); go_simp; try with_reducible rfl)
        try simp only [Act.put, List.setIfInBounds_toArray, List.set_cons_zero, List.set_cons_succ]
        refine wpAnyH_take (i := 10) (oi := _) (v := .pointer (some ⟨w.heap.size, 0, none⟩)) rfl (by kernel_rfl) (by kernel_rfl) (by kernel_rfl) (fun _ _ _ h => h) (Or.inl ⟨by kernel_rfl, fun w' hSw => ?_⟩) (by assumption) ?_
        · ((try dsimp only at hSw); go_simp; try with_reducible rfl)
        try simp only [Act.put, List.setIfInBounds_toArray, List.set_cons_zero, List.set_cons_succ]
        refine wpAnyH_take (i := 11) (oi := _) (v := .int .i64 13) rfl (by kernel_rfl) (by kernel_rfl) (by kernel_rfl) (fun _ _ _ h => h) (Or.inl ⟨by kernel_rfl, fun w' hSw => ?_⟩) (by assumption) ?_
        · ((try dsimp only at hSw); go_simp; try with_reducible rfl)
        try simp only [Act.put, List.setIfInBounds_toArray, List.set_cons_zero, List.set_cons_succ]
        refine wpAnyH_take (i := 12) (oi := _) (v := .bool true) rfl (by kernel_rfl) (by kernel_rfl) (by kernel_rfl) (fun _ _ _ h => h) (Or.inl ⟨by kernel_rfl, fun w' hSw => ?_⟩) (by assumption) ?_
        · ((try dsimp only at hSw); go_simp; try with_reducible rfl)
        try simp only [Act.put, List.setIfInBounds_toArray, List.set_cons_zero, List.set_cons_succ]
        refine wpAnyH_take (i := 13) (oi := _) (v := .bool true) rfl (by kernel_rfl) (by kernel_rfl) (by kernel_rfl) (fun _ _ _ h => h) (Or.inl ⟨by kernel_rfl, fun w' hSw => ?_⟩) (by assumption) ?_
        · ((try dsimp only at hSw); go_simp; try with_reducible rfl)
        try simp only [Act.put, List.setIfInBounds_toArray, List.set_cons_zero, List.set_cons_succ]
        refine wpAnyH_take (i := 14) (oi := _) (v := .int .i64 (j : Int)) rfl (by kernel_rfl) (by kernel_rfl) (by kernel_rfl) (fun _ _ _ h => h) (Or.inl ⟨by kernel_rfl, fun w' hSw => ?_⟩) (by assumption) ?_
        · ((try dsimp only at hSw); go_simp; try with_reducible rfl)
        try simp only [Act.put, List.setIfInBounds_toArray, List.set_cons_zero, List.set_cons_succ]
        refine wpAnyH_take (i := 15) (oi := _) (v := .bool true) rfl (by kernel_rfl) (by kernel_rfl) (by kernel_rfl) (fun _ _ _ h => h) (Or.inl ⟨by kernel_rfl, fun w' hSw => ?_⟩) (by assumption) ?_
        · ((try dsimp only at hSw); go_simp; try with_reducible rfl)
        try simp only [Act.put, List.setIfInBounds_toArray, List.set_cons_zero, List.set_cons_succ]
        refine wpAnyH_take (i := 16) (oi := _) (v := .bool true) rfl (by kernel_rfl) (by kernel_rfl) (by kernel_rfl) (fun _ _ _ h => h) (Or.inl ⟨by kernel_rfl, fun w' hSw => ?_⟩) (by assumption) ?_
        · ((try dsimp only at hSw); go_simp; try with_reducible rfl)
        try simp only [Act.put, List.setIfInBounds_toArray, List.set_cons_zero, List.set_cons_succ]
        refine wpAnyH_take (i := 17) (oi := _) (v := .bool true) rfl (by kernel_rfl) (by kernel_rfl) (by kernel_rfl) (fun _ _ _ h => h) (Or.inl ⟨by kernel_rfl, fun w' hSw => ?_⟩) (by assumption) ?_
        · ((try dsimp only at hSw); go_simp; try with_reducible rfl)
        try simp only [Act.put, List.setIfInBounds_toArray, List.set_cons_zero, List.set_cons_succ]
        refine wpAnyH_ready (rs := [18]) (by kernel_rfl) (by simp) ?_
        refine AllReadyH.cons rfl (fun K hK => ?_) AllReadyH.nil
        go_simp
        refine (HKJ.out true _ (kbelow_dN (Below.refl _ _) 1)).mono ?_
        rintro e w1 ⟨rfl, hb1⟩
        have HB1' := Lib.hid (rfrom_drew hb1)
        have HB1 := Lib.hid (HB.out.trans ((rfrom_drew hb1).mono HB.out.size))
        have HTX := Lib.hid (kbelow_box w1 (.cells #[.string (rT (inT true (kid j)))] 9))
        have HGX := Lib.hid ((HG.out.below HB1'.out).below HTX.out)
        have HBX := Lib.hid (HB1.out.trans (HTX.out.mono HB1.out.size))
        have hsrc : (w1.alloc (.cells #[.string (rT (inT true (kid j)))] 9)).cell? ⟨w1.heap.size, 0, none⟩ = some (.string (rT (inT true (kid j)))) := by simp
        have HSRC := Lib.hid hsrc
        clear hb1 hsrc
        try go_wp2_with fail
        refine hK.out _ _ (by exact HSW.out _ HB1.out) (fun hHeld => ?_)
        clear hK K
        try simp only [Act.put, List.setIfInBounds_toArray, List.set_cons_zero, List.set_cons_succ]
        refine wpAnyH_ready (rs := [19]) (by kernel_rfl) (by simp) ?_
        refine AllReadyH.cons rfl (fun K hK => ?_) AllReadyH.nil
        go_simp
        refine hK.out _ _ (by exact HSW.out _ HBX.out) (fun hHeld => ?_)
        clear hK K
        try simp only [Act.put, List.setIfInBounds_toArray, List.set_cons_zero, List.set_cons_succ]
        refine wpAnyH_ready (rs := [20]) (by kernel_rfl) (by simp) ?_
        refine AllReadyH.cons rfl (fun K hK => ?_) AllReadyH.nil
        refine step_app_s _ rfl (.tmp 34) (.tmp 53) rfl W.heap.size u5 (kTs 13 kid j) (by simp [Act.eval]) HGX.out w1.heap.size 1 (rT (inT true (kid j))) (by simp [Act.eval]) HSRC.out (by rw [kTs_len]; omega) HBX.out.size ?_
        intro v9 w9 hg9 hr9
        have HG9 := Lib.hid hg9
        have HB9 := Lib.hid (HBX.out.grown hr9 HBX.out.size fun q hq => (HGX.out.lt q hq).1)
        clear hg9 hr9
        refine hK.out _ _ (by exact HSW.out _ HB9.out) (fun hHeld => ?_)
        clear hK K
        try simp only [Act.put, List.setIfInBounds_toArray, List.set_cons_zero, List.set_cons_succ]
        refine wpAnyH_ready (rs := [21]) (by kernel_rfl) (by simp) ?_
        refine AllReadyH.cons rfl (fun K hK => ?_) AllReadyH.nil
        go_simp
        refine hK.out _ _ (by exact HSW.out _ HB9.out) (fun hHeld => ?_)
        clear hK K
        try simp only [Act.put, List.setIfInBounds_toArray, List.set_cons_zero, List.set_cons_succ]
        refine wpAnyH_done (by kernel_rfl) ?_ _
        go_wp2_with fail
        go_roundw
        case rel => exact ⟨j + 1, by omega, by go_num, by rw [kTs_succ, HFJ.out]; exact HG9.out, HB9.out⟩
        case measure => simp [intOf]; omega
      · have hltM : (j : Int) < (4 : Int) := by omega
        obtain ⟨b, off, rfl, hcell⟩ := HKD.out.open (show 0 < 4 by omega)
        obtain ⟨aj, cj, ⟨y0, y1, y2, y3⟩, hkj⟩ := hcell wr HB.out j hlt
        obtain ⟨aj2, cj2, hyy, -⟩ := hcell W (Below.refl _ _) j hlt
        have y0' : wr.cell? ⟨b, off + j * 4, none⟩ = some (.int .i64 (kid j).k) := y0
        have y1' : wr.cell? ⟨b, off + j * 4 + 1, none⟩ = some (.int .i64 (kid j).n) := y1
        have y2' : wr.cell? ⟨b, off + j * 4 + 2, none⟩ = some (.string (kid j).s) := y2
        have y3' : wr.cell? ⟨b, off + j * 4 + 3, none⟩ = some (.slice aj (kid j).m cj) := y3
        have HY : Hid (W.cell? ⟨b, off + j * 4, none⟩ = some (.int .i64 (kid j).k) ∧ W.cell? ⟨b, off + j * 4 + 1, none⟩ = some (.int .i64 (kid j).n) ∧ W.cell? ⟨b, off + j * 4 + 2, none⟩ = some (.string (kid j).s) ∧ W.cell? ⟨b, off + j * 4 + 3, none⟩ = some (.slice aj (kid j).m cj)) := by
          obtain ⟨z0, z1, z2, z3⟩ := hyy
          have e3 := (HB.out.cell (p := ⟨b, off + j * 4 + 3, none⟩) (blt_of_cell z3)).trans z3
          have e4 := e3.symm.trans y3'
          injection e4 with e4
          injection e4 with e5 e6 e7
          subst e5 e7
          exact ⟨z0, z1, z2, z3⟩
        have HKJ : Hid (∀ (fb : Bool) (W' : World), Below wr.heap.size wr W' → Calls Tryz.prog 26 #[.agg #[.int .i64 (kid j).k, .int .i64 (kid j).n, .string (kid j).s, .slice aj (kid j).m cj], .bool fb] W' fun e w' => e = .returned (.string (rT (inT fb (kid j)))) ∧ Below W'.heap.size W' w') := fun fb W' hb' => HKC.out j hlt fb aj cj W' (hkj.below hb')
        clear y0 y1 y2 y3 hcell hkj hyy
        generalize (kid j).k = kk at *
        generalize (kid j).n = kn' at *
        generalize (kid j).s = ks at *
        generalize (kid j).m = km at *
        have HFJ : Hid (flg 13 j = false) := by unfold Hid flg; simp [hj2]
        have hd2 : ¬ (j : Int) < 2 := by omega
        go_wp2_with fail
        have HSW : Hid (∀ w2, Below W.heap.size W w2 → (w2.cell? ⟨w.heap.size, 0, none⟩ = some (.int .i64 13) ∧ w2.cell? ⟨w.heap.size, 3, none⟩ = some (.slice (some ⟨b, off, none⟩) 4 c) ∧ w2.cell? ⟨b, off + j * 4, none⟩ = some (.int .i64 kk) ∧ w2.cell? ⟨b, off + j * 4 + 1, none⟩ = some (.int .i64 kn') ∧ w2.cell? ⟨b, off + j * 4 + 2, none⟩ = some (.string ks) ∧ w2.cell? ⟨b, off + j * 4 + 3, none⟩ = some (.slice aj km cj))) := fun w2 hb =>
          ⟨(hb.cell (blt_of_cell HX0.out.c0)).trans HX0.out.c0, (hb.cell (blt_of_cell HX0.out.c3)).trans HX0.out.c3, (hb.cell (blt_of_cell HY.out.1)).trans HY.out.1, (hb.cell (blt_of_cell HY.out.2.1)).trans HY.out.2.1, (hb.cell (blt_of_cell HY.out.2.2.1)).trans HY.out.2.2.1, (hb.cell (blt_of_cell HY.out.2.2.2)).trans HY.out.2.2.2⟩
        clear x0 x1 x2 x3 y0' y1' y2' y3'
        refine wp_region_held_drew (S := fun w' => w'.cell? ⟨w.heap.size, 0, none⟩ = some (.int .i64 13) ∧ w'.cell? ⟨w.heap.size, 3, none⟩ = some (.slice (some ⟨b, off, none⟩) 4 c) ∧ w'.cell? ⟨b, off + j * 4, none⟩ = some (.int .i64 kk) ∧ w'.cell? ⟨b, off + j * 4 + 1, none⟩ = some (.int .i64 kn') ∧ w'.cell? ⟨b, off + j * 4 + 2, none⟩ = some (.string ks) ∧ w'.cell? ⟨b, off + j * 4 + 3, none⟩ = some (.slice aj km cj)) (by kernel_rfl) ?_ (fun hHeld => ?_)
        · exact HSW.out wr HB.out
        refine wpAnyH_take (i := 0) (oi := _) (v := u5) rfl (by kernel_rfl) (by kernel_rfl) (by kernel_rfl) (fun _ _ _ h => h) (Or.inl ⟨by kernel_rfl, fun w' hSw => ?_⟩) (by assumption) ?_
        · ((try dsimp only at hSw); go_simp; try with_reducible rfl)
        try simp only [Act.put, List.setIfInBounds_toArray, List.set_cons_zero, List.set_cons_succ]
        refine wpAnyH_take (i := 1) (oi := _) (v := .pointer (some ⟨w.heap.size, 3, none⟩)) rfl (by kernel_rfl) (by kernel_rfl) (by kernel_rfl) (fun _ _ _ h => h) (Or.inl ⟨by kernel_rfl, fun w' hSw => ?_⟩) (by assumption) ?_
        · ((try dsimp only at hSw); go_simp; try with_reducible rfl)
        try simp only [Act.put, List.setIfInBounds_toArray, List.set_cons_zero, List.set_cons_succ]
        refine wpAnyH_take (i := 2) (oi := _) (v := .slice (some ⟨b, off, none⟩) 4 c) rfl (by kernel_rfl) (by kernel_rfl) (by kernel_rfl) (fun _ _ _ h => h) (Or.inl ⟨by kernel_rfl, fun w' hSw => ?_⟩) (by assumption) ?_
        · ((try dsimp only at hSw); go_simp; try with_reducible rfl)
        try simp only [Act.put, List.setIfInBounds_toArray, List.set_cons_zero, List.set_cons_succ]
        refine wpAnyH_take (i := 3) (oi := _) (v := .int .i64 (j : Int)) rfl (by kernel_rfl) (by kernel_rfl) (by kernel_rfl) (fun _ _ _ h => h) (Or.inl ⟨by kernel_rfl, fun w' hSw => ?_⟩) (by assumption) ?_
        · ((try dsimp only at hSw); go_simp; try with_reducible rfl)
        try simp only [Act.put, List.setIfInBounds_toArray, List.set_cons_zero, List.set_cons_succ]
        refine wpAnyH_take (i := 4) (oi := _) (v := .pointer (some ⟨b, off + j * 4, none⟩)) rfl (by kernel_rfl) (by kernel_rfl) (by kernel_rfl) (fun _ _ _ h => h) (Or.inl ⟨by kernel_rfl, fun w' hSw => ?_⟩) (by assumption) ?_
        · ((try dsimp only at hSw); go_simp; try with_reducible rfl)
        try simp only [Act.put, List.setIfInBounds_toArray, List.set_cons_zero, List.set_cons_succ]
        refine wpAnyH_take (i := 5) (oi := _) (v := .agg #[.int .i64 kk, .int .i64 kn', .string ks, .slice aj km cj]) rfl (by kernel_rfl) (by kernel_rfl) (by kernel_rfl) (fun _ _ _ h => h) (Or.inl ⟨by kernel_rfl, fun w' hSw => ?_⟩) (by assumption) ?_
        · ((try dsimp only at hSw); go_simp; try with_reducible rfl)
        try simp only [Act.put, List.setIfInBounds_toArray, List.set_cons_zero, List.set_cons_succ]
        refine wpAnyH_take (i := 6) (oi := _) (v := .pointer (some ⟨w.heap.size, 0, none⟩)) rfl (by kernel_rfl) (by kernel_rfl) (by kernel_rfl) (fun _ _ _ h => h) (Or.inl ⟨by kernel_rfl, fun w' hSw => ?_⟩) (by assumption) ?_
        · ((try dsimp only at hSw); go_simp; try with_reducible rfl)
        try simp only [Act.put, List.setIfInBounds_toArray, List.set_cons_zero, List.set_cons_succ]
        refine wpAnyH_take (i := 7) (oi := _) (v := .int .i64 13) rfl (by kernel_rfl) (by kernel_rfl) (by kernel_rfl) (fun _ _ _ h => h) (Or.inl ⟨by kernel_rfl, fun w' hSw => ?_⟩) (by assumption) ?_
        · ((try dsimp only at hSw); go_simp; try with_reducible rfl)
        try simp only [Act.put, List.setIfInBounds_toArray, List.set_cons_zero, List.set_cons_succ]
        refine wpAnyH_take (i := 8) (oi := _) (v := .bool false) rfl (by kernel_rfl) (by kernel_rfl) (by kernel_rfl) (fun _ _ _ h => h) (Or.inl ⟨by kernel_rfl, fun w' hSw => ?_⟩) (by assumption) ?_
        · ((try dsimp only at hSw); go_simp; try with_reducible rfl)
        try simp only [Act.put, List.setIfInBounds_toArray, List.set_cons_zero, List.set_cons_succ]
        refine wpAnyH_take (i := 9) (oi := _) (v := .bool false) rfl (by kernel_rfl) (by kernel_rfl) (by kernel_rfl) (fun _ _ _ h => h) (Or.inl ⟨by kernel_rfl, fun w' hSw => ?_⟩) (by assumption) ?_
        · ((try dsimp only at hSw); go_simp; try with_reducible rfl)
        try simp only [Act.put, List.setIfInBounds_toArray, List.set_cons_zero, List.set_cons_succ]
        refine wpAnyH_take (i := 10) (oi := _) (v := .pointer (some ⟨w.heap.size, 0, none⟩)) rfl (by kernel_rfl) (by kernel_rfl) (by kernel_rfl) (fun _ _ _ h => h) (Or.inl ⟨by kernel_rfl, fun w' hSw => ?_⟩) (by assumption) ?_
        · ((try dsimp only at hSw); go_simp; try with_reducible rfl)
        try simp only [Act.put, List.setIfInBounds_toArray, List.set_cons_zero, List.set_cons_succ]
        refine wpAnyH_take (i := 11) (oi := _) (v := .int .i64 13) rfl (by kernel_rfl) (by kernel_rfl) (by kernel_rfl) (fun _ _ _ h => h) (Or.inl ⟨by kernel_rfl, fun w' hSw => ?_⟩) (by assumption) ?_
        · ((try dsimp only at hSw); go_simp; try with_reducible rfl)
        try simp only [Act.put, List.setIfInBounds_toArray, List.set_cons_zero, List.set_cons_succ]
        refine wpAnyH_take (i := 12) (oi := _) (v := .bool true) rfl (by kernel_rfl) (by kernel_rfl) (by kernel_rfl) (fun _ _ _ h => h) (Or.inl ⟨by kernel_rfl, fun w' hSw => ?_⟩) (by assumption) ?_
        · ((try dsimp only at hSw); go_simp; try with_reducible rfl)
        try simp only [Act.put, List.setIfInBounds_toArray, List.set_cons_zero, List.set_cons_succ]
        refine wpAnyH_take (i := 13) (oi := _) (v := .bool true) rfl (by kernel_rfl) (by kernel_rfl) (by kernel_rfl) (fun _ _ _ h => h) (Or.inl ⟨by kernel_rfl, fun w' hSw => ?_⟩) (by assumption) ?_
        · ((try dsimp only at hSw); go_simp; try with_reducible rfl)
        try simp only [Act.put, List.setIfInBounds_toArray, List.set_cons_zero, List.set_cons_succ]
        refine wpAnyH_take (i := 14) (oi := _) (v := .int .i64 (j : Int)) rfl (by kernel_rfl) (by kernel_rfl) (by kernel_rfl) (fun _ _ _ h => h) (Or.inl ⟨by kernel_rfl, fun w' hSw => ?_⟩) (by assumption) ?_
        · ((try dsimp only at hSw); go_simp; try with_reducible rfl)
        try simp only [Act.put, List.setIfInBounds_toArray, List.set_cons_zero, List.set_cons_succ]
        refine wpAnyH_take (i := 15) (oi := _) (v := .bool false) rfl (by kernel_rfl) (by kernel_rfl) (by kernel_rfl) (fun _ _ _ h => h) (Or.inl ⟨by kernel_rfl, fun w' hSw => ?_⟩) (by assumption) ?_
        · ((try dsimp only at hSw); go_simp; try with_reducible rfl)
        try simp only [Act.put, List.setIfInBounds_toArray, List.set_cons_zero, List.set_cons_succ]
        refine wpAnyH_take (i := 16) (oi := _) (v := .bool false) rfl (by kernel_rfl) (by kernel_rfl) (by kernel_rfl) (fun _ _ _ h => h) (Or.inl ⟨by kernel_rfl, fun w' hSw => ?_⟩) (by assumption) ?_
        · ((try dsimp only at hSw); go_simp; try with_reducible rfl)
        try simp only [Act.put, List.setIfInBounds_toArray, List.set_cons_zero, List.set_cons_succ]
        refine wpAnyH_take (i := 17) (oi := _) (v := .bool false) rfl (by kernel_rfl) (by kernel_rfl) (by kernel_rfl) (fun _ _ _ h => h) (Or.inl ⟨by kernel_rfl, fun w' hSw => ?_⟩) (by assumption) ?_
        · ((try dsimp only at hSw); go_simp; try with_reducible rfl)
        try simp only [Act.put, List.setIfInBounds_toArray, List.set_cons_zero, List.set_cons_succ]
        refine wpAnyH_ready (rs := [18]) (by kernel_rfl) (by simp) ?_
        refine AllReadyH.cons rfl (fun K hK => ?_) AllReadyH.nil
        go_simp
        refine (HKJ.out false _ (kbelow_dN (Below.refl _ _) 1)).mono ?_
        rintro e w1 ⟨rfl, hb1⟩
        have HB1' := Lib.hid (rfrom_drew hb1)
        have HB1 := Lib.hid (HB.out.trans ((rfrom_drew hb1).mono HB.out.size))
        have HTX := Lib.hid (kbelow_box w1 (.cells #[.string (rT (inT false (kid j)))] 9))
        have HGX := Lib.hid ((HG.out.below HB1'.out).below HTX.out)
        have HBX := Lib.hid (HB1.out.trans (HTX.out.mono HB1.out.size))
        have hsrc : (w1.alloc (.cells #[.string (rT (inT false (kid j)))] 9)).cell? ⟨w1.heap.size, 0, none⟩ = some (.string (rT (inT false (kid j)))) := by simp
        have HSRC := Lib.hid hsrc
        clear hb1 hsrc
        try go_wp2_with fail
        refine hK.out _ _ (by exact HSW.out _ HB1.out) (fun hHeld => ?_)
        clear hK K
        try simp only [Act.put, List.setIfInBounds_toArray, List.set_cons_zero, List.set_cons_succ]
        refine wpAnyH_ready (rs := [19]) (by kernel_rfl) (by simp) ?_
        refine AllReadyH.cons rfl (fun K hK => ?_) AllReadyH.nil
        go_simp
        refine hK.out _ _ (by exact HSW.out _ HBX.out) (fun hHeld => ?_)
        clear hK K
        try simp only [Act.put, List.setIfInBounds_toArray, List.set_cons_zero, List.set_cons_succ]
        refine wpAnyH_ready (rs := [20]) (by kernel_rfl) (by simp) ?_
        refine AllReadyH.cons rfl (fun K hK => ?_) AllReadyH.nil
        refine step_app_s _ rfl (.tmp 34) (.tmp 53) rfl W.heap.size u5 (kTs 13 kid j) (by simp [Act.eval]) HGX.out w1.heap.size 1 (rT (inT false (kid j))) (by simp [Act.eval]) HSRC.out (by rw [kTs_len]; omega) HBX.out.size ?_
        intro v9 w9 hg9 hr9
        have HG9 := Lib.hid hg9
        have HB9 := Lib.hid (HBX.out.grown hr9 HBX.out.size fun q hq => (HGX.out.lt q hq).1)
        clear hg9 hr9
        refine hK.out _ _ (by exact HSW.out _ HB9.out) (fun hHeld => ?_)
        clear hK K
        try simp only [Act.put, List.setIfInBounds_toArray, List.set_cons_zero, List.set_cons_succ]
        refine wpAnyH_ready (rs := [21]) (by kernel_rfl) (by simp) ?_
        refine AllReadyH.cons rfl (fun K hK => ?_) AllReadyH.nil
        go_simp
        refine hK.out _ _ (by exact HSW.out _ HB9.out) (fun hHeld => ?_)
        clear hK K
        try simp only [Act.put, List.setIfInBounds_toArray, List.set_cons_zero, List.set_cons_succ]
        refine wpAnyH_done (by kernel_rfl) ?_ _
        go_wp2_with fail
        go_roundw
        case rel => exact ⟨j + 1, by omega, by go_num, by rw [kTs_succ, HFJ.out]; exact HG9.out, HB9.out⟩
        case measure => simp [intOf]; omega
    · obtain rfl : j = 4 := by omega
      obtain ⟨g, cg, hv, hcs⟩ := HG.out.open (by rw [kTs_len]; omega)
      rw [kTs_len] at hv
      subst hv
      have c0 : wr.cell? ⟨g, 0, none⟩ = some (.string (rT (inT true (kid 0)))) := by
        have := hcs 0 (by rw [kTs_len]; omega)
        rw [kTs_at] at this
        exact this
      have z0 : Sz (rT (inT true (kid 0))) 500000 := HZ.out 0 (by omega) true
      generalize rT (inT true (kid 0)) = T0 at *
      have c1 : wr.cell? ⟨g, 1, none⟩ = some (.string (rT (inT true (kid 1)))) := by
        have := hcs 1 (by rw [kTs_len]; omega)
        rw [kTs_at] at this
        exact this
      have z1 : Sz (rT (inT true (kid 1))) 500000 := HZ.out 1 (by omega) true
      generalize rT (inT true (kid 1)) = T1 at *
      have c2 : wr.cell? ⟨g, 2, none⟩ = some (.string (rT (inT false (kid 2)))) := by
        have := hcs 2 (by rw [kTs_len]; omega)
        rw [kTs_at] at this
        exact this
      have z2 : Sz (rT (inT false (kid 2))) 500000 := HZ.out 2 (by omega) false
      generalize rT (inT false (kid 2)) = T2 at *
      have c3 : wr.cell? ⟨g, 3, none⟩ = some (.string (rT (inT false (kid 3)))) := by
        have := hcs 3 (by rw [kTs_len]; omega)
        rw [kTs_at] at this
        exact this
      have z3 : Sz (rT (inT false (kid 3))) 500000 := HZ.out 3 (by omega) false
      generalize rT (inT false (kid 3)) = T3 at *
      clear HKC hcs
      obtain ⟨t, rfl⟩ : ∃ t : Nat, n = (t : Int) := ⟨n.toNat, by have := HN.out; omega⟩
      have htb : 1 ≤ t ∧ t ≤ 3 := by have := HN.out; omega
      have HWT := Lib.hid (fun V : World => signs_at V t htb.1 htb.2)
      have q3 := tsz_len t htb.1 htb.2
      have ht4 : (t : Int) < 4 := by omega
      have ht0 : (0 : Int) ≤ (t : Int) := by omega
      rw [Int.toNat_natCast] at HT
      generalize tsW t = Z at *
      have q1 : Sz ⟨#[105, 102, 32]⟩ 20 := by unfold Sz; decide
      have q2 : Sz ⟨#[32]⟩ 20 := by unfold Sz; decide
      have q4 : Sz ⟨#[32, 116, 104, 101, 110, 32]⟩ 20 := by unfold Sz; decide
      have q5 : Sz ⟨#[32, 101, 108, 115, 101, 32]⟩ 20 := by unfold Sz; decide
      have j1 := Sz.run q1 z0 (by omega)
      have p1 := Sz.app q1 z0
      have j2 := Sz.run p1 q2 (by omega)
      have p2 := Sz.app p1 q2
      have j3 := Sz.run p2 q3 (by omega)
      have p3 := Sz.app p2 q3
      have j4 := Sz.run p3 q2 (by omega)
      have p4 := Sz.app p3 q2
      have j5 := Sz.run p4 z1 (by omega)
      have p5 := Sz.app p4 z1
      have j6 := Sz.run p5 q4 (by omega)
      have p6 := Sz.app p5 q4
      have j7 := Sz.run p6 z2 (by omega)
      have p7 := Sz.app p6 z2
      have j8 := Sz.run p7 q5 (by omega)
      have p8 := Sz.app p7 q5
      have j9 := Sz.run p8 z3 (by omega)
      have p9 := Sz.app p8 z3
      go_wp2_with fail
      have HSW : Hid (∀ w', Below wr.heap.size wr w' → w'.cell? ⟨w.heap.size, 1, none⟩ = some (.int .i64 (t : Int)) ∧ w'.cell? ⟨g, 0, none⟩ = some (.string T0) ∧ w'.cell? ⟨g, 1, none⟩ = some (.string T1) ∧ w'.cell? ⟨g, 2, none⟩ = some (.string T2) ∧ w'.cell? ⟨g, 3, none⟩ = some (.string T3)) := fun w' hb' => ⟨(hb'.cell (blt_of_cell x1)).trans x1, (hb'.cell (blt_of_cell c0)).trans c0, (hb'.cell (blt_of_cell c1)).trans c1, (hb'.cell (blt_of_cell c2)).trans c2, (hb'.cell (blt_of_cell c3)).trans c3⟩
      clear x0 x1 x2 x3 c0 c1 c2 c3
      refine wp_region_held_drew (S := fun w' => w'.cell? ⟨w.heap.size, 1, none⟩ = some (.int .i64 (t : Int)) ∧ w'.cell? ⟨g, 0, none⟩ = some (.string T0) ∧ w'.cell? ⟨g, 1, none⟩ = some (.string T1) ∧ w'.cell? ⟨g, 2, none⟩ = some (.string T2) ∧ w'.cell? ⟨g, 3, none⟩ = some (.string T3)) (by kernel_rfl) ?_ (fun hHeld => ?_)
      · exact HSW.out _ (kbelow_dN (Below.refl _ _) 1)
      have HBn0 : Hid (Below wr.heap.size wr wr.drew) := Lib.hid (kbelow_dN (Below.refl _ _) 1)
      generalize wr.drew = V0 at HBn0 hHeld ⊢
      refine wpAnyH_take (i := 0) (oi := _) (v := .slice (some ⟨g, 0, none⟩) 4 cg) rfl (by kernel_rfl) (by kernel_rfl) (by kernel_rfl) (fun _ _ _ h => h) (Or.inl ⟨by kernel_rfl, fun w' hSw => ?_⟩) (by assumption) ?_
      · ((try dsimp only at hSw); go_simp; try with_reducible rfl)
      try simp only [Act.put, List.setIfInBounds_toArray, List.set_cons_zero, List.set_cons_succ]
      refine wpAnyH_take (i := 1) (oi := _) (v := .pointer (some ⟨g, 0, none⟩)) rfl (by kernel_rfl) (by kernel_rfl) (by kernel_rfl) (fun _ _ _ h => h) (Or.inl ⟨by kernel_rfl, fun w' hSw => ?_⟩) (by assumption) ?_
      · ((try dsimp only at hSw); go_simp; try with_reducible rfl)
      try simp only [Act.put, List.setIfInBounds_toArray, List.set_cons_zero, List.set_cons_succ]
      refine wpAnyH_take (i := 2) (oi := _) (v := .string T0) rfl (by kernel_rfl) (by kernel_rfl) (by kernel_rfl) (fun _ _ _ h => h) (Or.inl ⟨by kernel_rfl, fun w' hSw => ?_⟩) (by assumption) ?_
      · ((try dsimp only at hSw); go_simp; try with_reducible rfl)
      try simp only [Act.put, List.setIfInBounds_toArray, List.set_cons_zero, List.set_cons_succ]
      refine wpAnyH_take (i := 3) (oi := _) (v := .string (⟨#[105, 102, 32]⟩ ++ T0)) rfl (by kernel_rfl) (by kernel_rfl) (by kernel_rfl) (fun _ _ _ h => h) (Or.inl ⟨by kernel_rfl, fun w' hSw => ?_⟩) (by assumption) ?_
      · ((try dsimp only at hSw); go_simp; try with_reducible rfl)
      try simp only [Act.put, List.setIfInBounds_toArray, List.set_cons_zero, List.set_cons_succ]
      refine wpAnyH_take (i := 4) (oi := _) (v := .string (⟨#[105, 102, 32]⟩ ++ T0 ++ ⟨#[32]⟩)) rfl (by kernel_rfl) (by kernel_rfl) (by kernel_rfl) (fun _ _ _ h => h) (Or.inl ⟨by kernel_rfl, fun w' hSw => ?_⟩) (by assumption) ?_
      · ((try dsimp only at hSw); go_simp; try with_reducible rfl)
      try simp only [Act.put, List.setIfInBounds_toArray, List.set_cons_zero, List.set_cons_succ]
      refine wpAnyH_take (i := 6) (oi := _) (v := .pointer (some ⟨w.heap.size, 1, none⟩)) rfl (by kernel_rfl) (by kernel_rfl) (by kernel_rfl) (fun _ _ _ h => h) (Or.inl ⟨by kernel_rfl, fun w' hSw => ?_⟩) (by assumption) ?_
      · ((try dsimp only at hSw); go_simp; try with_reducible rfl)
      try simp only [Act.put, List.setIfInBounds_toArray, List.set_cons_zero, List.set_cons_succ]
      refine wpAnyH_take (i := 7) (oi := _) (v := .int .i64 (t : Int)) rfl (by kernel_rfl) (by kernel_rfl) (by kernel_rfl) (fun _ _ _ h => h) (Or.inl ⟨by kernel_rfl, fun w' hSw => ?_⟩) (by assumption) ?_
      · ((try dsimp only at hSw); go_simp; try with_reducible rfl)
      try simp only [Act.put, List.setIfInBounds_toArray, List.set_cons_zero, List.set_cons_succ]
      refine wpAnyH_take (i := 12) (oi := _) (v := .slice (some ⟨g, 0, none⟩) 4 cg) rfl (by kernel_rfl) (by kernel_rfl) (by kernel_rfl) (fun _ _ _ h => h) (Or.inl ⟨by kernel_rfl, fun w' hSw => ?_⟩) (by assumption) ?_
      · ((try dsimp only at hSw); go_simp; try with_reducible rfl)
      try simp only [Act.put, List.setIfInBounds_toArray, List.set_cons_zero, List.set_cons_succ]
      refine wpAnyH_take (i := 13) (oi := _) (v := .pointer (some ⟨g, 1, none⟩)) rfl (by kernel_rfl) (by kernel_rfl) (by kernel_rfl) (fun _ _ _ h => h) (Or.inl ⟨by kernel_rfl, fun w' hSw => ?_⟩) (by assumption) ?_
      · ((try dsimp only at hSw); go_simp; try with_reducible rfl)
      try simp only [Act.put, List.setIfInBounds_toArray, List.set_cons_zero, List.set_cons_succ]
      refine wpAnyH_take (i := 14) (oi := _) (v := .string T1) rfl (by kernel_rfl) (by kernel_rfl) (by kernel_rfl) (fun _ _ _ h => h) (Or.inl ⟨by kernel_rfl, fun w' hSw => ?_⟩) (by assumption) ?_
      · ((try dsimp only at hSw); go_simp; try with_reducible rfl)
      try simp only [Act.put, List.setIfInBounds_toArray, List.set_cons_zero, List.set_cons_succ]
      refine wpAnyH_take (i := 17) (oi := _) (v := .slice (some ⟨g, 0, none⟩) 4 cg) rfl (by kernel_rfl) (by kernel_rfl) (by kernel_rfl) (fun _ _ _ h => h) (Or.inl ⟨by kernel_rfl, fun w' hSw => ?_⟩) (by assumption) ?_
      · ((try dsimp only at hSw); go_simp; try with_reducible rfl)
      try simp only [Act.put, List.setIfInBounds_toArray, List.set_cons_zero, List.set_cons_succ]
      refine wpAnyH_take (i := 18) (oi := _) (v := .pointer (some ⟨g, 2, none⟩)) rfl (by kernel_rfl) (by kernel_rfl) (by kernel_rfl) (fun _ _ _ h => h) (Or.inl ⟨by kernel_rfl, fun w' hSw => ?_⟩) (by assumption) ?_
      · ((try dsimp only at hSw); go_simp; try with_reducible rfl)
      try simp only [Act.put, List.setIfInBounds_toArray, List.set_cons_zero, List.set_cons_succ]
      refine wpAnyH_take (i := 19) (oi := _) (v := .string T2) rfl (by kernel_rfl) (by kernel_rfl) (by kernel_rfl) (fun _ _ _ h => h) (Or.inl ⟨by kernel_rfl, fun w' hSw => ?_⟩) (by assumption) ?_
      · ((try dsimp only at hSw); go_simp; try with_reducible rfl)
      try simp only [Act.put, List.setIfInBounds_toArray, List.set_cons_zero, List.set_cons_succ]
      refine wpAnyH_take (i := 22) (oi := _) (v := .slice (some ⟨g, 0, none⟩) 4 cg) rfl (by kernel_rfl) (by kernel_rfl) (by kernel_rfl) (fun _ _ _ h => h) (Or.inl ⟨by kernel_rfl, fun w' hSw => ?_⟩) (by assumption) ?_
      · ((try dsimp only at hSw); go_simp; try with_reducible rfl)
      try simp only [Act.put, List.setIfInBounds_toArray, List.set_cons_zero, List.set_cons_succ]
      refine wpAnyH_take (i := 23) (oi := _) (v := .pointer (some ⟨g, 3, none⟩)) rfl (by kernel_rfl) (by kernel_rfl) (by kernel_rfl) (fun _ _ _ h => h) (Or.inl ⟨by kernel_rfl, fun w' hSw => ?_⟩) (by assumption) ?_
      · ((try dsimp only at hSw); go_simp; try with_reducible rfl)
      try simp only [Act.put, List.setIfInBounds_toArray, List.set_cons_zero, List.set_cons_succ]
      refine wpAnyH_take (i := 24) (oi := _) (v := .string T3) rfl (by kernel_rfl) (by kernel_rfl) (by kernel_rfl) (fun _ _ _ h => h) (Or.inl ⟨by kernel_rfl, fun w' hSw => ?_⟩) (by assumption) ?_
      · ((try dsimp only at hSw); go_simp; try with_reducible rfl)
      try simp only [Act.put, List.setIfInBounds_toArray, List.set_cons_zero, List.set_cons_succ]
      refine wpAnyH_ready (rs := [5]) (by kernel_rfl) (by simp) ?_
      refine AllReadyH.cons rfl (fun K hK => ?_) AllReadyH.nil
      go_simp
      have HBn1 := Lib.hid (HBn0.out.alloc HBn0.out.size (.cells #[.string ⟨#[]⟩, .string ⟨#[60]⟩, .string ⟨#[60, 61]⟩, .string ⟨#[61]⟩] 9))
      have HC1 := Lib.hid (HWT.out V0)
      refine hK.out _ _ (by exact HSW.out _ HBn1.out) (fun hHeld => ?_)
      clear hK K
      try simp only [Act.put, List.setIfInBounds_toArray, List.set_cons_zero, List.set_cons_succ]
      replace hHeld := And.intro hHeld HC1.out
      generalize V0.alloc (.cells #[.string ⟨#[]⟩, .string ⟨#[60]⟩, .string ⟨#[60, 61]⟩, .string ⟨#[61]⟩] 9) = V1 at HBn1 HC1 hHeld ⊢
      refine wpAnyH_more (S' := fun w' => (w'.cell? ⟨w.heap.size, 1, none⟩ = some (.int .i64 (t : Int)) ∧ w'.cell? ⟨g, 0, none⟩ = some (.string T0) ∧ w'.cell? ⟨g, 1, none⟩ = some (.string T1) ∧ w'.cell? ⟨g, 2, none⟩ = some (.string T2) ∧ w'.cell? ⟨g, 3, none⟩ = some (.string T3)) ∧ w'.cell? ⟨V0.heap.size, t, none⟩ = some (.string Z)) (fun _ h => h.1) _ _ _ _ ?_
      refine wpAnyH_take (i := 8) (oi := _) (v := .pointer (some ⟨V0.heap.size, t, none⟩)) rfl (by kernel_rfl) (by kernel_rfl) (by kernel_rfl) (fun _ _ _ h => h) (Or.inl ⟨by kernel_rfl, fun w' hSw => ?_⟩) (by assumption) ?_
      · ((try dsimp only at hSw); go_simp; try with_reducible rfl)
      try simp only [Act.put, List.setIfInBounds_toArray, List.set_cons_zero, List.set_cons_succ]
      refine wpAnyH_take (i := 9) (oi := _) (v := .string Z) rfl (by kernel_rfl) (by kernel_rfl) (by kernel_rfl) (fun _ _ _ h => h) (Or.inl ⟨by kernel_rfl, fun w' hSw => ?_⟩) (by assumption) ?_
      · ((try dsimp only at hSw); go_simp; try with_reducible rfl)
      try simp only [Act.put, List.setIfInBounds_toArray, List.set_cons_zero, List.set_cons_succ]
      refine wpAnyH_take (i := 10) (oi := _) (v := .string (⟨#[105, 102, 32]⟩ ++ T0 ++ ⟨#[32]⟩ ++ Z)) rfl (by kernel_rfl) (by kernel_rfl) (by kernel_rfl) (fun _ _ _ h => h) (Or.inl ⟨by kernel_rfl, fun w' hSw => ?_⟩) (by assumption) ?_
      · ((try dsimp only at hSw); go_simp; try with_reducible rfl)
      try simp only [Act.put, List.setIfInBounds_toArray, List.set_cons_zero, List.set_cons_succ]
      refine wpAnyH_take (i := 11) (oi := _) (v := .string (⟨#[105, 102, 32]⟩ ++ T0 ++ ⟨#[32]⟩ ++ Z ++ ⟨#[32]⟩)) rfl (by kernel_rfl) (by kernel_rfl) (by kernel_rfl) (fun _ _ _ h => h) (Or.inl ⟨by kernel_rfl, fun w' hSw => ?_⟩) (by assumption) ?_
      · ((try dsimp only at hSw); go_simp; try with_reducible rfl)
      try simp only [Act.put, List.setIfInBounds_toArray, List.set_cons_zero, List.set_cons_succ]
      refine wpAnyH_take (i := 15) (oi := _) (v := .string (⟨#[105, 102, 32]⟩ ++ T0 ++ ⟨#[32]⟩ ++ Z ++ ⟨#[32]⟩ ++ T1)) rfl (by kernel_rfl) (by kernel_rfl) (by kernel_rfl) (fun _ _ _ h => h) (Or.inl ⟨by kernel_rfl, fun w' hSw => ?_⟩) (by assumption) ?_
      · ((try dsimp only at hSw); go_simp; try with_reducible rfl)
      try simp only [Act.put, List.setIfInBounds_toArray, List.set_cons_zero, List.set_cons_succ]
      refine wpAnyH_take (i := 16) (oi := _) (v := .string (⟨#[105, 102, 32]⟩ ++ T0 ++ ⟨#[32]⟩ ++ Z ++ ⟨#[32]⟩ ++ T1 ++ ⟨#[32, 116, 104, 101, 110, 32]⟩)) rfl (by kernel_rfl) (by kernel_rfl) (by kernel_rfl) (fun _ _ _ h => h) (Or.inl ⟨by kernel_rfl, fun w' hSw => ?_⟩) (by assumption) ?_
      · ((try dsimp only at hSw); go_simp; try with_reducible rfl)
      try simp only [Act.put, List.setIfInBounds_toArray, List.set_cons_zero, List.set_cons_succ]
      refine wpAnyH_take (i := 20) (oi := _) (v := .string (⟨#[105, 102, 32]⟩ ++ T0 ++ ⟨#[32]⟩ ++ Z ++ ⟨#[32]⟩ ++ T1 ++ ⟨#[32, 116, 104, 101, 110, 32]⟩ ++ T2)) rfl (by kernel_rfl) (by kernel_rfl) (by kernel_rfl) (fun _ _ _ h => h) (Or.inl ⟨by kernel_rfl, fun w' hSw => ?_⟩) (by assumption) ?_
      · ((try dsimp only at hSw); go_simp; try with_reducible rfl)
      try simp only [Act.put, List.setIfInBounds_toArray, List.set_cons_zero, List.set_cons_succ]
      refine wpAnyH_take (i := 21) (oi := _) (v := .string (⟨#[105, 102, 32]⟩ ++ T0 ++ ⟨#[32]⟩ ++ Z ++ ⟨#[32]⟩ ++ T1 ++ ⟨#[32, 116, 104, 101, 110, 32]⟩ ++ T2 ++ ⟨#[32, 101, 108, 115, 101, 32]⟩)) rfl (by kernel_rfl) (by kernel_rfl) (by kernel_rfl) (fun _ _ _ h => h) (Or.inl ⟨by kernel_rfl, fun w' hSw => ?_⟩) (by assumption) ?_
      · ((try dsimp only at hSw); go_simp; try with_reducible rfl)
      try simp only [Act.put, List.setIfInBounds_toArray, List.set_cons_zero, List.set_cons_succ]
      refine wpAnyH_ready (rs := [25]) (by kernel_rfl) (by simp) ?_
      refine AllReadyH.cons rfl (fun K hK => ?_) AllReadyH.nil
      go_simp
      refine hK.out _ _ (by exact ⟨HSW.out _ HBn1.out, HC1.out⟩) (fun hHeld => ?_)
      clear hK K
      try simp only [Act.put, List.setIfInBounds_toArray, List.set_cons_zero, List.set_cons_succ]
      refine wpAnyH_ready (rs := [26]) (by kernel_rfl) (by simp) ?_
      refine AllReadyH.cons rfl (fun K hK => ?_) AllReadyH.nil
      go_simp
      refine hK.out _ _ (by exact ⟨HSW.out _ HBn1.out, HC1.out⟩) (fun hHeld => ?_)
      clear hK K
      try simp only [Act.put, List.setIfInBounds_toArray, List.set_cons_zero, List.set_cons_succ]
      refine wpAnyH_done (by kernel_rfl) ?_ _
      go_wp2_with fail
      go_ret
      exact ⟨congrArg (fun x => Ending.returned (.string x)) HT.out, HB0.out.trans ((HB.out.trans (HBn1.out.mono HB.out.size)).mono HB0.out.size)⟩
end Go.Proofs.YtchiifnciijagaaGreatDoor
