/-
  Promise F3: the walk of the reference's ExprText, some kinds.
  Promise F3: the walk of the reference's ExprText, some kinds.
-/
import Derived.Test.YtchiifnciijagaaGreatDoorRQ
import Derived.Deep.RegionHeldLaw
import Derived.Lib.Hide
import Derived.Lib.QuietBelow
import Derived.BigQuiet
set_option linter.unusedSimpArgs false
namespace Go.Proofs.YtchiifnciijagaaGreatDoor
open Go.RowKit


set_option maxRecDepth 100000 in
set_option maxHeartbeats 4000000 in
theorem exprText_4_false (n : Int) (s : ByteArray) (kid : Nat → Ex) (HN : Hid (monB n = true)) (ZN : Sz (mT n) 25) (hC : ∀ j, j < 1 → ∀ b, RcX b (kid j)) (hZ : ∀ j, j < 1 → ∀ b, Sz (rT (inT b (kid j))) 500000) (hT : mT n ++ ⟨#[32, 37, 32, 111, 102, 32]⟩ ++ rT (inT true (kid 0)) = rT (inT false (Ex.mk 4 n s 1 kid))) : RcX false (Ex.mk 4 n s 1 kid) := by
  have HKC := Lib.hid hC
  have HFL : Hid (∀ j, flg 4 j = true) := by unfold Hid flg; simp
  have HZ := Lib.hid hZ
  have HT := Lib.hid hT
  clear hC hZ hT
  intro a c w hk
  show Calls Tryz.prog 26 #[.agg #[.int .i64 4, .int .i64 n, .string s, .slice a (1 : Nat) c], .bool false] w _
  have HB0 := Lib.hid (kbelow_box w (.cells #[.int .i64 4, .int .i64 n, .string s, .slice a (1 : Nat) c] 39))
  have HX0 : Hid (Obx (w.alloc (.cells #[.int .i64 4, .int .i64 n, .string s, .slice a (1 : Nat) c] 39)) w.heap.size [.int .i64 4, .int .i64 n, .string s, .slice a (1 : Nat) c] 39) := Lib.hid (Obx.made w [.int .i64 4, .int .i64 n, .string s, .slice a (1 : Nat) c] _)
  have HKD := Lib.hid (hk.below HB0.out)
  clear hk
  go_enter Tryz.func26, Tryz.ntmps26
  go_wp2_with fail
  generalize (w.alloc (.cells #[.int .i64 4, .int .i64 n, .string s, .slice a (1 : Nat) c] 39)) = W at *
  go_loopw [5, 6] (fun v i wr => ∃ j : Nat, j ≤ 1 ∧ i = .int .i64 j ∧ GrS wr W.heap.size v (kTs 4 kid j) ∧ Below W.heap.size W wr) (fun _ i _ => 1 - (intOf i).toNat)
  case atStart => exact ⟨0, Nat.zero_le _, rfl, GrS.nil _ _, Below.refl _ _⟩
  case round =>
  
    obtain ⟨j, hj, rfl, hgr, hb⟩ := hrel
    have HG := Lib.hid hgr
    have HB := Lib.hid hb
    obtain ⟨x0, x1, x2, x3⟩ := (HX0.out.below hb).four
    clear hgr hb
    by_cases hlt : j < 1
    · have hltM : (j : Int) < (1 : Int) := by omega
      obtain ⟨b, off, rfl, hcell⟩ := HKD.out.open (show 0 < 1 by omega)
      obtain ⟨aj, cj, ⟨y0, y1, y2, y3⟩, hkj⟩ := hcell wr HB.out j hlt
      obtain ⟨aj2, cj2, hyy, -⟩ := hcell W (Below.refl _ _) j hlt
      have y0' : wr.cell? ⟨b, off + j * 4, none⟩ = some (.int .i64 (kid j).k) := y0
      have y1' : wr.cell? ⟨b, off + j * 4 + 1, none⟩ = some (.int .i64 (kid j).n) := y1
      have y2' : wr.cell? ⟨b, off + j * 4 + 2, none⟩ = some (.string (kid j).s) := y2
      have y3' : wr.cell? ⟨b, off + j * 4 + 3, none⟩ = some (.slice aj (kid j).m cj) := y3
      have HY : Hid (W.cell? ⟨b, off + j * 4, none⟩ = some (.int .i64 (kid j).k) ∧ W.cell? ⟨b, off + j * 4 + 1, none⟩ = some (.int .i64 (kid j).n) ∧ W.cell? ⟨b, off + j * 4 + 2, none⟩ = some (.string (kid j).s) ∧ W.cell? ⟨b, off + j * 4 + 3, none⟩ = some (.slice aj (kid j).m cj)) := by
        obtain ⟨z0, z1, z2, z3⟩ := hyy
        have e3 := (HB.out.cell (p := ⟨b, off + j * 4 + 3, none⟩) (blt_of_cell z3)).trans z3
        have e4 := e3.symm.trans y3'
        injection e4 with e4
        injection e4 with e5 e6 e7
        subst e5 e7
        exact ⟨z0, z1, z2, z3⟩
      have HKJ : Hid (∀ (fb : Bool) (W' : World), Below wr.heap.size wr W' → Calls Tryz.prog 26 #[.agg #[.int .i64 (kid j).k, .int .i64 (kid j).n, .string (kid j).s, .slice aj (kid j).m cj], .bool fb] W' fun e w' => e = .returned (.string (rT (inT fb (kid j)))) ∧ Below W'.heap.size W' w') := fun fb W' hb' => HKC.out j hlt fb aj cj W' (hkj.below hb')
      clear y0 y1 y2 y3 hcell hkj hyy
      generalize (kid j).k = kk at *
      generalize (kid j).n = kn' at *
      generalize (kid j).s = ks at *
      generalize (kid j).m = km at *
      have HFJ := Lib.hid (HFL.out j)
      go_wp2_with fail
      have HSW : Hid (∀ w2, Below W.heap.size W w2 → (w2.cell? ⟨w.heap.size, 0, none⟩ = some (.int .i64 4) ∧ w2.cell? ⟨w.heap.size, 3, none⟩ = some (.slice (some ⟨b, off, none⟩) 1 c) ∧ w2.cell? ⟨b, off + j * 4, none⟩ = some (.int .i64 kk) ∧ w2.cell? ⟨b, off + j * 4 + 1, none⟩ = some (.int .i64 kn') ∧ w2.cell? ⟨b, off + j * 4 + 2, none⟩ = some (.string ks) ∧ w2.cell? ⟨b, off + j * 4 + 3, none⟩ = some (.slice aj km cj))) := fun w2 hb =>
        ⟨(hb.cell (blt_of_cell HX0.out.c0)).trans HX0.out.c0, (hb.cell (blt_of_cell HX0.out.c3)).trans HX0.out.c3, (hb.cell (blt_of_cell HY.out.1)).trans HY.out.1, (hb.cell (blt_of_cell HY.out.2.1)).trans HY.out.2.1, (hb.cell (blt_of_cell HY.out.2.2.1)).trans HY.out.2.2.1, (hb.cell (blt_of_cell HY.out.2.2.2)).trans HY.out.2.2.2⟩
      clear x0 x1 x2 x3 y0' y1' y2' y3'
      refine wp_region_held_drew (S := fun w' => w'.cell? ⟨w.heap.size, 0, none⟩ = some (.int .i64 4) ∧ w'.cell? ⟨w.heap.size, 3, none⟩ = some (.slice (some ⟨b, off, none⟩) 1 c) ∧ w'.cell? ⟨b, off + j * 4, none⟩ = some (.int .i64 kk) ∧ w'.cell? ⟨b, off + j * 4 + 1, none⟩ = some (.int .i64 kn') ∧ w'.cell? ⟨b, off + j * 4 + 2, none⟩ = some (.string ks) ∧ w'.cell? ⟨b, off + j * 4 + 3, none⟩ = some (.slice aj km cj)) (by kernel_rfl) ?_ (fun hHeld => ?_)
      · exact HSW.out wr HB.out
      refine wpAnyH_take (i := 0) (oi := _) (v := u5) rfl (by kernel_rfl) (by kernel_rfl) (by kernel_rfl) (fun _ _ _ h => h) (Or.inl ⟨by kernel_rfl, fun w' hSw => ?_⟩) (by assumption) ?_
      · ((try dsimp only at hSw); go_simp; try with_reducible rfl)
      try simp only [Act.put, List.setIfInBounds_toArray, List.set_cons_zero, List.set_cons_succ]
      refine wpAnyH_take (i := 1) (oi := _) (v := .pointer (some ⟨w.heap.size, 3, none⟩)) rfl (by kernel_rfl) (by kernel_rfl) (by kernel_rfl) (fun _ _ _ h => h) (Or.inl ⟨by kernel_rfl, fun w' hSw => ?_⟩) (by assumption) ?_
      · ((try dsimp only at hSw); go_simp; try with_reducible rfl)
      try simp only [Act.put, List.setIfInBounds_toArray, List.set_cons_zero, List.set_cons_succ]
      refine wpAnyH_take (i := 2) (oi := _) (v := .slice (some ⟨b, off, none⟩) 1 c) rfl (by kernel_rfl) (by kernel_rfl) (by kernel_rfl) (fun _ _ _ h => h) (Or.inl ⟨by kernel_rfl, fun w' hSw => ?_⟩) (by assumption) ?_
      · ((try dsimp only at hSw); go_simp; try with_reducible rfl)
      try simp only [Act.put, List.setIfInBounds_toArray, List.set_cons_zero, List.set_cons_succ]
      refine wpAnyH_take (i := 3) (oi := _) (v := .int .i64 (j : Int)) rfl (by kernel_rfl) (by kernel_rfl) (by kernel_rfl) (fun _ _ _ h => h) (Or.inl ⟨by kernel_rfl, fun w' hSw => ?_⟩) (by assumption) ?_
      · ((try dsimp only at hSw); go_simp; try with_reducible rfl)
      try simp only [Act.put, List.setIfInBounds_toArray, List.set_cons_zero, List.set_cons_succ]
      refine wpAnyH_take (i := 4) (oi := _) (v := .pointer (some ⟨b, off + j * 4, none⟩)) rfl (by kernel_rfl) (by kernel_rfl) (by kernel_rfl) (fun _ _ _ h => h) (Or.inl ⟨by kernel_rfl, fun w' hSw => ?_⟩) (by assumption) ?_
      · ((try dsimp only at hSw); go_simp; try with_reducible rfl)
      try simp only [Act.put, List.setIfInBounds_toArray, List.set_cons_zero, List.set_cons_succ]
      refine wpAnyH_take (i := 5) (oi := _) (v := .agg #[.int .i64 kk, .int .i64 kn', .string ks, .slice aj km cj]) rfl (by kernel_rfl) (by kernel_rfl) (by kernel_rfl) (fun _ _ _ h => h) (Or.inl ⟨by kernel_rfl, fun w' hSw => ?_⟩) (by assumption) ?_
      · ((try dsimp only at hSw); go_simp; try with_reducible rfl)
      try simp only [Act.put, List.setIfInBounds_toArray, List.set_cons_zero, List.set_cons_succ]
      refine wpAnyH_take (i := 6) (oi := _) (v := .pointer (some ⟨w.heap.size, 0, none⟩)) rfl (by kernel_rfl) (by kernel_rfl) (by kernel_rfl) (fun _ _ _ h => h) (Or.inl ⟨by kernel_rfl, fun w' hSw => ?_⟩) (by assumption) ?_
      · ((try dsimp only at hSw); go_simp; try with_reducible rfl)
      try simp only [Act.put, List.setIfInBounds_toArray, List.set_cons_zero, List.set_cons_succ]
      refine wpAnyH_take (i := 7) (oi := _) (v := .int .i64 4) rfl (by kernel_rfl) (by kernel_rfl) (by kernel_rfl) (fun _ _ _ h => h) (Or.inl ⟨by kernel_rfl, fun w' hSw => ?_⟩) (by assumption) ?_
      · ((try dsimp only at hSw); go_simp; try with_reducible rfl)
      try simp only [Act.put, List.setIfInBounds_toArray, List.set_cons_zero, List.set_cons_succ]
      refine wpAnyH_take (i := 8) (oi := _) (v := .bool true) rfl (by kernel_rfl) (by kernel_rfl) (by kernel_rfl) (fun _ _ _ h => h) (Or.inl ⟨by kernel_rfl, fun w' hSw => ?_⟩) (by assumption) ?_
      · ((try dsimp only at hSw); go_simp; try with_reducible rfl)
      try simp only [Act.put, List.setIfInBounds_toArray, List.set_cons_zero, List.set_cons_succ]
      refine wpAnyH_take (i := 9) (oi := _) (v := .bool true) rfl (by kernel_rfl) (by kernel_rfl) (by kernel_rfl) (fun _ _ _ h => h) (Or.inl ⟨by kernel_rfl, fun w' hSw => ?_⟩) (by assumption) ?_
      · ((try dsimp only at hSw); go_simp; try with_reducible rfl)
      try simp only [Act.put, List.setIfInBounds_toArray, List.set_cons_zero, List.set_cons_succ]
      refine wpAnyH_take (i := 10) (oi := _) (v := undef) rfl (by kernel_rfl) (by kernel_rfl) (by kernel_rfl) (fun _ _ _ h => h) (Or.inr ⟨by kernel_rfl, rfl⟩) (by assumption) ?_
      try simp only [Act.put, List.setIfInBounds_toArray, List.set_cons_zero, List.set_cons_succ]
      refine wpAnyH_take (i := 11) (oi := _) (v := undef) rfl (by kernel_rfl) (by kernel_rfl) (by kernel_rfl) (fun _ _ _ h => h) (Or.inr ⟨by kernel_rfl, rfl⟩) (by assumption) ?_
      try simp only [Act.put, List.setIfInBounds_toArray, List.set_cons_zero, List.set_cons_succ]
      refine wpAnyH_take (i := 12) (oi := _) (v := undef) rfl (by kernel_rfl) (by kernel_rfl) (by kernel_rfl) (fun _ _ _ h => h) (Or.inr ⟨by kernel_rfl, rfl⟩) (by assumption) ?_
      try simp only [Act.put, List.setIfInBounds_toArray, List.set_cons_zero, List.set_cons_succ]
      refine wpAnyH_take (i := 13) (oi := _) (v := undef) rfl (by kernel_rfl) (by kernel_rfl) (by kernel_rfl) (fun _ _ _ h => h) (Or.inr ⟨by kernel_rfl, rfl⟩) (by assumption) ?_
      try simp only [Act.put, List.setIfInBounds_toArray, List.set_cons_zero, List.set_cons_succ]
      refine wpAnyH_take (i := 14) (oi := _) (v := undef) rfl (by kernel_rfl) (by kernel_rfl) (by kernel_rfl) (fun _ _ _ h => h) (Or.inr ⟨by kernel_rfl, rfl⟩) (by assumption) ?_
      try simp only [Act.put, List.setIfInBounds_toArray, List.set_cons_zero, List.set_cons_succ]
      refine wpAnyH_take (i := 15) (oi := _) (v := undef) rfl (by kernel_rfl) (by kernel_rfl) (by kernel_rfl) (fun _ _ _ h => h) (Or.inr ⟨by kernel_rfl, rfl⟩) (by assumption) ?_
      try simp only [Act.put, List.setIfInBounds_toArray, List.set_cons_zero, List.set_cons_succ]
      refine wpAnyH_take (i := 16) (oi := _) (v := undef) rfl (by kernel_rfl) (by kernel_rfl) (by kernel_rfl) (fun _ _ _ h => h) (Or.inr ⟨by kernel_rfl, rfl⟩) (by assumption) ?_
      try simp only [Act.put, List.setIfInBounds_toArray, List.set_cons_zero, List.set_cons_succ]
      refine wpAnyH_take (i := 17) (oi := _) (v := .bool true) rfl (by kernel_rfl) (by kernel_rfl) (by kernel_rfl) (fun _ _ _ h => h) (Or.inl ⟨by kernel_rfl, fun w' hSw => ?_⟩) (by assumption) ?_
      · ((try dsimp only at hSw); go_simp; try with_reducible rfl)
      try simp only [Act.put, List.setIfInBounds_toArray, List.set_cons_zero, List.set_cons_succ]
      refine wpAnyH_ready (rs := [18]) (by kernel_rfl) (by simp) ?_
      refine AllReadyH.cons rfl (fun K hK => ?_) AllReadyH.nil
      go_simp
      refine (HKJ.out true _ (kbelow_dN (Below.refl _ _) 1)).mono ?_
      rintro e w1 ⟨rfl, hb1⟩
      have HB1' := Lib.hid (rfrom_drew hb1)
      have HB1 := Lib.hid (HB.out.trans ((rfrom_drew hb1).mono HB.out.size))
      have HTX := Lib.hid (kbelow_box w1 (.cells #[.string (rT (inT true (kid j)))] 9))
      have HGX := Lib.hid ((HG.out.below HB1'.out).below HTX.out)
      have HBX := Lib.hid (HB1.out.trans (HTX.out.mono HB1.out.size))
      have hsrc : (w1.alloc (.cells #[.string (rT (inT true (kid j)))] 9)).cell? ⟨w1.heap.size, 0, none⟩ = some (.string (rT (inT true (kid j)))) := by simp
      have HSRC := Lib.hid hsrc
      clear hb1 hsrc
      try go_wp2_with fail
      refine hK.out _ _ (by exact HSW.out _ HB1.out) (fun hHeld => ?_)
      clear hK K
      try simp only [Act.put, List.setIfInBounds_toArray, List.set_cons_zero, List.set_cons_succ]
      refine wpAnyH_ready (rs := [19]) (by kernel_rfl) (by simp) ?_
      refine AllReadyH.cons rfl (fun K hK => ?_) AllReadyH.nil
      go_simp
      refine hK.out _ _ (by exact HSW.out _ HBX.out) (fun hHeld => ?_)
      clear hK K
      try simp only [Act.put, List.setIfInBounds_toArray, List.set_cons_zero, List.set_cons_succ]
      refine wpAnyH_ready (rs := [20]) (by kernel_rfl) (by simp) ?_
      refine AllReadyH.cons rfl (fun K hK => ?_) AllReadyH.nil
      refine step_app_s _ rfl (.tmp 34) (.tmp 53) rfl W.heap.size u5 (kTs 4 kid j) (by simp [Act.eval]) HGX.out w1.heap.size 1 (rT (inT true (kid j))) (by simp [Act.eval]) HSRC.out (by rw [kTs_len]; omega) HBX.out.size ?_
      intro v9 w9 hg9 hr9
      have HG9 := Lib.hid hg9
      have HB9 := Lib.hid (HBX.out.grown hr9 HBX.out.size fun q hq => (HGX.out.lt q hq).1)
      clear hg9 hr9
      refine hK.out _ _ (by exact HSW.out _ HB9.out) (fun hHeld => ?_)
      clear hK K
      try simp only [Act.put, List.setIfInBounds_toArray, List.set_cons_zero, List.set_cons_succ]
      refine wpAnyH_ready (rs := [21]) (by kernel_rfl) (by simp) ?_
      refine AllReadyH.cons rfl (fun K hK => ?_) AllReadyH.nil
      go_simp
      refine hK.out _ _ (by exact HSW.out _ HB9.out) (fun hHeld => ?_)
      clear hK K
      try simp only [Act.put, List.setIfInBounds_toArray, List.set_cons_zero, List.set_cons_succ]
      refine wpAnyH_done (by kernel_rfl) ?_ _
      go_wp2_with fail
      go_roundw
      case rel => exact ⟨j + 1, by omega, by go_num, by rw [kTs_succ, HFJ.out]; exact HG9.out, HB9.out⟩
      case measure => simp [intOf]; omega
    · obtain rfl : j = 1 := by omega
      obtain ⟨g, cg, hv, hcs⟩ := HG.out.open (by rw [kTs_len]; omega)
      rw [kTs_len] at hv
      subst hv
      have c0 : wr.cell? ⟨g, 0, none⟩ = some (.string (rT (inT true (kid 0)))) := by
        have := hcs 0 (by rw [kTs_len]; omega)
        rw [kTs_at] at this
        exact this
      have z0 : Sz (rT (inT true (kid 0))) 500000 := HZ.out 0 (by omega) true
      generalize rT (inT true (kid 0)) = T0 at *
      clear HKC HFL hcs
      have q1 : Sz ⟨#[32, 37, 32, 111, 102, 32]⟩ 20 := by unfold Sz; decide
      have j1 := Sz.run ZN q1 (by omega)
      have p1 := Sz.app ZN q1
      have j2 := Sz.run p1 z0 (by omega)
      have p2 := Sz.app p1 z0
      go_wp2_with fail
      have y1 := cell_regrown x1
      have d0 := cell_regrown c0
      refine wp_region_quiet_below (by kernel_rfl) (by kernel_rfl) ?_
      repeat (quiet_step (exact Calls.regrown_of (moneyText_m _ _ HN.out)))
      refine wpQuiet_nil ?_
      intro _ hw'
      obtain ⟨⟨dq, osq⟩, hw''⟩ := hw'
      subst hw''
      have HBE := Lib.hid (below_regrown wr dq osq)
      go_wp2_with fail
      go_ret
      exact ⟨congrArg (fun x => Ending.returned (.string x)) HT.out, HB0.out.trans ((HB.out.trans (HBE.out.mono HB.out.size)).mono HB0.out.size)⟩
set_option maxRecDepth 100000 in
set_option maxHeartbeats 4000000 in
theorem exprText_5_false (n : Int) (s : ByteArray) (kid : Nat → Ex) (ZN : Sz s 8) (hC : ∀ j, j < 1 → ∀ b, RcX b (kid j)) (hZ : ∀ j, j < 1 → ∀ b, Sz (rT (inT b (kid j))) 500000) (hT : ⟨#[116, 97, 98, 108, 101, 32]⟩ ++ s ++ ⟨#[32, 111, 102, 32]⟩ ++ rT (inT true (kid 0)) = rT (inT false (Ex.mk 5 n s 1 kid))) : RcX false (Ex.mk 5 n s 1 kid) := by
  have HKC := Lib.hid hC
  have HFL : Hid (∀ j, flg 5 j = true) := by unfold Hid flg; simp
  have HZ := Lib.hid hZ
  have HT := Lib.hid hT
  clear hC hZ hT
  intro a c w hk
  show Calls Tryz.prog 26 #[.agg #[.int .i64 5, .int .i64 n, .string s, .slice a (1 : Nat) c], .bool false] w _
  have HB0 := Lib.hid (kbelow_box w (.cells #[.int .i64 5, .int .i64 n, .string s, .slice a (1 : Nat) c] 39))
  have HX0 : Hid (Obx (w.alloc (.cells #[.int .i64 5, .int .i64 n, .string s, .slice a (1 : Nat) c] 39)) w.heap.size [.int .i64 5, .int .i64 n, .string s, .slice a (1 : Nat) c] 39) := Lib.hid (Obx.made w [.int .i64 5, .int .i64 n, .string s, .slice a (1 : Nat) c] _)
  have HKD := Lib.hid (hk.below HB0.out)
  clear hk
  go_enter Tryz.func26, Tryz.ntmps26
  go_wp2_with fail
  generalize (w.alloc (.cells #[.int .i64 5, .int .i64 n, .string s, .slice a (1 : Nat) c] 39)) = W at *
  go_loopw [5, 6] (fun v i wr => ∃ j : Nat, j ≤ 1 ∧ i = .int .i64 j ∧ GrS wr W.heap.size v (kTs 5 kid j) ∧ Below W.heap.size W wr) (fun _ i _ => 1 - (intOf i).toNat)
  case atStart => exact ⟨0, Nat.zero_le _, rfl, GrS.nil _ _, Below.refl _ _⟩
  case round =>
  
    obtain ⟨j, hj, rfl, hgr, hb⟩ := hrel
    have HG := Lib.hid hgr
    have HB := Lib.hid hb
    obtain ⟨x0, x1, x2, x3⟩ := (HX0.out.below hb).four
    clear hgr hb
    by_cases hlt : j < 1
    · have hltM : (j : Int) < (1 : Int) := by omega
      obtain ⟨b, off, rfl, hcell⟩ := HKD.out.open (show 0 < 1 by omega)
      obtain ⟨aj, cj, ⟨y0, y1, y2, y3⟩, hkj⟩ := hcell wr HB.out j hlt
      obtain ⟨aj2, cj2, hyy, -⟩ := hcell W (Below.refl _ _) j hlt
      have y0' : wr.cell? ⟨b, off + j * 4, none⟩ = some (.int .i64 (kid j).k) := y0
      have y1' : wr.cell? ⟨b, off + j * 4 + 1, none⟩ = some (.int .i64 (kid j).n) := y1
      have y2' : wr.cell? ⟨b, off + j * 4 + 2, none⟩ = some (.string (kid j).s) := y2
      have y3' : wr.cell? ⟨b, off + j * 4 + 3, none⟩ = some (.slice aj (kid j).m cj) := y3
      have HY : Hid (W.cell? ⟨b, off + j * 4, none⟩ = some (.int .i64 (kid j).k) ∧ W.cell? ⟨b, off + j * 4 + 1, none⟩ = some (.int .i64 (kid j).n) ∧ W.cell? ⟨b, off + j * 4 + 2, none⟩ = some (.string (kid j).s) ∧ W.cell? ⟨b, off + j * 4 + 3, none⟩ = some (.slice aj (kid j).m cj)) := by
        obtain ⟨z0, z1, z2, z3⟩ := hyy
        have e3 := (HB.out.cell (p := ⟨b, off + j * 4 + 3, none⟩) (blt_of_cell z3)).trans z3
        have e4 := e3.symm.trans y3'
        injection e4 with e4
        injection e4 with e5 e6 e7
        subst e5 e7
        exact ⟨z0, z1, z2, z3⟩
      have HKJ : Hid (∀ (fb : Bool) (W' : World), Below wr.heap.size wr W' → Calls Tryz.prog 26 #[.agg #[.int .i64 (kid j).k, .int .i64 (kid j).n, .string (kid j).s, .slice aj (kid j).m cj], .bool fb] W' fun e w' => e = .returned (.string (rT (inT fb (kid j)))) ∧ Below W'.heap.size W' w') := fun fb W' hb' => HKC.out j hlt fb aj cj W' (hkj.below hb')
      clear y0 y1 y2 y3 hcell hkj hyy
      generalize (kid j).k = kk at *
      generalize (kid j).n = kn' at *
      generalize (kid j).s = ks at *
      generalize (kid j).m = km at *
      have HFJ := Lib.hid (HFL.out j)
      go_wp2_with fail
      have HSW : Hid (∀ w2, Below W.heap.size W w2 → (w2.cell? ⟨w.heap.size, 0, none⟩ = some (.int .i64 5) ∧ w2.cell? ⟨w.heap.size, 3, none⟩ = some (.slice (some ⟨b, off, none⟩) 1 c) ∧ w2.cell? ⟨b, off + j * 4, none⟩ = some (.int .i64 kk) ∧ w2.cell? ⟨b, off + j * 4 + 1, none⟩ = some (.int .i64 kn') ∧ w2.cell? ⟨b, off + j * 4 + 2, none⟩ = some (.string ks) ∧ w2.cell? ⟨b, off + j * 4 + 3, none⟩ = some (.slice aj km cj))) := fun w2 hb =>
        ⟨(hb.cell (blt_of_cell HX0.out.c0)).trans HX0.out.c0, (hb.cell (blt_of_cell HX0.out.c3)).trans HX0.out.c3, (hb.cell (blt_of_cell HY.out.1)).trans HY.out.1, (hb.cell (blt_of_cell HY.out.2.1)).trans HY.out.2.1, (hb.cell (blt_of_cell HY.out.2.2.1)).trans HY.out.2.2.1, (hb.cell (blt_of_cell HY.out.2.2.2)).trans HY.out.2.2.2⟩
      clear x0 x1 x2 x3 y0' y1' y2' y3'
      refine wp_region_held_drew (S := fun w' => w'.cell? ⟨w.heap.size, 0, none⟩ = some (.int .i64 5) ∧ w'.cell? ⟨w.heap.size, 3, none⟩ = some (.slice (some ⟨b, off, none⟩) 1 c) ∧ w'.cell? ⟨b, off + j * 4, none⟩ = some (.int .i64 kk) ∧ w'.cell? ⟨b, off + j * 4 + 1, none⟩ = some (.int .i64 kn') ∧ w'.cell? ⟨b, off + j * 4 + 2, none⟩ = some (.string ks) ∧ w'.cell? ⟨b, off + j * 4 + 3, none⟩ = some (.slice aj km cj)) (by kernel_rfl) ?_ (fun hHeld => ?_)
      · exact HSW.out wr HB.out
      refine wpAnyH_take (i := 0) (oi := _) (v := u5) rfl (by kernel_rfl) (by kernel_rfl) (by kernel_rfl) (fun _ _ _ h => h) (Or.inl ⟨by kernel_rfl, fun w' hSw => ?_⟩) (by assumption) ?_
      · ((try dsimp only at hSw); go_simp; try with_reducible rfl)
      try simp only [Act.put, List.setIfInBounds_toArray, List.set_cons_zero, List.set_cons_succ]
      refine wpAnyH_take (i := 1) (oi := _) (v := .pointer (some ⟨w.heap.size, 3, none⟩)) rfl (by kernel_rfl) (by kernel_rfl) (by kernel_rfl) (fun _ _ _ h => h) (Or.inl ⟨by kernel_rfl, fun w' hSw => ?_⟩) (by assumption) ?_
      · ((try dsimp only at hSw); go_simp; try with_reducible rfl)
      try simp only [Act.put, List.setIfInBounds_toArray, List.set_cons_zero, List.set_cons_succ]
      refine wpAnyH_take (i := 2) (oi := _) (v := .slice (some ⟨b, off, none⟩) 1 c) rfl (by kernel_rfl) (by kernel_rfl) (by kernel_rfl) (fun _ _ _ h => h) (Or.inl ⟨by kernel_rfl, fun w' hSw => ?_⟩) (by assumption) ?_
      · ((try dsimp only at hSw); go_simp; try with_reducible rfl)
      try simp only [Act.put, List.setIfInBounds_toArray, List.set_cons_zero, List.set_cons_succ]
      refine wpAnyH_take (i := 3) (oi := _) (v := .int .i64 (j : Int)) rfl (by kernel_rfl) (by kernel_rfl) (by kernel_rfl) (fun _ _ _ h => h) (Or.inl ⟨by kernel_rfl, fun w' hSw => ?_⟩) (by assumption) ?_
      · ((try dsimp only at hSw); go_simp; try with_reducible rfl)
      try simp only [Act.put, List.setIfInBounds_toArray, List.set_cons_zero, List.set_cons_succ]
      refine wpAnyH_take (i := 4) (oi := _) (v := .pointer (some ⟨b, off + j * 4, none⟩)) rfl (by kernel_rfl) (by kernel_rfl) (by kernel_rfl) (fun _ _ _ h => h) (Or.inl ⟨by kernel_rfl, fun w' hSw => ?_⟩) (by assumption) ?_
      · ((try dsimp only at hSw); go_simp; try with_reducible rfl)
      try simp only [Act.put, List.setIfInBounds_toArray, List.set_cons_zero, List.set_cons_succ]
      refine wpAnyH_take (i := 5) (oi := _) (v := .agg #[.int .i64 kk, .int .i64 kn', .string ks, .slice aj km cj]) rfl (by kernel_rfl) (by kernel_rfl) (by kernel_rfl) (fun _ _ _ h => h) (Or.inl ⟨by kernel_rfl, fun w' hSw => ?_⟩) (by assumption) ?_
      · ((try dsimp only at hSw); go_simp; try with_reducible rfl)
      try simp only [Act.put, List.setIfInBounds_toArray, List.set_cons_zero, List.set_cons_succ]
      refine wpAnyH_take (i := 6) (oi := _) (v := .pointer (some ⟨w.heap.size, 0, none⟩)) rfl (by kernel_rfl) (by kernel_rfl) (by kernel_rfl) (fun _ _ _ h => h) (Or.inl ⟨by kernel_rfl, fun w' hSw => ?_⟩) (by assumption) ?_
      · ((try dsimp only at hSw); go_simp; try with_reducible rfl)
      try simp only [Act.put, List.setIfInBounds_toArray, List.set_cons_zero, List.set_cons_succ]
      refine wpAnyH_take (i := 7) (oi := _) (v := .int .i64 5) rfl (by kernel_rfl) (by kernel_rfl) (by kernel_rfl) (fun _ _ _ h => h) (Or.inl ⟨by kernel_rfl, fun w' hSw => ?_⟩) (by assumption) ?_
      · ((try dsimp only at hSw); go_simp; try with_reducible rfl)
      try simp only [Act.put, List.setIfInBounds_toArray, List.set_cons_zero, List.set_cons_succ]
      refine wpAnyH_take (i := 8) (oi := _) (v := .bool true) rfl (by kernel_rfl) (by kernel_rfl) (by kernel_rfl) (fun _ _ _ h => h) (Or.inl ⟨by kernel_rfl, fun w' hSw => ?_⟩) (by assumption) ?_
      · ((try dsimp only at hSw); go_simp; try with_reducible rfl)
      try simp only [Act.put, List.setIfInBounds_toArray, List.set_cons_zero, List.set_cons_succ]
      refine wpAnyH_take (i := 9) (oi := _) (v := .bool true) rfl (by kernel_rfl) (by kernel_rfl) (by kernel_rfl) (fun _ _ _ h => h) (Or.inl ⟨by kernel_rfl, fun w' hSw => ?_⟩) (by assumption) ?_
      · ((try dsimp only at hSw); go_simp; try with_reducible rfl)
      try simp only [Act.put, List.setIfInBounds_toArray, List.set_cons_zero, List.set_cons_succ]
      refine wpAnyH_take (i := 10) (oi := _) (v := undef) rfl (by kernel_rfl) (by kernel_rfl) (by kernel_rfl) (fun _ _ _ h => h) (Or.inr ⟨by kernel_rfl, rfl⟩) (by assumption) ?_
      try simp only [Act.put, List.setIfInBounds_toArray, List.set_cons_zero, List.set_cons_succ]
      refine wpAnyH_take (i := 11) (oi := _) (v := undef) rfl (by kernel_rfl) (by kernel_rfl) (by kernel_rfl) (fun _ _ _ h => h) (Or.inr ⟨by kernel_rfl, rfl⟩) (by assumption) ?_
      try simp only [Act.put, List.setIfInBounds_toArray, List.set_cons_zero, List.set_cons_succ]
      refine wpAnyH_take (i := 12) (oi := _) (v := undef) rfl (by kernel_rfl) (by kernel_rfl) (by kernel_rfl) (fun _ _ _ h => h) (Or.inr ⟨by kernel_rfl, rfl⟩) (by assumption) ?_
      try simp only [Act.put, List.setIfInBounds_toArray, List.set_cons_zero, List.set_cons_succ]
      refine wpAnyH_take (i := 13) (oi := _) (v := undef) rfl (by kernel_rfl) (by kernel_rfl) (by kernel_rfl) (fun _ _ _ h => h) (Or.inr ⟨by kernel_rfl, rfl⟩) (by assumption) ?_
      try simp only [Act.put, List.setIfInBounds_toArray, List.set_cons_zero, List.set_cons_succ]
      refine wpAnyH_take (i := 14) (oi := _) (v := undef) rfl (by kernel_rfl) (by kernel_rfl) (by kernel_rfl) (fun _ _ _ h => h) (Or.inr ⟨by kernel_rfl, rfl⟩) (by assumption) ?_
      try simp only [Act.put, List.setIfInBounds_toArray, List.set_cons_zero, List.set_cons_succ]
      refine wpAnyH_take (i := 15) (oi := _) (v := undef) rfl (by kernel_rfl) (by kernel_rfl) (by kernel_rfl) (fun _ _ _ h => h) (Or.inr ⟨by kernel_rfl, rfl⟩) (by assumption) ?_
      try simp only [Act.put, List.setIfInBounds_toArray, List.set_cons_zero, List.set_cons_succ]
      refine wpAnyH_take (i := 16) (oi := _) (v := undef) rfl (by kernel_rfl) (by kernel_rfl) (by kernel_rfl) (fun _ _ _ h => h) (Or.inr ⟨by kernel_rfl, rfl⟩) (by assumption) ?_
      try simp only [Act.put, List.setIfInBounds_toArray, List.set_cons_zero, List.set_cons_succ]
      refine wpAnyH_take (i := 17) (oi := _) (v := .bool true) rfl (by kernel_rfl) (by kernel_rfl) (by kernel_rfl) (fun _ _ _ h => h) (Or.inl ⟨by kernel_rfl, fun w' hSw => ?_⟩) (by assumption) ?_
      · ((try dsimp only at hSw); go_simp; try with_reducible rfl)
      try simp only [Act.put, List.setIfInBounds_toArray, List.set_cons_zero, List.set_cons_succ]
      refine wpAnyH_ready (rs := [18]) (by kernel_rfl) (by simp) ?_
      refine AllReadyH.cons rfl (fun K hK => ?_) AllReadyH.nil
      go_simp
      refine (HKJ.out true _ (kbelow_dN (Below.refl _ _) 1)).mono ?_
      rintro e w1 ⟨rfl, hb1⟩
      have HB1' := Lib.hid (rfrom_drew hb1)
      have HB1 := Lib.hid (HB.out.trans ((rfrom_drew hb1).mono HB.out.size))
      have HTX := Lib.hid (kbelow_box w1 (.cells #[.string (rT (inT true (kid j)))] 9))
      have HGX := Lib.hid ((HG.out.below HB1'.out).below HTX.out)
      have HBX := Lib.hid (HB1.out.trans (HTX.out.mono HB1.out.size))
      have hsrc : (w1.alloc (.cells #[.string (rT (inT true (kid j)))] 9)).cell? ⟨w1.heap.size, 0, none⟩ = some (.string (rT (inT true (kid j)))) := by simp
      have HSRC := Lib.hid hsrc
      clear hb1 hsrc
      try go_wp2_with fail
      refine hK.out _ _ (by exact HSW.out _ HB1.out) (fun hHeld => ?_)
      clear hK K
      try simp only [Act.put, List.setIfInBounds_toArray, List.set_cons_zero, List.set_cons_succ]
      refine wpAnyH_ready (rs := [19]) (by kernel_rfl) (by simp) ?_
      refine AllReadyH.cons rfl (fun K hK => ?_) AllReadyH.nil
      go_simp
      refine hK.out _ _ (by exact HSW.out _ HBX.out) (fun hHeld => ?_)
      clear hK K
      try simp only [Act.put, List.setIfInBounds_toArray, List.set_cons_zero, List.set_cons_succ]
      refine wpAnyH_ready (rs := [20]) (by kernel_rfl) (by simp) ?_
      refine AllReadyH.cons rfl (fun K hK => ?_) AllReadyH.nil
      refine step_app_s _ rfl (.tmp 34) (.tmp 53) rfl W.heap.size u5 (kTs 5 kid j) (by simp [Act.eval]) HGX.out w1.heap.size 1 (rT (inT true (kid j))) (by simp [Act.eval]) HSRC.out (by rw [kTs_len]; omega) HBX.out.size ?_
      intro v9 w9 hg9 hr9
      have HG9 := Lib.hid hg9
      have HB9 := Lib.hid (HBX.out.grown hr9 HBX.out.size fun q hq => (HGX.out.lt q hq).1)
      clear hg9 hr9
      refine hK.out _ _ (by exact HSW.out _ HB9.out) (fun hHeld => ?_)
      clear hK K
      try simp only [Act.put, List.setIfInBounds_toArray, List.set_cons_zero, List.set_cons_succ]
      refine wpAnyH_ready (rs := [21]) (by kernel_rfl) (by simp) ?_
      refine AllReadyH.cons rfl (fun K hK => ?_) AllReadyH.nil
      go_simp
      refine hK.out _ _ (by exact HSW.out _ HB9.out) (fun hHeld => ?_)
      clear hK K
      try simp only [Act.put, List.setIfInBounds_toArray, List.set_cons_zero, List.set_cons_succ]
      refine wpAnyH_done (by kernel_rfl) ?_ _
      go_wp2_with fail
      go_roundw
      case rel => exact ⟨j + 1, by omega, by go_num, by rw [kTs_succ, HFJ.out]; exact HG9.out, HB9.out⟩
      case measure => simp [intOf]; omega
    · obtain rfl : j = 1 := by omega
      obtain ⟨g, cg, hv, hcs⟩ := HG.out.open (by rw [kTs_len]; omega)
      rw [kTs_len] at hv
      subst hv
      have c0 : wr.cell? ⟨g, 0, none⟩ = some (.string (rT (inT true (kid 0)))) := by
        have := hcs 0 (by rw [kTs_len]; omega)
        rw [kTs_at] at this
        exact this
      have z0 : Sz (rT (inT true (kid 0))) 500000 := HZ.out 0 (by omega) true
      generalize rT (inT true (kid 0)) = T0 at *
      clear HKC HFL hcs
      have q1 : Sz ⟨#[116, 97, 98, 108, 101, 32]⟩ 20 := by unfold Sz; decide
      have q2 : Sz ⟨#[32, 111, 102, 32]⟩ 20 := by unfold Sz; decide
      have j1 := Sz.run q1 ZN (by omega)
      have p1 := Sz.app q1 ZN
      have j2 := Sz.run p1 q2 (by omega)
      have p2 := Sz.app p1 q2
      have j3 := Sz.run p2 z0 (by omega)
      have p3 := Sz.app p2 z0
      go_wp2_with fail
      have y2 := cell_regrown x2
      have d0 := cell_regrown c0
      refine wp_region_quiet_below (by kernel_rfl) (by kernel_rfl) ?_
      repeat (quiet_step (fail))
      refine wpQuiet_nil ?_
      intro _ hw'
      obtain ⟨⟨dq, osq⟩, hw''⟩ := hw'
      subst hw''
      have HBE := Lib.hid (below_regrown wr dq osq)
      go_wp2_with fail
      go_ret
      exact ⟨congrArg (fun x => Ending.returned (.string x)) HT.out, HB0.out.trans ((HB.out.trans (HBE.out.mono HB.out.size)).mono HB0.out.size)⟩
set_option maxRecDepth 100000 in
set_option maxHeartbeats 4000000 in
theorem exprText_6_false (n : Int) (s : ByteArray) (kid : Nat → Ex)  (hC : ∀ j, j < 1 → ∀ b, RcX b (kid j)) (hZ : ∀ j, j < 1 → ∀ b, Sz (rT (inT b (kid j))) 500000) (hT : ⟨#[45, 32]⟩ ++ rT (inT true (kid 0)) = rT (inT false (Ex.mk 6 n s 1 kid))) : RcX false (Ex.mk 6 n s 1 kid) := by
  have HKC := Lib.hid hC
  have HFL : Hid (∀ j, flg 6 j = true) := by unfold Hid flg; simp
  have HZ := Lib.hid hZ
  have HT := Lib.hid hT
  clear hC hZ hT
  intro a c w hk
  show Calls Tryz.prog 26 #[.agg #[.int .i64 6, .int .i64 n, .string s, .slice a (1 : Nat) c], .bool false] w _
  have HB0 := Lib.hid (kbelow_box w (.cells #[.int .i64 6, .int .i64 n, .string s, .slice a (1 : Nat) c] 39))
  have HX0 : Hid (Obx (w.alloc (.cells #[.int .i64 6, .int .i64 n, .string s, .slice a (1 : Nat) c] 39)) w.heap.size [.int .i64 6, .int .i64 n, .string s, .slice a (1 : Nat) c] 39) := Lib.hid (Obx.made w [.int .i64 6, .int .i64 n, .string s, .slice a (1 : Nat) c] _)
  have HKD := Lib.hid (hk.below HB0.out)
  clear hk
  go_enter Tryz.func26, Tryz.ntmps26
  go_wp2_with fail
  generalize (w.alloc (.cells #[.int .i64 6, .int .i64 n, .string s, .slice a (1 : Nat) c] 39)) = W at *
  go_loopw [5, 6] (fun v i wr => ∃ j : Nat, j ≤ 1 ∧ i = .int .i64 j ∧ GrS wr W.heap.size v (kTs 6 kid j) ∧ Below W.heap.size W wr) (fun _ i _ => 1 - (intOf i).toNat)
  case atStart => exact ⟨0, Nat.zero_le _, rfl, GrS.nil _ _, Below.refl _ _⟩
  case round =>
  
    obtain ⟨j, hj, rfl, hgr, hb⟩ := hrel
    have HG := Lib.hid hgr
    have HB := Lib.hid hb
    obtain ⟨x0, x1, x2, x3⟩ := (HX0.out.below hb).four
    clear hgr hb
    by_cases hlt : j < 1
    · have hltM : (j : Int) < (1 : Int) := by omega
      obtain ⟨b, off, rfl, hcell⟩ := HKD.out.open (show 0 < 1 by omega)
      obtain ⟨aj, cj, ⟨y0, y1, y2, y3⟩, hkj⟩ := hcell wr HB.out j hlt
      obtain ⟨aj2, cj2, hyy, -⟩ := hcell W (Below.refl _ _) j hlt
      have y0' : wr.cell? ⟨b, off + j * 4, none⟩ = some (.int .i64 (kid j).k) := y0
      have y1' : wr.cell? ⟨b, off + j * 4 + 1, none⟩ = some (.int .i64 (kid j).n) := y1
      have y2' : wr.cell? ⟨b, off + j * 4 + 2, none⟩ = some (.string (kid j).s) := y2
      have y3' : wr.cell? ⟨b, off + j * 4 + 3, none⟩ = some (.slice aj (kid j).m cj) := y3
      have HY : Hid (W.cell? ⟨b, off + j * 4, none⟩ = some (.int .i64 (kid j).k) ∧ W.cell? ⟨b, off + j * 4 + 1, none⟩ = some (.int .i64 (kid j).n) ∧ W.cell? ⟨b, off + j * 4 + 2, none⟩ = some (.string (kid j).s) ∧ W.cell? ⟨b, off + j * 4 + 3, none⟩ = some (.slice aj (kid j).m cj)) := by
        obtain ⟨z0, z1, z2, z3⟩ := hyy
        have e3 := (HB.out.cell (p := ⟨b, off + j * 4 + 3, none⟩) (blt_of_cell z3)).trans z3
        have e4 := e3.symm.trans y3'
        injection e4 with e4
        injection e4 with e5 e6 e7
        subst e5 e7
        exact ⟨z0, z1, z2, z3⟩
      have HKJ : Hid (∀ (fb : Bool) (W' : World), Below wr.heap.size wr W' → Calls Tryz.prog 26 #[.agg #[.int .i64 (kid j).k, .int .i64 (kid j).n, .string (kid j).s, .slice aj (kid j).m cj], .bool fb] W' fun e w' => e = .returned (.string (rT (inT fb (kid j)))) ∧ Below W'.heap.size W' w') := fun fb W' hb' => HKC.out j hlt fb aj cj W' (hkj.below hb')
      clear y0 y1 y2 y3 hcell hkj hyy
      generalize (kid j).k = kk at *
      generalize (kid j).n = kn' at *
      generalize (kid j).s = ks at *
      generalize (kid j).m = km at *
      have HFJ := Lib.hid (HFL.out j)
      go_wp2_with fail
      have HSW : Hid (∀ w2, Below W.heap.size W w2 → (w2.cell? ⟨w.heap.size, 0, none⟩ = some (.int .i64 6) ∧ w2.cell? ⟨w.heap.size, 3, none⟩ = some (.slice (some ⟨b, off, none⟩) 1 c) ∧ w2.cell? ⟨b, off + j * 4, none⟩ = some (.int .i64 kk) ∧ w2.cell? ⟨b, off + j * 4 + 1, none⟩ = some (.int .i64 kn') ∧ w2.cell? ⟨b, off + j * 4 + 2, none⟩ = some (.string ks) ∧ w2.cell? ⟨b, off + j * 4 + 3, none⟩ = some (.slice aj km cj))) := fun w2 hb =>
        ⟨(hb.cell (blt_of_cell HX0.out.c0)).trans HX0.out.c0, (hb.cell (blt_of_cell HX0.out.c3)).trans HX0.out.c3, (hb.cell (blt_of_cell HY.out.1)).trans HY.out.1, (hb.cell (blt_of_cell HY.out.2.1)).trans HY.out.2.1, (hb.cell (blt_of_cell HY.out.2.2.1)).trans HY.out.2.2.1, (hb.cell (blt_of_cell HY.out.2.2.2)).trans HY.out.2.2.2⟩
      clear x0 x1 x2 x3 y0' y1' y2' y3'
      refine wp_region_held_drew (S := fun w' => w'.cell? ⟨w.heap.size, 0, none⟩ = some (.int .i64 6) ∧ w'.cell? ⟨w.heap.size, 3, none⟩ = some (.slice (some ⟨b, off, none⟩) 1 c) ∧ w'.cell? ⟨b, off + j * 4, none⟩ = some (.int .i64 kk) ∧ w'.cell? ⟨b, off + j * 4 + 1, none⟩ = some (.int .i64 kn') ∧ w'.cell? ⟨b, off + j * 4 + 2, none⟩ = some (.string ks) ∧ w'.cell? ⟨b, off + j * 4 + 3, none⟩ = some (.slice aj km cj)) (by kernel_rfl) ?_ (fun hHeld => ?_)
      · exact HSW.out wr HB.out
      refine wpAnyH_take (i := 0) (oi := _) (v := u5) rfl (by kernel_rfl) (by kernel_rfl) (by kernel_rfl) (fun _ _ _ h => h) (Or.inl ⟨by kernel_rfl, fun w' hSw => ?_⟩) (by assumption) ?_
      · ((try dsimp only at hSw); go_simp; try with_reducible rfl)
      try simp only [Act.put, List.setIfInBounds_toArray, List.set_cons_zero, List.set_cons_succ]
      refine wpAnyH_take (i := 1) (oi := _) (v := .pointer (some ⟨w.heap.size, 3, none⟩)) rfl (by kernel_rfl) (by kernel_rfl) (by kernel_rfl) (fun _ _ _ h => h) (Or.inl ⟨by kernel_rfl, fun w' hSw => ?_⟩) (by assumption) ?_
      · ((try dsimp only at hSw); go_simp; try with_reducible rfl)
      try simp only [Act.put, List.setIfInBounds_toArray, List.set_cons_zero, List.set_cons_succ]
      refine wpAnyH_take (i := 2) (oi := _) (v := .slice (some ⟨b, off, none⟩) 1 c) rfl (by kernel_rfl) (by kernel_rfl) (by kernel_rfl) (fun _ _ _ h => h) (Or.inl ⟨by kernel_rfl, fun w' hSw => ?_⟩) (by assumption) ?_
      · ((try dsimp only at hSw); go_simp; try with_reducible rfl)
      try simp only [Act.put, List.setIfInBounds_toArray, List.set_cons_zero, List.set_cons_succ]
      refine wpAnyH_take (i := 3) (oi := _) (v := .int .i64 (j : Int)) rfl (by kernel_rfl) (by kernel_rfl) (by kernel_rfl) (fun _ _ _ h => h) (Or.inl ⟨by kernel_rfl, fun w' hSw => ?_⟩) (by assumption) ?_
      · ((try dsimp only at hSw); go_simp; try with_reducible rfl)
      try simp only [Act.put, List.setIfInBounds_toArray, List.set_cons_zero, List.set_cons_succ]
      refine wpAnyH_take (i := 4) (oi := _) (v := .pointer (some ⟨b, off + j * 4, none⟩)) rfl (by kernel_rfl) (by kernel_rfl) (by kernel_rfl) (fun _ _ _ h => h) (Or.inl ⟨by kernel_rfl, fun w' hSw => ?_⟩) (by assumption) ?_
      · ((try dsimp only at hSw); go_simp; try with_reducible rfl)
      try simp only [Act.put, List.setIfInBounds_toArray, List.set_cons_zero, List.set_cons_succ]
      refine wpAnyH_take (i := 5) (oi := _) (v := .agg #[.int .i64 kk, .int .i64 kn', .string ks, .slice aj km cj]) rfl (by kernel_rfl) (by kernel_rfl) (by kernel_rfl) (fun _ _ _ h => h) (Or.inl ⟨by kernel_rfl, fun w' hSw => ?_⟩) (by assumption) ?_
      · ((try dsimp only at hSw); go_simp; try with_reducible rfl)
      try simp only [Act.put, List.setIfInBounds_toArray, List.set_cons_zero, List.set_cons_succ]
      refine wpAnyH_take (i := 6) (oi := _) (v := .pointer (some ⟨w.heap.size, 0, none⟩)) rfl (by kernel_rfl) (by kernel_rfl) (by kernel_rfl) (fun _ _ _ h => h) (Or.inl ⟨by kernel_rfl, fun w' hSw => ?_⟩) (by assumption) ?_
      · ((try dsimp only at hSw); go_simp; try with_reducible rfl)
      try simp only [Act.put, List.setIfInBounds_toArray, List.set_cons_zero, List.set_cons_succ]
      refine wpAnyH_take (i := 7) (oi := _) (v := .int .i64 6) rfl (by kernel_rfl) (by kernel_rfl) (by kernel_rfl) (fun _ _ _ h => h) (Or.inl ⟨by kernel_rfl, fun w' hSw => ?_⟩) (by assumption) ?_
      · ((try dsimp only at hSw); go_simp; try with_reducible rfl)
      try simp only [Act.put, List.setIfInBounds_toArray, List.set_cons_zero, List.set_cons_succ]
      refine wpAnyH_take (i := 8) (oi := _) (v := .bool true) rfl (by kernel_rfl) (by kernel_rfl) (by kernel_rfl) (fun _ _ _ h => h) (Or.inl ⟨by kernel_rfl, fun w' hSw => ?_⟩) (by assumption) ?_
      · ((try dsimp only at hSw); go_simp; try with_reducible rfl)
      try simp only [Act.put, List.setIfInBounds_toArray, List.set_cons_zero, List.set_cons_succ]
      refine wpAnyH_take (i := 9) (oi := _) (v := .bool true) rfl (by kernel_rfl) (by kernel_rfl) (by kernel_rfl) (fun _ _ _ h => h) (Or.inl ⟨by kernel_rfl, fun w' hSw => ?_⟩) (by assumption) ?_
      · ((try dsimp only at hSw); go_simp; try with_reducible rfl)
      try simp only [Act.put, List.setIfInBounds_toArray, List.set_cons_zero, List.set_cons_succ]
      refine wpAnyH_take (i := 10) (oi := _) (v := undef) rfl (by kernel_rfl) (by kernel_rfl) (by kernel_rfl) (fun _ _ _ h => h) (Or.inr ⟨by kernel_rfl, rfl⟩) (by assumption) ?_
      try simp only [Act.put, List.setIfInBounds_toArray, List.set_cons_zero, List.set_cons_succ]
      refine wpAnyH_take (i := 11) (oi := _) (v := undef) rfl (by kernel_rfl) (by kernel_rfl) (by kernel_rfl) (fun _ _ _ h => h) (Or.inr ⟨by kernel_rfl, rfl⟩) (by assumption) ?_
      try simp only [Act.put, List.setIfInBounds_toArray, List.set_cons_zero, List.set_cons_succ]
      refine wpAnyH_take (i := 12) (oi := _) (v := undef) rfl (by kernel_rfl) (by kernel_rfl) (by kernel_rfl) (fun _ _ _ h => h) (Or.inr ⟨by kernel_rfl, rfl⟩) (by assumption) ?_
      try simp only [Act.put, List.setIfInBounds_toArray, List.set_cons_zero, List.set_cons_succ]
      refine wpAnyH_take (i := 13) (oi := _) (v := undef) rfl (by kernel_rfl) (by kernel_rfl) (by kernel_rfl) (fun _ _ _ h => h) (Or.inr ⟨by kernel_rfl, rfl⟩) (by assumption) ?_
      try simp only [Act.put, List.setIfInBounds_toArray, List.set_cons_zero, List.set_cons_succ]
      refine wpAnyH_take (i := 14) (oi := _) (v := undef) rfl (by kernel_rfl) (by kernel_rfl) (by kernel_rfl) (fun _ _ _ h => h) (Or.inr ⟨by kernel_rfl, rfl⟩) (by assumption) ?_
      try simp only [Act.put, List.setIfInBounds_toArray, List.set_cons_zero, List.set_cons_succ]
      refine wpAnyH_take (i := 15) (oi := _) (v := undef) rfl (by kernel_rfl) (by kernel_rfl) (by kernel_rfl) (fun _ _ _ h => h) (Or.inr ⟨by kernel_rfl, rfl⟩) (by assumption) ?_
      try simp only [Act.put, List.setIfInBounds_toArray, List.set_cons_zero, List.set_cons_succ]
      refine wpAnyH_take (i := 16) (oi := _) (v := undef) rfl (by kernel_rfl) (by kernel_rfl) (by kernel_rfl) (fun _ _ _ h => h) (Or.inr ⟨by kernel_rfl, rfl⟩) (by assumption) ?_
      try simp only [Act.put, List.setIfInBounds_toArray, List.set_cons_zero, List.set_cons_succ]
      refine wpAnyH_take (i := 17) (oi := _) (v := .bool true) rfl (by kernel_rfl) (by kernel_rfl) (by kernel_rfl) (fun _ _ _ h => h) (Or.inl ⟨by kernel_rfl, fun w' hSw => ?_⟩) (by assumption) ?_
      · ((try dsimp only at hSw); go_simp; try with_reducible rfl)
      try simp only [Act.put, List.setIfInBounds_toArray, List.set_cons_zero, List.set_cons_succ]
      refine wpAnyH_ready (rs := [18]) (by kernel_rfl) (by simp) ?_
      refine AllReadyH.cons rfl (fun K hK => ?_) AllReadyH.nil
      go_simp
      refine (HKJ.out true _ (kbelow_dN (Below.refl _ _) 1)).mono ?_
      rintro e w1 ⟨rfl, hb1⟩
      have HB1' := Lib.hid (rfrom_drew hb1)
      have HB1 := Lib.hid (HB.out.trans ((rfrom_drew hb1).mono HB.out.size))
      have HTX := Lib.hid (kbelow_box w1 (.cells #[.string (rT (inT true (kid j)))] 9))
      have HGX := Lib.hid ((HG.out.below HB1'.out).below HTX.out)
      have HBX := Lib.hid (HB1.out.trans (HTX.out.mono HB1.out.size))
      have hsrc : (w1.alloc (.cells #[.string (rT (inT true (kid j)))] 9)).cell? ⟨w1.heap.size, 0, none⟩ = some (.string (rT (inT true (kid j)))) := by simp
      have HSRC := Lib.hid hsrc
      clear hb1 hsrc
      try go_wp2_with fail
      refine hK.out _ _ (by exact HSW.out _ HB1.out) (fun hHeld => ?_)
      clear hK K
      try simp only [Act.put, List.setIfInBounds_toArray, List.set_cons_zero, List.set_cons_succ]
      refine wpAnyH_ready (rs := [19]) (by kernel_rfl) (by simp) ?_
      refine AllReadyH.cons rfl (fun K hK => ?_) AllReadyH.nil
      go_simp
      refine hK.out _ _ (by exact HSW.out _ HBX.out) (fun hHeld => ?_)
      clear hK K
      try simp only [Act.put, List.setIfInBounds_toArray, List.set_cons_zero, List.set_cons_succ]
      refine wpAnyH_ready (rs := [20]) (by kernel_rfl) (by simp) ?_
      refine AllReadyH.cons rfl (fun K hK => ?_) AllReadyH.nil
      refine step_app_s _ rfl (.tmp 34) (.tmp 53) rfl W.heap.size u5 (kTs 6 kid j) (by simp [Act.eval]) HGX.out w1.heap.size 1 (rT (inT true (kid j))) (by simp [Act.eval]) HSRC.out (by rw [kTs_len]; omega) HBX.out.size ?_
      intro v9 w9 hg9 hr9
      have HG9 := Lib.hid hg9
      have HB9 := Lib.hid (HBX.out.grown hr9 HBX.out.size fun q hq => (HGX.out.lt q hq).1)
      clear hg9 hr9
      refine hK.out _ _ (by exact HSW.out _ HB9.out) (fun hHeld => ?_)
      clear hK K
      try simp only [Act.put, List.setIfInBounds_toArray, List.set_cons_zero, List.set_cons_succ]
      refine wpAnyH_ready (rs := [21]) (by kernel_rfl) (by simp) ?_
      refine AllReadyH.cons rfl (fun K hK => ?_) AllReadyH.nil
      go_simp
      refine hK.out _ _ (by exact HSW.out _ HB9.out) (fun hHeld => ?_)
      clear hK K
      try simp only [Act.put, List.setIfInBounds_toArray, List.set_cons_zero, List.set_cons_succ]
      refine wpAnyH_done (by kernel_rfl) ?_ _
      go_wp2_with fail
      go_roundw
      case rel => exact ⟨j + 1, by omega, by go_num, by rw [kTs_succ, HFJ.out]; exact HG9.out, HB9.out⟩
      case measure => simp [intOf]; omega
    · obtain rfl : j = 1 := by omega
      obtain ⟨g, cg, hv, hcs⟩ := HG.out.open (by rw [kTs_len]; omega)
      rw [kTs_len] at hv
      subst hv
      have c0 : wr.cell? ⟨g, 0, none⟩ = some (.string (rT (inT true (kid 0)))) := by
        have := hcs 0 (by rw [kTs_len]; omega)
        rw [kTs_at] at this
        exact this
      have z0 : Sz (rT (inT true (kid 0))) 500000 := HZ.out 0 (by omega) true
      generalize rT (inT true (kid 0)) = T0 at *
      clear HKC HFL hcs
      have q1 : Sz ⟨#[45, 32]⟩ 20 := by unfold Sz; decide
      have j1 := Sz.run q1 z0 (by omega)
      have p1 := Sz.app q1 z0
      go_wp2_with fail
      have HBE := Lib.hid (Below.refl wr.heap.size wr)
      go_ret
      exact ⟨congrArg (fun x => Ending.returned (.string x)) HT.out, HB0.out.trans ((HB.out.trans (HBE.out.mono HB.out.size)).mono HB0.out.size)⟩
end Go.Proofs.YtchiifnciijagaaGreatDoor
set_option linter.unusedSimpArgs false
namespace Go.Proofs.YtchiifnciijagaaGreatDoor
open Go.RowKit


set_option maxRecDepth 100000 in
set_option maxHeartbeats 4000000 in
theorem exprText_7_false (n : Int) (s : ByteArray) (kid : Nat → Ex)  (hC : ∀ j, j < 2 → ∀ b, RcX b (kid j)) (hZ : ∀ j, j < 2 → ∀ b, Sz (rT (inT b (kid j))) 500000) (hT : rT (inT true (kid 0)) ++ ⟨#[32, 43, 32]⟩ ++ rT (inT true (kid 1)) = rT (inT false (Ex.mk 7 n s 2 kid))) : RcX false (Ex.mk 7 n s 2 kid) := by
  have HKC := Lib.hid hC
  have HFL : Hid (∀ j, flg 7 j = true) := by unfold Hid flg; simp
  have HZ := Lib.hid hZ
  have HT := Lib.hid hT
  clear hC hZ hT
  intro a c w hk
  show Calls Tryz.prog 26 #[.agg #[.int .i64 7, .int .i64 n, .string s, .slice a (2 : Nat) c], .bool false] w _
  have HB0 := Lib.hid (kbelow_box w (.cells #[.int .i64 7, .int .i64 n, .string s, .slice a (2 : Nat) c] 39))
  have HX0 : Hid (Obx (w.alloc (.cells #[.int .i64 7, .int .i64 n, .string s, .slice a (2 : Nat) c] 39)) w.heap.size [.int .i64 7, .int .i64 n, .string s, .slice a (2 : Nat) c] 39) := Lib.hid (Obx.made w [.int .i64 7, .int .i64 n, .string s, .slice a (2 : Nat) c] _)
  have HKD := Lib.hid (hk.below HB0.out)
  clear hk
  go_enter Tryz.func26, Tryz.ntmps26
  go_wp2_with fail
  generalize (w.alloc (.cells #[.int .i64 7, .int .i64 n, .string s, .slice a (2 : Nat) c] 39)) = W at *
  go_loopw [5, 6] (fun v i wr => ∃ j : Nat, j ≤ 2 ∧ i = .int .i64 j ∧ GrS wr W.heap.size v (kTs 7 kid j) ∧ Below W.heap.size W wr) (fun _ i _ => 2 - (intOf i).toNat)
  case atStart => exact ⟨0, Nat.zero_le _, rfl, GrS.nil _ _, Below.refl _ _⟩
  case round =>
  
    obtain ⟨j, hj, rfl, hgr, hb⟩ := hrel
    have HG := Lib.hid hgr
    have HB := Lib.hid hb
    obtain ⟨x0, x1, x2, x3⟩ := (HX0.out.below hb).four
    clear hgr hb
    by_cases hlt : j < 2
    · have hltM : (j : Int) < (2 : Int) := by omega
      obtain ⟨b, off, rfl, hcell⟩ := HKD.out.open (show 0 < 2 by omega)
      obtain ⟨aj, cj, ⟨y0, y1, y2, y3⟩, hkj⟩ := hcell wr HB.out j hlt
      obtain ⟨aj2, cj2, hyy, -⟩ := hcell W (Below.refl _ _) j hlt
      have y0' : wr.cell? ⟨b, off + j * 4, none⟩ = some (.int .i64 (kid j).k) := y0
      have y1' : wr.cell? ⟨b, off + j * 4 + 1, none⟩ = some (.int .i64 (kid j).n) := y1
      have y2' : wr.cell? ⟨b, off + j * 4 + 2, none⟩ = some (.string (kid j).s) := y2
      have y3' : wr.cell? ⟨b, off + j * 4 + 3, none⟩ = some (.slice aj (kid j).m cj) := y3
      have HY : Hid (W.cell? ⟨b, off + j * 4, none⟩ = some (.int .i64 (kid j).k) ∧ W.cell? ⟨b, off + j * 4 + 1, none⟩ = some (.int .i64 (kid j).n) ∧ W.cell? ⟨b, off + j * 4 + 2, none⟩ = some (.string (kid j).s) ∧ W.cell? ⟨b, off + j * 4 + 3, none⟩ = some (.slice aj (kid j).m cj)) := by
        obtain ⟨z0, z1, z2, z3⟩ := hyy
        have e3 := (HB.out.cell (p := ⟨b, off + j * 4 + 3, none⟩) (blt_of_cell z3)).trans z3
        have e4 := e3.symm.trans y3'
        injection e4 with e4
        injection e4 with e5 e6 e7
        subst e5 e7
        exact ⟨z0, z1, z2, z3⟩
      have HKJ : Hid (∀ (fb : Bool) (W' : World), Below wr.heap.size wr W' → Calls Tryz.prog 26 #[.agg #[.int .i64 (kid j).k, .int .i64 (kid j).n, .string (kid j).s, .slice aj (kid j).m cj], .bool fb] W' fun e w' => e = .returned (.string (rT (inT fb (kid j)))) ∧ Below W'.heap.size W' w') := fun fb W' hb' => HKC.out j hlt fb aj cj W' (hkj.below hb')
      clear y0 y1 y2 y3 hcell hkj hyy
      generalize (kid j).k = kk at *
      generalize (kid j).n = kn' at *
      generalize (kid j).s = ks at *
      generalize (kid j).m = km at *
      have HFJ := Lib.hid (HFL.out j)
      go_wp2_with fail
      have HSW : Hid (∀ w2, Below W.heap.size W w2 → (w2.cell? ⟨w.heap.size, 0, none⟩ = some (.int .i64 7) ∧ w2.cell? ⟨w.heap.size, 3, none⟩ = some (.slice (some ⟨b, off, none⟩) 2 c) ∧ w2.cell? ⟨b, off + j * 4, none⟩ = some (.int .i64 kk) ∧ w2.cell? ⟨b, off + j * 4 + 1, none⟩ = some (.int .i64 kn') ∧ w2.cell? ⟨b, off + j * 4 + 2, none⟩ = some (.string ks) ∧ w2.cell? ⟨b, off + j * 4 + 3, none⟩ = some (.slice aj km cj))) := fun w2 hb =>
        ⟨(hb.cell (blt_of_cell HX0.out.c0)).trans HX0.out.c0, (hb.cell (blt_of_cell HX0.out.c3)).trans HX0.out.c3, (hb.cell (blt_of_cell HY.out.1)).trans HY.out.1, (hb.cell (blt_of_cell HY.out.2.1)).trans HY.out.2.1, (hb.cell (blt_of_cell HY.out.2.2.1)).trans HY.out.2.2.1, (hb.cell (blt_of_cell HY.out.2.2.2)).trans HY.out.2.2.2⟩
      clear x0 x1 x2 x3 y0' y1' y2' y3'
      refine wp_region_held_drew (S := fun w' => w'.cell? ⟨w.heap.size, 0, none⟩ = some (.int .i64 7) ∧ w'.cell? ⟨w.heap.size, 3, none⟩ = some (.slice (some ⟨b, off, none⟩) 2 c) ∧ w'.cell? ⟨b, off + j * 4, none⟩ = some (.int .i64 kk) ∧ w'.cell? ⟨b, off + j * 4 + 1, none⟩ = some (.int .i64 kn') ∧ w'.cell? ⟨b, off + j * 4 + 2, none⟩ = some (.string ks) ∧ w'.cell? ⟨b, off + j * 4 + 3, none⟩ = some (.slice aj km cj)) (by kernel_rfl) ?_ (fun hHeld => ?_)
      · exact HSW.out wr HB.out
      refine wpAnyH_take (i := 0) (oi := _) (v := u5) rfl (by kernel_rfl) (by kernel_rfl) (by kernel_rfl) (fun _ _ _ h => h) (Or.inl ⟨by kernel_rfl, fun w' hSw => ?_⟩) (by assumption) ?_
      · ((try dsimp only at hSw); go_simp; try with_reducible rfl)
      try simp only [Act.put, List.setIfInBounds_toArray, List.set_cons_zero, List.set_cons_succ]
      refine wpAnyH_take (i := 1) (oi := _) (v := .pointer (some ⟨w.heap.size, 3, none⟩)) rfl (by kernel_rfl) (by kernel_rfl) (by kernel_rfl) (fun _ _ _ h => h) (Or.inl ⟨by kernel_rfl, fun w' hSw => ?_⟩) (by assumption) ?_
      · ((try dsimp only at hSw); go_simp; try with_reducible rfl)
      try simp only [Act.put, List.setIfInBounds_toArray, List.set_cons_zero, List.set_cons_succ]
      refine wpAnyH_take (i := 2) (oi := _) (v := .slice (some ⟨b, off, none⟩) 2 c) rfl (by kernel_rfl) (by kernel_rfl) (by kernel_rfl) (fun _ _ _ h => h) (Or.inl ⟨by kernel_rfl, fun w' hSw => ?_⟩) (by assumption) ?_
      · ((try dsimp only at hSw); go_simp; try with_reducible rfl)
      try simp only [Act.put, List.setIfInBounds_toArray, List.set_cons_zero, List.set_cons_succ]
      refine wpAnyH_take (i := 3) (oi := _) (v := .int .i64 (j : Int)) rfl (by kernel_rfl) (by kernel_rfl) (by kernel_rfl) (fun _ _ _ h => h) (Or.inl ⟨by kernel_rfl, fun w' hSw => ?_⟩) (by assumption) ?_
      · ((try dsimp only at hSw); go_simp; try with_reducible rfl)
      try simp only [Act.put, List.setIfInBounds_toArray, List.set_cons_zero, List.set_cons_succ]
      refine wpAnyH_take (i := 4) (oi := _) (v := .pointer (some ⟨b, off + j * 4, none⟩)) rfl (by kernel_rfl) (by kernel_rfl) (by kernel_rfl) (fun _ _ _ h => h) (Or.inl ⟨by kernel_rfl, fun w' hSw => ?_⟩) (by assumption) ?_
      · ((try dsimp only at hSw); go_simp; try with_reducible rfl)
      try simp only [Act.put, List.setIfInBounds_toArray, List.set_cons_zero, List.set_cons_succ]
      refine wpAnyH_take (i := 5) (oi := _) (v := .agg #[.int .i64 kk, .int .i64 kn', .string ks, .slice aj km cj]) rfl (by kernel_rfl) (by kernel_rfl) (by kernel_rfl) (fun _ _ _ h => h) (Or.inl ⟨by kernel_rfl, fun w' hSw => ?_⟩) (by assumption) ?_
      · ((try dsimp only at hSw); go_simp; try with_reducible rfl)
      try simp only [Act.put, List.setIfInBounds_toArray, List.set_cons_zero, List.set_cons_succ]
      refine wpAnyH_take (i := 6) (oi := _) (v := .pointer (some ⟨w.heap.size, 0, none⟩)) rfl (by kernel_rfl) (by kernel_rfl) (by kernel_rfl) (fun _ _ _ h => h) (Or.inl ⟨by kernel_rfl, fun w' hSw => ?_⟩) (by assumption) ?_
      · ((try dsimp only at hSw); go_simp; try with_reducible rfl)
      try simp only [Act.put, List.setIfInBounds_toArray, List.set_cons_zero, List.set_cons_succ]
      refine wpAnyH_take (i := 7) (oi := _) (v := .int .i64 7) rfl (by kernel_rfl) (by kernel_rfl) (by kernel_rfl) (fun _ _ _ h => h) (Or.inl ⟨by kernel_rfl, fun w' hSw => ?_⟩) (by assumption) ?_
      · ((try dsimp only at hSw); go_simp; try with_reducible rfl)
      try simp only [Act.put, List.setIfInBounds_toArray, List.set_cons_zero, List.set_cons_succ]
      refine wpAnyH_take (i := 8) (oi := _) (v := .bool true) rfl (by kernel_rfl) (by kernel_rfl) (by kernel_rfl) (fun _ _ _ h => h) (Or.inl ⟨by kernel_rfl, fun w' hSw => ?_⟩) (by assumption) ?_
      · ((try dsimp only at hSw); go_simp; try with_reducible rfl)
      try simp only [Act.put, List.setIfInBounds_toArray, List.set_cons_zero, List.set_cons_succ]
      refine wpAnyH_take (i := 9) (oi := _) (v := .bool true) rfl (by kernel_rfl) (by kernel_rfl) (by kernel_rfl) (fun _ _ _ h => h) (Or.inl ⟨by kernel_rfl, fun w' hSw => ?_⟩) (by assumption) ?_
      · ((try dsimp only at hSw); go_simp; try with_reducible rfl)
      try simp only [Act.put, List.setIfInBounds_toArray, List.set_cons_zero, List.set_cons_succ]
      refine wpAnyH_take (i := 10) (oi := _) (v := undef) rfl (by kernel_rfl) (by kernel_rfl) (by kernel_rfl) (fun _ _ _ h => h) (Or.inr ⟨by kernel_rfl, rfl⟩) (by assumption) ?_
      try simp only [Act.put, List.setIfInBounds_toArray, List.set_cons_zero, List.set_cons_succ]
      refine wpAnyH_take (i := 11) (oi := _) (v := undef) rfl (by kernel_rfl) (by kernel_rfl) (by kernel_rfl) (fun _ _ _ h => h) (Or.inr ⟨by kernel_rfl, rfl⟩) (by assumption) ?_
      try simp only [Act.put, List.setIfInBounds_toArray, List.set_cons_zero, List.set_cons_succ]
      refine wpAnyH_take (i := 12) (oi := _) (v := undef) rfl (by kernel_rfl) (by kernel_rfl) (by kernel_rfl) (fun _ _ _ h => h) (Or.inr ⟨by kernel_rfl, rfl⟩) (by assumption) ?_
      try simp only [Act.put, List.setIfInBounds_toArray, List.set_cons_zero, List.set_cons_succ]
      refine wpAnyH_take (i := 13) (oi := _) (v := undef) rfl (by kernel_rfl) (by kernel_rfl) (by kernel_rfl) (fun _ _ _ h => h) (Or.inr ⟨by kernel_rfl, rfl⟩) (by assumption) ?_
      try simp only [Act.put, List.setIfInBounds_toArray, List.set_cons_zero, List.set_cons_succ]
      refine wpAnyH_take (i := 14) (oi := _) (v := undef) rfl (by kernel_rfl) (by kernel_rfl) (by kernel_rfl) (fun _ _ _ h => h) (Or.inr ⟨by kernel_rfl, rfl⟩) (by assumption) ?_
      try simp only [Act.put, List.setIfInBounds_toArray, List.set_cons_zero, List.set_cons_succ]
      refine wpAnyH_take (i := 15) (oi := _) (v := undef) rfl (by kernel_rfl) (by kernel_rfl) (by kernel_rfl) (fun _ _ _ h => h) (Or.inr ⟨by kernel_rfl, rfl⟩) (by assumption) ?_
      try simp only [Act.put, List.setIfInBounds_toArray, List.set_cons_zero, List.set_cons_succ]
      refine wpAnyH_take (i := 16) (oi := _) (v := undef) rfl (by kernel_rfl) (by kernel_rfl) (by kernel_rfl) (fun _ _ _ h => h) (Or.inr ⟨by kernel_rfl, rfl⟩) (by assumption) ?_
      try simp only [Act.put, List.setIfInBounds_toArray, List.set_cons_zero, List.set_cons_succ]
      refine wpAnyH_take (i := 17) (oi := _) (v := .bool true) rfl (by kernel_rfl) (by kernel_rfl) (by kernel_rfl) (fun _ _ _ h => h) (Or.inl ⟨by kernel_rfl, fun w' hSw => ?_⟩) (by assumption) ?_
      · ((try dsimp only at hSw); go_simp; try with_reducible rfl)
      try simp only [Act.put, List.setIfInBounds_toArray, List.set_cons_zero, List.set_cons_succ]
      refine wpAnyH_ready (rs := [18]) (by kernel_rfl) (by simp) ?_
      refine AllReadyH.cons rfl (fun K hK => ?_) AllReadyH.nil
      go_simp
      refine (HKJ.out true _ (kbelow_dN (Below.refl _ _) 1)).mono ?_
      rintro e w1 ⟨rfl, hb1⟩
      have HB1' := Lib.hid (rfrom_drew hb1)
      have HB1 := Lib.hid (HB.out.trans ((rfrom_drew hb1).mono HB.out.size))
      have HTX := Lib.hid (kbelow_box w1 (.cells #[.string (rT (inT true (kid j)))] 9))
      have HGX := Lib.hid ((HG.out.below HB1'.out).below HTX.out)
      have HBX := Lib.hid (HB1.out.trans (HTX.out.mono HB1.out.size))
      have hsrc : (w1.alloc (.cells #[.string (rT (inT true (kid j)))] 9)).cell? ⟨w1.heap.size, 0, none⟩ = some (.string (rT (inT true (kid j)))) := by simp
      have HSRC := Lib.hid hsrc
      clear hb1 hsrc
      try go_wp2_with fail
      refine hK.out _ _ (by exact HSW.out _ HB1.out) (fun hHeld => ?_)
      clear hK K
      try simp only [Act.put, List.setIfInBounds_toArray, List.set_cons_zero, List.set_cons_succ]
      refine wpAnyH_ready (rs := [19]) (by kernel_rfl) (by simp) ?_
      refine AllReadyH.cons rfl (fun K hK => ?_) AllReadyH.nil
      go_simp
      refine hK.out _ _ (by exact HSW.out _ HBX.out) (fun hHeld => ?_)
      clear hK K
      try simp only [Act.put, List.setIfInBounds_toArray, List.set_cons_zero, List.set_cons_succ]
      refine wpAnyH_ready (rs := [20]) (by kernel_rfl) (by simp) ?_
      refine AllReadyH.cons rfl (fun K hK => ?_) AllReadyH.nil
      refine step_app_s _ rfl (.tmp 34) (.tmp 53) rfl W.heap.size u5 (kTs 7 kid j) (by simp [Act.eval]) HGX.out w1.heap.size 1 (rT (inT true (kid j))) (by simp [Act.eval]) HSRC.out (by rw [kTs_len]; omega) HBX.out.size ?_
      intro v9 w9 hg9 hr9
      have HG9 := Lib.hid hg9
      have HB9 := Lib.hid (HBX.out.grown hr9 HBX.out.size fun q hq => (HGX.out.lt q hq).1)
      clear hg9 hr9
      refine hK.out _ _ (by exact HSW.out _ HB9.out) (fun hHeld => ?_)
      clear hK K
      try simp only [Act.put, List.setIfInBounds_toArray, List.set_cons_zero, List.set_cons_succ]
      refine wpAnyH_ready (rs := [21]) (by kernel_rfl) (by simp) ?_
      refine AllReadyH.cons rfl (fun K hK => ?_) AllReadyH.nil
      go_simp
      refine hK.out _ _ (by exact HSW.out _ HB9.out) (fun hHeld => ?_)
      clear hK K
      try simp only [Act.put, List.setIfInBounds_toArray, List.set_cons_zero, List.set_cons_succ]
      refine wpAnyH_done (by kernel_rfl) ?_ _
      go_wp2_with fail
      go_roundw
      case rel => exact ⟨j + 1, by omega, by go_num, by rw [kTs_succ, HFJ.out]; exact HG9.out, HB9.out⟩
      case measure => simp [intOf]; omega
    · obtain rfl : j = 2 := by omega
      obtain ⟨g, cg, hv, hcs⟩ := HG.out.open (by rw [kTs_len]; omega)
      rw [kTs_len] at hv
      subst hv
      have c0 : wr.cell? ⟨g, 0, none⟩ = some (.string (rT (inT true (kid 0)))) := by
        have := hcs 0 (by rw [kTs_len]; omega)
        rw [kTs_at] at this
        exact this
      have z0 : Sz (rT (inT true (kid 0))) 500000 := HZ.out 0 (by omega) true
      generalize rT (inT true (kid 0)) = T0 at *
      have c1 : wr.cell? ⟨g, 1, none⟩ = some (.string (rT (inT true (kid 1)))) := by
        have := hcs 1 (by rw [kTs_len]; omega)
        rw [kTs_at] at this
        exact this
      have z1 : Sz (rT (inT true (kid 1))) 500000 := HZ.out 1 (by omega) true
      generalize rT (inT true (kid 1)) = T1 at *
      clear HKC HFL hcs
      have q1 : Sz ⟨#[32, 43, 32]⟩ 20 := by unfold Sz; decide
      have j1 := Sz.run z0 q1 (by omega)
      have p1 := Sz.app z0 q1
      have j2 := Sz.run p1 z1 (by omega)
      have p2 := Sz.app p1 z1
      go_wp2_with fail
      have d0 := cell_regrown c0
      have d1 := cell_regrown c1
      refine wp_region_quiet_below (by kernel_rfl) (by kernel_rfl) ?_
      repeat (quiet_step (fail))
      refine wpQuiet_nil ?_
      intro _ hw'
      obtain ⟨⟨dq, osq⟩, hw''⟩ := hw'
      subst hw''
      have HBE := Lib.hid (below_regrown wr dq osq)
      go_wp2_with fail
      go_ret
      exact ⟨congrArg (fun x => Ending.returned (.string x)) HT.out, HB0.out.trans ((HB.out.trans (HBE.out.mono HB.out.size)).mono HB0.out.size)⟩
set_option maxRecDepth 100000 in
set_option maxHeartbeats 4000000 in
theorem exprText_8_false (n : Int) (s : ByteArray) (kid : Nat → Ex)  (hC : ∀ j, j < 2 → ∀ b, RcX b (kid j)) (hZ : ∀ j, j < 2 → ∀ b, Sz (rT (inT b (kid j))) 500000) (hT : rT (inT true (kid 0)) ++ ⟨#[32, 45, 32]⟩ ++ rT (inT true (kid 1)) = rT (inT false (Ex.mk 8 n s 2 kid))) : RcX false (Ex.mk 8 n s 2 kid) := by
  have HKC := Lib.hid hC
  have HFL : Hid (∀ j, flg 8 j = true) := by unfold Hid flg; simp
  have HZ := Lib.hid hZ
  have HT := Lib.hid hT
  clear hC hZ hT
  intro a c w hk
  show Calls Tryz.prog 26 #[.agg #[.int .i64 8, .int .i64 n, .string s, .slice a (2 : Nat) c], .bool false] w _
  have HB0 := Lib.hid (kbelow_box w (.cells #[.int .i64 8, .int .i64 n, .string s, .slice a (2 : Nat) c] 39))
  have HX0 : Hid (Obx (w.alloc (.cells #[.int .i64 8, .int .i64 n, .string s, .slice a (2 : Nat) c] 39)) w.heap.size [.int .i64 8, .int .i64 n, .string s, .slice a (2 : Nat) c] 39) := Lib.hid (Obx.made w [.int .i64 8, .int .i64 n, .string s, .slice a (2 : Nat) c] _)
  have HKD := Lib.hid (hk.below HB0.out)
  clear hk
  go_enter Tryz.func26, Tryz.ntmps26
  go_wp2_with fail
  generalize (w.alloc (.cells #[.int .i64 8, .int .i64 n, .string s, .slice a (2 : Nat) c] 39)) = W at *
  go_loopw [5, 6] (fun v i wr => ∃ j : Nat, j ≤ 2 ∧ i = .int .i64 j ∧ GrS wr W.heap.size v (kTs 8 kid j) ∧ Below W.heap.size W wr) (fun _ i _ => 2 - (intOf i).toNat)
  case atStart => exact ⟨0, Nat.zero_le _, rfl, GrS.nil _ _, Below.refl _ _⟩
  case round =>
  
    obtain ⟨j, hj, rfl, hgr, hb⟩ := hrel
    have HG := Lib.hid hgr
    have HB := Lib.hid hb
    obtain ⟨x0, x1, x2, x3⟩ := (HX0.out.below hb).four
    clear hgr hb
    by_cases hlt : j < 2
    · have hltM : (j : Int) < (2 : Int) := by omega
      obtain ⟨b, off, rfl, hcell⟩ := HKD.out.open (show 0 < 2 by omega)
      obtain ⟨aj, cj, ⟨y0, y1, y2, y3⟩, hkj⟩ := hcell wr HB.out j hlt
      obtain ⟨aj2, cj2, hyy, -⟩ := hcell W (Below.refl _ _) j hlt
      have y0' : wr.cell? ⟨b, off + j * 4, none⟩ = some (.int .i64 (kid j).k) := y0
      have y1' : wr.cell? ⟨b, off + j * 4 + 1, none⟩ = some (.int .i64 (kid j).n) := y1
      have y2' : wr.cell? ⟨b, off + j * 4 + 2, none⟩ = some (.string (kid j).s) := y2
      have y3' : wr.cell? ⟨b, off + j * 4 + 3, none⟩ = some (.slice aj (kid j).m cj) := y3
      have HY : Hid (W.cell? ⟨b, off + j * 4, none⟩ = some (.int .i64 (kid j).k) ∧ W.cell? ⟨b, off + j * 4 + 1, none⟩ = some (.int .i64 (kid j).n) ∧ W.cell? ⟨b, off + j * 4 + 2, none⟩ = some (.string (kid j).s) ∧ W.cell? ⟨b, off + j * 4 + 3, none⟩ = some (.slice aj (kid j).m cj)) := by
        obtain ⟨z0, z1, z2, z3⟩ := hyy
        have e3 := (HB.out.cell (p := ⟨b, off + j * 4 + 3, none⟩) (blt_of_cell z3)).trans z3
        have e4 := e3.symm.trans y3'
        injection e4 with e4
        injection e4 with e5 e6 e7
        subst e5 e7
        exact ⟨z0, z1, z2, z3⟩
      have HKJ : Hid (∀ (fb : Bool) (W' : World), Below wr.heap.size wr W' → Calls Tryz.prog 26 #[.agg #[.int .i64 (kid j).k, .int .i64 (kid j).n, .string (kid j).s, .slice aj (kid j).m cj], .bool fb] W' fun e w' => e = .returned (.string (rT (inT fb (kid j)))) ∧ Below W'.heap.size W' w') := fun fb W' hb' => HKC.out j hlt fb aj cj W' (hkj.below hb')
      clear y0 y1 y2 y3 hcell hkj hyy
      generalize (kid j).k = kk at *
      generalize (kid j).n = kn' at *
      generalize (kid j).s = ks at *
      generalize (kid j).m = km at *
      have HFJ := Lib.hid (HFL.out j)
      go_wp2_with fail
      have HSW : Hid (∀ w2, Below W.heap.size W w2 → (w2.cell? ⟨w.heap.size, 0, none⟩ = some (.int .i64 8) ∧ w2.cell? ⟨w.heap.size, 3, none⟩ = some (.slice (some ⟨b, off, none⟩) 2 c) ∧ w2.cell? ⟨b, off + j * 4, none⟩ = some (.int .i64 kk) ∧ w2.cell? ⟨b, off + j * 4 + 1, none⟩ = some (.int .i64 kn') ∧ w2.cell? ⟨b, off + j * 4 + 2, none⟩ = some (.string ks) ∧ w2.cell? ⟨b, off + j * 4 + 3, none⟩ = some (.slice aj km cj))) := fun w2 hb =>
        ⟨(hb.cell (blt_of_cell HX0.out.c0)).trans HX0.out.c0, (hb.cell (blt_of_cell HX0.out.c3)).trans HX0.out.c3, (hb.cell (blt_of_cell HY.out.1)).trans HY.out.1, (hb.cell (blt_of_cell HY.out.2.1)).trans HY.out.2.1, (hb.cell (blt_of_cell HY.out.2.2.1)).trans HY.out.2.2.1, (hb.cell (blt_of_cell HY.out.2.2.2)).trans HY.out.2.2.2⟩
      clear x0 x1 x2 x3 y0' y1' y2' y3'
      refine wp_region_held_drew (S := fun w' => w'.cell? ⟨w.heap.size, 0, none⟩ = some (.int .i64 8) ∧ w'.cell? ⟨w.heap.size, 3, none⟩ = some (.slice (some ⟨b, off, none⟩) 2 c) ∧ w'.cell? ⟨b, off + j * 4, none⟩ = some (.int .i64 kk) ∧ w'.cell? ⟨b, off + j * 4 + 1, none⟩ = some (.int .i64 kn') ∧ w'.cell? ⟨b, off + j * 4 + 2, none⟩ = some (.string ks) ∧ w'.cell? ⟨b, off + j * 4 + 3, none⟩ = some (.slice aj km cj)) (by kernel_rfl) ?_ (fun hHeld => ?_)
      · exact HSW.out wr HB.out
      refine wpAnyH_take (i := 0) (oi := _) (v := u5) rfl (by kernel_rfl) (by kernel_rfl) (by kernel_rfl) (fun _ _ _ h => h) (Or.inl ⟨by kernel_rfl, fun w' hSw => ?_⟩) (by assumption) ?_
      · ((try dsimp only at hSw); go_simp; try with_reducible rfl)
      try simp only [Act.put, List.setIfInBounds_toArray, List.set_cons_zero, List.set_cons_succ]
      refine wpAnyH_take (i := 1) (oi := _) (v := .pointer (some ⟨w.heap.size, 3, none⟩)) rfl (by kernel_rfl) (by kernel_rfl) (by kernel_rfl) (fun _ _ _ h => h) (Or.inl ⟨by kernel_rfl, fun w' hSw => ?_⟩) (by assumption) ?_
      · ((try dsimp only at hSw); go_simp; try with_reducible rfl)
      try simp only [Act.put, List.setIfInBounds_toArray, List.set_cons_zero, List.set_cons_succ]
      refine wpAnyH_take (i := 2) (oi := _) (v := .slice (some ⟨b, off, none⟩) 2 c) rfl (by kernel_rfl) (by kernel_rfl) (by kernel_rfl) (fun _ _ _ h => h) (Or.inl ⟨by kernel_rfl, fun w' hSw => ?_⟩) (by assumption) ?_
      · ((try dsimp only at hSw); go_simp; try with_reducible rfl)
      try simp only [Act.put, List.setIfInBounds_toArray, List.set_cons_zero, List.set_cons_succ]
      refine wpAnyH_take (i := 3) (oi := _) (v := .int .i64 (j : Int)) rfl (by kernel_rfl) (by kernel_rfl) (by kernel_rfl) (fun _ _ _ h => h) (Or.inl ⟨by kernel_rfl, fun w' hSw => ?_⟩) (by assumption) ?_
      · ((try dsimp only at hSw); go_simp; try with_reducible rfl)
      try simp only [Act.put, List.setIfInBounds_toArray, List.set_cons_zero, List.set_cons_succ]
      refine wpAnyH_take (i := 4) (oi := _) (v := .pointer (some ⟨b, off + j * 4, none⟩)) rfl (by kernel_rfl) (by kernel_rfl) (by kernel_rfl) (fun _ _ _ h => h) (Or.inl ⟨by kernel_rfl, fun w' hSw => ?_⟩) (by assumption) ?_
      · ((try dsimp only at hSw); go_simp; try with_reducible rfl)
      try simp only [Act.put, List.setIfInBounds_toArray, List.set_cons_zero, List.set_cons_succ]
      refine wpAnyH_take (i := 5) (oi := _) (v := .agg #[.int .i64 kk, .int .i64 kn', .string ks, .slice aj km cj]) rfl (by kernel_rfl) (by kernel_rfl) (by kernel_rfl) (fun _ _ _ h => h) (Or.inl ⟨by kernel_rfl, fun w' hSw => ?_⟩) (by assumption) ?_
      · ((try dsimp only at hSw); go_simp; try with_reducible rfl)
      try simp only [Act.put, List.setIfInBounds_toArray, List.set_cons_zero, List.set_cons_succ]
      refine wpAnyH_take (i := 6) (oi := _) (v := .pointer (some ⟨w.heap.size, 0, none⟩)) rfl (by kernel_rfl) (by kernel_rfl) (by kernel_rfl) (fun _ _ _ h => h) (Or.inl ⟨by kernel_rfl, fun w' hSw => ?_⟩) (by assumption) ?_
      · ((try dsimp only at hSw); go_simp; try with_reducible rfl)
      try simp only [Act.put, List.setIfInBounds_toArray, List.set_cons_zero, List.set_cons_succ]
      refine wpAnyH_take (i := 7) (oi := _) (v := .int .i64 8) rfl (by kernel_rfl) (by kernel_rfl) (by kernel_rfl) (fun _ _ _ h => h) (Or.inl ⟨by kernel_rfl, fun w' hSw => ?_⟩) (by assumption) ?_
      · ((try dsimp only at hSw); go_simp; try with_reducible rfl)
      try simp only [Act.put, List.setIfInBounds_toArray, List.set_cons_zero, List.set_cons_succ]
      refine wpAnyH_take (i := 8) (oi := _) (v := .bool true) rfl (by kernel_rfl) (by kernel_rfl) (by kernel_rfl) (fun _ _ _ h => h) (Or.inl ⟨by kernel_rfl, fun w' hSw => ?_⟩) (by assumption) ?_
      · ((try dsimp only at hSw); go_simp; try with_reducible rfl)
      try simp only [Act.put, List.setIfInBounds_toArray, List.set_cons_zero, List.set_cons_succ]
      refine wpAnyH_take (i := 9) (oi := _) (v := .bool true) rfl (by kernel_rfl) (by kernel_rfl) (by kernel_rfl) (fun _ _ _ h => h) (Or.inl ⟨by kernel_rfl, fun w' hSw => ?_⟩) (by assumption) ?_
      · ((try dsimp only at hSw); go_simp; try with_reducible rfl)
      try simp only [Act.put, List.setIfInBounds_toArray, List.set_cons_zero, List.set_cons_succ]
      refine wpAnyH_take (i := 10) (oi := _) (v := undef) rfl (by kernel_rfl) (by kernel_rfl) (by kernel_rfl) (fun _ _ _ h => h) (Or.inr ⟨by kernel_rfl, rfl⟩) (by assumption) ?_
      try simp only [Act.put, List.setIfInBounds_toArray, List.set_cons_zero, List.set_cons_succ]
      refine wpAnyH_take (i := 11) (oi := _) (v := undef) rfl (by kernel_rfl) (by kernel_rfl) (by kernel_rfl) (fun _ _ _ h => h) (Or.inr ⟨by kernel_rfl, rfl⟩) (by assumption) ?_
      try simp only [Act.put, List.setIfInBounds_toArray, List.set_cons_zero, List.set_cons_succ]
      refine wpAnyH_take (i := 12) (oi := _) (v := undef) rfl (by kernel_rfl) (by kernel_rfl) (by kernel_rfl) (fun _ _ _ h => h) (Or.inr ⟨by kernel_rfl, rfl⟩) (by assumption) ?_
      try simp only [Act.put, List.setIfInBounds_toArray, List.set_cons_zero, List.set_cons_succ]
      refine wpAnyH_take (i := 13) (oi := _) (v := undef) rfl (by kernel_rfl) (by kernel_rfl) (by kernel_rfl) (fun _ _ _ h => h) (Or.inr ⟨by kernel_rfl, rfl⟩) (by assumption) ?_
      try simp only [Act.put, List.setIfInBounds_toArray, List.set_cons_zero, List.set_cons_succ]
      refine wpAnyH_take (i := 14) (oi := _) (v := undef) rfl (by kernel_rfl) (by kernel_rfl) (by kernel_rfl) (fun _ _ _ h => h) (Or.inr ⟨by kernel_rfl, rfl⟩) (by assumption) ?_
      try simp only [Act.put, List.setIfInBounds_toArray, List.set_cons_zero, List.set_cons_succ]
      refine wpAnyH_take (i := 15) (oi := _) (v := undef) rfl (by kernel_rfl) (by kernel_rfl) (by kernel_rfl) (fun _ _ _ h => h) (Or.inr ⟨by kernel_rfl, rfl⟩) (by assumption) ?_
      try simp only [Act.put, List.setIfInBounds_toArray, List.set_cons_zero, List.set_cons_succ]
      refine wpAnyH_take (i := 16) (oi := _) (v := undef) rfl (by kernel_rfl) (by kernel_rfl) (by kernel_rfl) (fun _ _ _ h => h) (Or.inr ⟨by kernel_rfl, rfl⟩) (by assumption) ?_
      try simp only [Act.put, List.setIfInBounds_toArray, List.set_cons_zero, List.set_cons_succ]
      refine wpAnyH_take (i := 17) (oi := _) (v := .bool true) rfl (by kernel_rfl) (by kernel_rfl) (by kernel_rfl) (fun _ _ _ h => h) (Or.inl ⟨by kernel_rfl, fun w' hSw => ?_⟩) (by assumption) ?_
      · ((try dsimp only at hSw); go_simp; try with_reducible rfl)
      try simp only [Act.put, List.setIfInBounds_toArray, List.set_cons_zero, List.set_cons_succ]
      refine wpAnyH_ready (rs := [18]) (by kernel_rfl) (by simp) ?_
      refine AllReadyH.cons rfl (fun K hK => ?_) AllReadyH.nil
      go_simp
      refine (HKJ.out true _ (kbelow_dN (Below.refl _ _) 1)).mono ?_
      rintro e w1 ⟨rfl, hb1⟩
      have HB1' := Lib.hid (rfrom_drew hb1)
      have HB1 := Lib.hid (HB.out.trans ((rfrom_drew hb1).mono HB.out.size))
      have HTX := Lib.hid (kbelow_box w1 (.cells #[.string (rT (inT true (kid j)))] 9))
      have HGX := Lib.hid ((HG.out.below HB1'.out).below HTX.out)
      have HBX := Lib.hid (HB1.out.trans (HTX.out.mono HB1.out.size))
      have hsrc : (w1.alloc (.cells #[.string (rT (inT true (kid j)))] 9)).cell? ⟨w1.heap.size, 0, none⟩ = some (.string (rT (inT true (kid j)))) := by simp
      have HSRC := Lib.hid hsrc
      clear hb1 hsrc
      try go_wp2_with fail
      refine hK.out _ _ (by exact HSW.out _ HB1.out) (fun hHeld => ?_)
      clear hK K
      try simp only [Act.put, List.setIfInBounds_toArray, List.set_cons_zero, List.set_cons_succ]
      refine wpAnyH_ready (rs := [19]) (by kernel_rfl) (by simp) ?_
      refine AllReadyH.cons rfl (fun K hK => ?_) AllReadyH.nil
      go_simp
      refine hK.out _ _ (by exact HSW.out _ HBX.out) (fun hHeld => ?_)
      clear hK K
      try simp only [Act.put, List.setIfInBounds_toArray, List.set_cons_zero, List.set_cons_succ]
      refine wpAnyH_ready (rs := [20]) (by kernel_rfl) (by simp) ?_
      refine AllReadyH.cons rfl (fun K hK => ?_) AllReadyH.nil
      refine step_app_s _ rfl (.tmp 34) (.tmp 53) rfl W.heap.size u5 (kTs 8 kid j) (by simp [Act.eval]) HGX.out w1.heap.size 1 (rT (inT true (kid j))) (by simp [Act.eval]) HSRC.out (by rw [kTs_len]; omega) HBX.out.size ?_
      intro v9 w9 hg9 hr9
      have HG9 := Lib.hid hg9
      have HB9 := Lib.hid (HBX.out.grown hr9 HBX.out.size fun q hq => (HGX.out.lt q hq).1)
      clear hg9 hr9
      refine hK.out _ _ (by exact HSW.out _ HB9.out) (fun hHeld => ?_)
      clear hK K
      try simp only [Act.put, List.setIfInBounds_toArray, List.set_cons_zero, List.set_cons_succ]
      refine wpAnyH_ready (rs := [21]) (by kernel_rfl) (by simp) ?_
      refine AllReadyH.cons rfl (fun K hK => ?_) AllReadyH.nil
      go_simp
      refine hK.out _ _ (by exact HSW.out _ HB9.out) (fun hHeld => ?_)
      clear hK K
      try simp only [Act.put, List.setIfInBounds_toArray, List.set_cons_zero, List.set_cons_succ]
      refine wpAnyH_done (by kernel_rfl) ?_ _
      go_wp2_with fail
      go_roundw
      case rel => exact ⟨j + 1, by omega, by go_num, by rw [kTs_succ, HFJ.out]; exact HG9.out, HB9.out⟩
      case measure => simp [intOf]; omega
    · obtain rfl : j = 2 := by omega
      obtain ⟨g, cg, hv, hcs⟩ := HG.out.open (by rw [kTs_len]; omega)
      rw [kTs_len] at hv
      subst hv
      have c0 : wr.cell? ⟨g, 0, none⟩ = some (.string (rT (inT true (kid 0)))) := by
        have := hcs 0 (by rw [kTs_len]; omega)
        rw [kTs_at] at this
        exact this
      have z0 : Sz (rT (inT true (kid 0))) 500000 := HZ.out 0 (by omega) true
      generalize rT (inT true (kid 0)) = T0 at *
      have c1 : wr.cell? ⟨g, 1, none⟩ = some (.string (rT (inT true (kid 1)))) := by
        have := hcs 1 (by rw [kTs_len]; omega)
        rw [kTs_at] at this
        exact this
      have z1 : Sz (rT (inT true (kid 1))) 500000 := HZ.out 1 (by omega) true
      generalize rT (inT true (kid 1)) = T1 at *
      clear HKC HFL hcs
      have q1 : Sz ⟨#[32, 45, 32]⟩ 20 := by unfold Sz; decide
      have j1 := Sz.run z0 q1 (by omega)
      have p1 := Sz.app z0 q1
      have j2 := Sz.run p1 z1 (by omega)
      have p2 := Sz.app p1 z1
      go_wp2_with fail
      have d0 := cell_regrown c0
      have d1 := cell_regrown c1
      refine wp_region_quiet_below (by kernel_rfl) (by kernel_rfl) ?_
      repeat (quiet_step (fail))
      refine wpQuiet_nil ?_
      intro _ hw'
      obtain ⟨⟨dq, osq⟩, hw''⟩ := hw'
      subst hw''
      have HBE := Lib.hid (below_regrown wr dq osq)
      go_wp2_with fail
      go_ret
      exact ⟨congrArg (fun x => Ending.returned (.string x)) HT.out, HB0.out.trans ((HB.out.trans (HBE.out.mono HB.out.size)).mono HB0.out.size)⟩
set_option maxRecDepth 100000 in
set_option maxHeartbeats 4000000 in
theorem exprText_9_false (n : Int) (s : ByteArray) (kid : Nat → Ex) (HN : Hid (0 ≤ n ∧ n ≤ 1000000)) (ZN : Sz (iT n) 21) (hC : ∀ j, j < 1 → ∀ b, RcX b (kid j)) (hZ : ∀ j, j < 1 → ∀ b, Sz (rT (inT b (kid j))) 500000) (hT : rT (inT true (kid 0)) ++ ⟨#[32, 42, 32]⟩ ++ iT n = rT (inT false (Ex.mk 9 n s 1 kid))) : RcX false (Ex.mk 9 n s 1 kid) := by
  have HKC := Lib.hid hC
  have HFL : Hid (∀ j, flg 9 j = true) := by unfold Hid flg; simp
  have HZ := Lib.hid hZ
  have HT := Lib.hid hT
  clear hC hZ hT
  intro a c w hk
  show Calls Tryz.prog 26 #[.agg #[.int .i64 9, .int .i64 n, .string s, .slice a (1 : Nat) c], .bool false] w _
  have HB0 := Lib.hid (kbelow_box w (.cells #[.int .i64 9, .int .i64 n, .string s, .slice a (1 : Nat) c] 39))
  have HX0 : Hid (Obx (w.alloc (.cells #[.int .i64 9, .int .i64 n, .string s, .slice a (1 : Nat) c] 39)) w.heap.size [.int .i64 9, .int .i64 n, .string s, .slice a (1 : Nat) c] 39) := Lib.hid (Obx.made w [.int .i64 9, .int .i64 n, .string s, .slice a (1 : Nat) c] _)
  have HKD := Lib.hid (hk.below HB0.out)
  clear hk
  go_enter Tryz.func26, Tryz.ntmps26
  go_wp2_with fail
  generalize (w.alloc (.cells #[.int .i64 9, .int .i64 n, .string s, .slice a (1 : Nat) c] 39)) = W at *
  go_loopw [5, 6] (fun v i wr => ∃ j : Nat, j ≤ 1 ∧ i = .int .i64 j ∧ GrS wr W.heap.size v (kTs 9 kid j) ∧ Below W.heap.size W wr) (fun _ i _ => 1 - (intOf i).toNat)
  case atStart => exact ⟨0, Nat.zero_le _, rfl, GrS.nil _ _, Below.refl _ _⟩
  case round =>
  
    obtain ⟨j, hj, rfl, hgr, hb⟩ := hrel
    have HG := Lib.hid hgr
    have HB := Lib.hid hb
    obtain ⟨x0, x1, x2, x3⟩ := (HX0.out.below hb).four
    clear hgr hb
    by_cases hlt : j < 1
    · have hltM : (j : Int) < (1 : Int) := by omega
      obtain ⟨b, off, rfl, hcell⟩ := HKD.out.open (show 0 < 1 by omega)
      obtain ⟨aj, cj, ⟨y0, y1, y2, y3⟩, hkj⟩ := hcell wr HB.out j hlt
      obtain ⟨aj2, cj2, hyy, -⟩ := hcell W (Below.refl _ _) j hlt
      have y0' : wr.cell? ⟨b, off + j * 4, none⟩ = some (.int .i64 (kid j).k) := y0
      have y1' : wr.cell? ⟨b, off + j * 4 + 1, none⟩ = some (.int .i64 (kid j).n) := y1
      have y2' : wr.cell? ⟨b, off + j * 4 + 2, none⟩ = some (.string (kid j).s) := y2
      have y3' : wr.cell? ⟨b, off + j * 4 + 3, none⟩ = some (.slice aj (kid j).m cj) := y3
      have HY : Hid (W.cell? ⟨b, off + j * 4, none⟩ = some (.int .i64 (kid j).k) ∧ W.cell? ⟨b, off + j * 4 + 1, none⟩ = some (.int .i64 (kid j).n) ∧ W.cell? ⟨b, off + j * 4 + 2, none⟩ = some (.string (kid j).s) ∧ W.cell? ⟨b, off + j * 4 + 3, none⟩ = some (.slice aj (kid j).m cj)) := by
        obtain ⟨z0, z1, z2, z3⟩ := hyy
        have e3 := (HB.out.cell (p := ⟨b, off + j * 4 + 3, none⟩) (blt_of_cell z3)).trans z3
        have e4 := e3.symm.trans y3'
        injection e4 with e4
        injection e4 with e5 e6 e7
        subst e5 e7
        exact ⟨z0, z1, z2, z3⟩
      have HKJ : Hid (∀ (fb : Bool) (W' : World), Below wr.heap.size wr W' → Calls Tryz.prog 26 #[.agg #[.int .i64 (kid j).k, .int .i64 (kid j).n, .string (kid j).s, .slice aj (kid j).m cj], .bool fb] W' fun e w' => e = .returned (.string (rT (inT fb (kid j)))) ∧ Below W'.heap.size W' w') := fun fb W' hb' => HKC.out j hlt fb aj cj W' (hkj.below hb')
      clear y0 y1 y2 y3 hcell hkj hyy
      generalize (kid j).k = kk at *
      generalize (kid j).n = kn' at *
      generalize (kid j).s = ks at *
      generalize (kid j).m = km at *
      have HFJ := Lib.hid (HFL.out j)
      go_wp2_with fail
      have HSW : Hid (∀ w2, Below W.heap.size W w2 → (w2.cell? ⟨w.heap.size, 0, none⟩ = some (.int .i64 9) ∧ w2.cell? ⟨w.heap.size, 3, none⟩ = some (.slice (some ⟨b, off, none⟩) 1 c) ∧ w2.cell? ⟨b, off + j * 4, none⟩ = some (.int .i64 kk) ∧ w2.cell? ⟨b, off + j * 4 + 1, none⟩ = some (.int .i64 kn') ∧ w2.cell? ⟨b, off + j * 4 + 2, none⟩ = some (.string ks) ∧ w2.cell? ⟨b, off + j * 4 + 3, none⟩ = some (.slice aj km cj))) := fun w2 hb =>
        ⟨(hb.cell (blt_of_cell HX0.out.c0)).trans HX0.out.c0, (hb.cell (blt_of_cell HX0.out.c3)).trans HX0.out.c3, (hb.cell (blt_of_cell HY.out.1)).trans HY.out.1, (hb.cell (blt_of_cell HY.out.2.1)).trans HY.out.2.1, (hb.cell (blt_of_cell HY.out.2.2.1)).trans HY.out.2.2.1, (hb.cell (blt_of_cell HY.out.2.2.2)).trans HY.out.2.2.2⟩
      clear x0 x1 x2 x3 y0' y1' y2' y3'
      refine wp_region_held_drew (S := fun w' => w'.cell? ⟨w.heap.size, 0, none⟩ = some (.int .i64 9) ∧ w'.cell? ⟨w.heap.size, 3, none⟩ = some (.slice (some ⟨b, off, none⟩) 1 c) ∧ w'.cell? ⟨b, off + j * 4, none⟩ = some (.int .i64 kk) ∧ w'.cell? ⟨b, off + j * 4 + 1, none⟩ = some (.int .i64 kn') ∧ w'.cell? ⟨b, off + j * 4 + 2, none⟩ = some (.string ks) ∧ w'.cell? ⟨b, off + j * 4 + 3, none⟩ = some (.slice aj km cj)) (by kernel_rfl) ?_ (fun hHeld => ?_)
      · exact HSW.out wr HB.out
      refine wpAnyH_take (i := 0) (oi := _) (v := u5) rfl (by kernel_rfl) (by kernel_rfl) (by kernel_rfl) (fun _ _ _ h => h) (Or.inl ⟨by kernel_rfl, fun w' hSw => ?_⟩) (by assumption) ?_
      · ((try dsimp only at hSw); go_simp; try with_reducible rfl)
      try simp only [Act.put, List.setIfInBounds_toArray, List.set_cons_zero, List.set_cons_succ]
      refine wpAnyH_take (i := 1) (oi := _) (v := .pointer (some ⟨w.heap.size, 3, none⟩)) rfl (by kernel_rfl) (by kernel_rfl) (by kernel_rfl) (fun _ _ _ h => h) (Or.inl ⟨by kernel_rfl, fun w' hSw => ?_⟩) (by assumption) ?_
      · ((try dsimp only at hSw); go_simp; try with_reducible rfl)
      try simp only [Act.put, List.setIfInBounds_toArray, List.set_cons_zero, List.set_cons_succ]
      refine wpAnyH_take (i := 2) (oi := _) (v := .slice (some ⟨b, off, none⟩) 1 c) rfl (by kernel_rfl) (by kernel_rfl) (by kernel_rfl) (fun _ _ _ h => h) (Or.inl ⟨by kernel_rfl, fun w' hSw => ?_⟩) (by assumption) ?_
      · ((try dsimp only at hSw); go_simp; try with_reducible rfl)
      try simp only [Act.put, List.setIfInBounds_toArray, List.set_cons_zero, List.set_cons_succ]
      refine wpAnyH_take (i := 3) (oi := _) (v := .int .i64 (j : Int)) rfl (by kernel_rfl) (by kernel_rfl) (by kernel_rfl) (fun _ _ _ h => h) (Or.inl ⟨by kernel_rfl, fun w' hSw => ?_⟩) (by assumption) ?_
      · ((try dsimp only at hSw); go_simp; try with_reducible rfl)
      try simp only [Act.put, List.setIfInBounds_toArray, List.set_cons_zero, List.set_cons_succ]
      refine wpAnyH_take (i := 4) (oi := _) (v := .pointer (some ⟨b, off + j * 4, none⟩)) rfl (by kernel_rfl) (by kernel_rfl) (by kernel_rfl) (fun _ _ _ h => h) (Or.inl ⟨by kernel_rfl, fun w' hSw => ?_⟩) (by assumption) ?_
      · ((try dsimp only at hSw); go_simp; try with_reducible rfl)
      try simp only [Act.put, List.setIfInBounds_toArray, List.set_cons_zero, List.set_cons_succ]
      refine wpAnyH_take (i := 5) (oi := _) (v := .agg #[.int .i64 kk, .int .i64 kn', .string ks, .slice aj km cj]) rfl (by kernel_rfl) (by kernel_rfl) (by kernel_rfl) (fun _ _ _ h => h) (Or.inl ⟨by kernel_rfl, fun w' hSw => ?_⟩) (by assumption) ?_
      · ((try dsimp only at hSw); go_simp; try with_reducible rfl)
      try simp only [Act.put, List.setIfInBounds_toArray, List.set_cons_zero, List.set_cons_succ]
      refine wpAnyH_take (i := 6) (oi := _) (v := .pointer (some ⟨w.heap.size, 0, none⟩)) rfl (by kernel_rfl) (by kernel_rfl) (by kernel_rfl) (fun _ _ _ h => h) (Or.inl ⟨by kernel_rfl, fun w' hSw => ?_⟩) (by assumption) ?_
      · ((try dsimp only at hSw); go_simp; try with_reducible rfl)
      try simp only [Act.put, List.setIfInBounds_toArray, List.set_cons_zero, List.set_cons_succ]
      refine wpAnyH_take (i := 7) (oi := _) (v := .int .i64 9) rfl (by kernel_rfl) (by kernel_rfl) (by kernel_rfl) (fun _ _ _ h => h) (Or.inl ⟨by kernel_rfl, fun w' hSw => ?_⟩) (by assumption) ?_
      · ((try dsimp only at hSw); go_simp; try with_reducible rfl)
      try simp only [Act.put, List.setIfInBounds_toArray, List.set_cons_zero, List.set_cons_succ]
      refine wpAnyH_take (i := 8) (oi := _) (v := .bool true) rfl (by kernel_rfl) (by kernel_rfl) (by kernel_rfl) (fun _ _ _ h => h) (Or.inl ⟨by kernel_rfl, fun w' hSw => ?_⟩) (by assumption) ?_
      · ((try dsimp only at hSw); go_simp; try with_reducible rfl)
      try simp only [Act.put, List.setIfInBounds_toArray, List.set_cons_zero, List.set_cons_succ]
      refine wpAnyH_take (i := 9) (oi := _) (v := .bool true) rfl (by kernel_rfl) (by kernel_rfl) (by kernel_rfl) (fun _ _ _ h => h) (Or.inl ⟨by kernel_rfl, fun w' hSw => ?_⟩) (by assumption) ?_
      · ((try dsimp only at hSw); go_simp; try with_reducible rfl)
      try simp only [Act.put, List.setIfInBounds_toArray, List.set_cons_zero, List.set_cons_succ]
      refine wpAnyH_take (i := 10) (oi := _) (v := undef) rfl (by kernel_rfl) (by kernel_rfl) (by kernel_rfl) (fun _ _ _ h => h) (Or.inr ⟨by kernel_rfl, rfl⟩) (by assumption) ?_
      try simp only [Act.put, List.setIfInBounds_toArray, List.set_cons_zero, List.set_cons_succ]
      refine wpAnyH_take (i := 11) (oi := _) (v := undef) rfl (by kernel_rfl) (by kernel_rfl) (by kernel_rfl) (fun _ _ _ h => h) (Or.inr ⟨by kernel_rfl, rfl⟩) (by assumption) ?_
      try simp only [Act.put, List.setIfInBounds_toArray, List.set_cons_zero, List.set_cons_succ]
      refine wpAnyH_take (i := 12) (oi := _) (v := undef) rfl (by kernel_rfl) (by kernel_rfl) (by kernel_rfl) (fun _ _ _ h => h) (Or.inr ⟨by kernel_rfl, rfl⟩) (by assumption) ?_
      try simp only [Act.put, List.setIfInBounds_toArray, List.set_cons_zero, List.set_cons_succ]
      refine wpAnyH_take (i := 13) (oi := _) (v := undef) rfl (by kernel_rfl) (by kernel_rfl) (by kernel_rfl) (fun _ _ _ h => h) (Or.inr ⟨by kernel_rfl, rfl⟩) (by assumption) ?_
      try simp only [Act.put, List.setIfInBounds_toArray, List.set_cons_zero, List.set_cons_succ]
      refine wpAnyH_take (i := 14) (oi := _) (v := undef) rfl (by kernel_rfl) (by kernel_rfl) (by kernel_rfl) (fun _ _ _ h => h) (Or.inr ⟨by kernel_rfl, rfl⟩) (by assumption) ?_
      try simp only [Act.put, List.setIfInBounds_toArray, List.set_cons_zero, List.set_cons_succ]
      refine wpAnyH_take (i := 15) (oi := _) (v := undef) rfl (by kernel_rfl) (by kernel_rfl) (by kernel_rfl) (fun _ _ _ h => h) (Or.inr ⟨by kernel_rfl, rfl⟩) (by assumption) ?_
      try simp only [Act.put, List.setIfInBounds_toArray, List.set_cons_zero, List.set_cons_succ]
      refine wpAnyH_take (i := 16) (oi := _) (v := undef) rfl (by kernel_rfl) (by kernel_rfl) (by kernel_rfl) (fun _ _ _ h => h) (Or.inr ⟨by kernel_rfl, rfl⟩) (by assumption) ?_
      try simp only [Act.put, List.setIfInBounds_toArray, List.set_cons_zero, List.set_cons_succ]
      refine wpAnyH_take (i := 17) (oi := _) (v := .bool true) rfl (by kernel_rfl) (by kernel_rfl) (by kernel_rfl) (fun _ _ _ h => h) (Or.inl ⟨by kernel_rfl, fun w' hSw => ?_⟩) (by assumption) ?_
      · ((try dsimp only at hSw); go_simp; try with_reducible rfl)
      try simp only [Act.put, List.setIfInBounds_toArray, List.set_cons_zero, List.set_cons_succ]
      refine wpAnyH_ready (rs := [18]) (by kernel_rfl) (by simp) ?_
      refine AllReadyH.cons rfl (fun K hK => ?_) AllReadyH.nil
      go_simp
      refine (HKJ.out true _ (kbelow_dN (Below.refl _ _) 1)).mono ?_
      rintro e w1 ⟨rfl, hb1⟩
      have HB1' := Lib.hid (rfrom_drew hb1)
      have HB1 := Lib.hid (HB.out.trans ((rfrom_drew hb1).mono HB.out.size))
      have HTX := Lib.hid (kbelow_box w1 (.cells #[.string (rT (inT true (kid j)))] 9))
      have HGX := Lib.hid ((HG.out.below HB1'.out).below HTX.out)
      have HBX := Lib.hid (HB1.out.trans (HTX.out.mono HB1.out.size))
      have hsrc : (w1.alloc (.cells #[.string (rT (inT true (kid j)))] 9)).cell? ⟨w1.heap.size, 0, none⟩ = some (.string (rT (inT true (kid j)))) := by simp
      have HSRC := Lib.hid hsrc
      clear hb1 hsrc
      try go_wp2_with fail
      refine hK.out _ _ (by exact HSW.out _ HB1.out) (fun hHeld => ?_)
      clear hK K
      try simp only [Act.put, List.setIfInBounds_toArray, List.set_cons_zero, List.set_cons_succ]
      refine wpAnyH_ready (rs := [19]) (by kernel_rfl) (by simp) ?_
      refine AllReadyH.cons rfl (fun K hK => ?_) AllReadyH.nil
      go_simp
      refine hK.out _ _ (by exact HSW.out _ HBX.out) (fun hHeld => ?_)
      clear hK K
      try simp only [Act.put, List.setIfInBounds_toArray, List.set_cons_zero, List.set_cons_succ]
      refine wpAnyH_ready (rs := [20]) (by kernel_rfl) (by simp) ?_
      refine AllReadyH.cons rfl (fun K hK => ?_) AllReadyH.nil
      refine step_app_s _ rfl (.tmp 34) (.tmp 53) rfl W.heap.size u5 (kTs 9 kid j) (by simp [Act.eval]) HGX.out w1.heap.size 1 (rT (inT true (kid j))) (by simp [Act.eval]) HSRC.out (by rw [kTs_len]; omega) HBX.out.size ?_
      intro v9 w9 hg9 hr9
      have HG9 := Lib.hid hg9
      have HB9 := Lib.hid (HBX.out.grown hr9 HBX.out.size fun q hq => (HGX.out.lt q hq).1)
      clear hg9 hr9
      refine hK.out _ _ (by exact HSW.out _ HB9.out) (fun hHeld => ?_)
      clear hK K
      try simp only [Act.put, List.setIfInBounds_toArray, List.set_cons_zero, List.set_cons_succ]
      refine wpAnyH_ready (rs := [21]) (by kernel_rfl) (by simp) ?_
      refine AllReadyH.cons rfl (fun K hK => ?_) AllReadyH.nil
      go_simp
      refine hK.out _ _ (by exact HSW.out _ HB9.out) (fun hHeld => ?_)
      clear hK K
      try simp only [Act.put, List.setIfInBounds_toArray, List.set_cons_zero, List.set_cons_succ]
      refine wpAnyH_done (by kernel_rfl) ?_ _
      go_wp2_with fail
      go_roundw
      case rel => exact ⟨j + 1, by omega, by go_num, by rw [kTs_succ, HFJ.out]; exact HG9.out, HB9.out⟩
      case measure => simp [intOf]; omega
    · obtain rfl : j = 1 := by omega
      obtain ⟨g, cg, hv, hcs⟩ := HG.out.open (by rw [kTs_len]; omega)
      rw [kTs_len] at hv
      subst hv
      have c0 : wr.cell? ⟨g, 0, none⟩ = some (.string (rT (inT true (kid 0)))) := by
        have := hcs 0 (by rw [kTs_len]; omega)
        rw [kTs_at] at this
        exact this
      have z0 : Sz (rT (inT true (kid 0))) 500000 := HZ.out 0 (by omega) true
      generalize rT (inT true (kid 0)) = T0 at *
      clear HKC HFL hcs
      have q1 : Sz ⟨#[32, 42, 32]⟩ 20 := by unfold Sz; decide
      have j1 := Sz.run z0 q1 (by omega)
      have p1 := Sz.app z0 q1
      have j2 := Sz.run p1 ZN (by omega)
      have p2 := Sz.app p1 ZN
      go_wp2_with fail
      have y1 := cell_regrown x1
      have d0 := cell_regrown c0
      refine wp_region_quiet_below (by kernel_rfl) (by kernel_rfl) ?_
      repeat (quiet_step (exact Calls.regrown_of (digits_i _ _ HN.out.1 HN.out.2)))
      refine wpQuiet_nil ?_
      intro _ hw'
      obtain ⟨⟨dq, osq⟩, hw''⟩ := hw'
      subst hw''
      have HBE := Lib.hid (below_regrown wr dq osq)
      go_wp2_with fail
      go_ret
      exact ⟨congrArg (fun x => Ending.returned (.string x)) HT.out, HB0.out.trans ((HB.out.trans (HBE.out.mono HB.out.size)).mono HB0.out.size)⟩
set_option maxRecDepth 100000 in
set_option maxHeartbeats 4000000 in
theorem exprText_10_false (n : Int) (s : ByteArray) (kid : Nat → Ex) (HN : Hid (0 ≤ n ∧ n ≤ 1000000)) (ZN : Sz (iT n) 21) (hC : ∀ j, j < 1 → ∀ b, RcX b (kid j)) (hZ : ∀ j, j < 1 → ∀ b, Sz (rT (inT b (kid j))) 500000) (hT : rT (inT true (kid 0)) ++ ⟨#[32, 47, 32]⟩ ++ iT n = rT (inT false (Ex.mk 10 n s 1 kid))) : RcX false (Ex.mk 10 n s 1 kid) := by
  have HKC := Lib.hid hC
  have HFL : Hid (∀ j, flg 10 j = true) := by unfold Hid flg; simp
  have HZ := Lib.hid hZ
  have HT := Lib.hid hT
  clear hC hZ hT
  intro a c w hk
  show Calls Tryz.prog 26 #[.agg #[.int .i64 10, .int .i64 n, .string s, .slice a (1 : Nat) c], .bool false] w _
  have HB0 := Lib.hid (kbelow_box w (.cells #[.int .i64 10, .int .i64 n, .string s, .slice a (1 : Nat) c] 39))
  have HX0 : Hid (Obx (w.alloc (.cells #[.int .i64 10, .int .i64 n, .string s, .slice a (1 : Nat) c] 39)) w.heap.size [.int .i64 10, .int .i64 n, .string s, .slice a (1 : Nat) c] 39) := Lib.hid (Obx.made w [.int .i64 10, .int .i64 n, .string s, .slice a (1 : Nat) c] _)
  have HKD := Lib.hid (hk.below HB0.out)
  clear hk
  go_enter Tryz.func26, Tryz.ntmps26
  go_wp2_with fail
  generalize (w.alloc (.cells #[.int .i64 10, .int .i64 n, .string s, .slice a (1 : Nat) c] 39)) = W at *
  go_loopw [5, 6] (fun v i wr => ∃ j : Nat, j ≤ 1 ∧ i = .int .i64 j ∧ GrS wr W.heap.size v (kTs 10 kid j) ∧ Below W.heap.size W wr) (fun _ i _ => 1 - (intOf i).toNat)
  case atStart => exact ⟨0, Nat.zero_le _, rfl, GrS.nil _ _, Below.refl _ _⟩
  case round =>
  
    obtain ⟨j, hj, rfl, hgr, hb⟩ := hrel
    have HG := Lib.hid hgr
    have HB := Lib.hid hb
    obtain ⟨x0, x1, x2, x3⟩ := (HX0.out.below hb).four
    clear hgr hb
    by_cases hlt : j < 1
    · have hltM : (j : Int) < (1 : Int) := by omega
      obtain ⟨b, off, rfl, hcell⟩ := HKD.out.open (show 0 < 1 by omega)
      obtain ⟨aj, cj, ⟨y0, y1, y2, y3⟩, hkj⟩ := hcell wr HB.out j hlt
      obtain ⟨aj2, cj2, hyy, -⟩ := hcell W (Below.refl _ _) j hlt
      have y0' : wr.cell? ⟨b, off + j * 4, none⟩ = some (.int .i64 (kid j).k) := y0
      have y1' : wr.cell? ⟨b, off + j * 4 + 1, none⟩ = some (.int .i64 (kid j).n) := y1
      have y2' : wr.cell? ⟨b, off + j * 4 + 2, none⟩ = some (.string (kid j).s) := y2
      have y3' : wr.cell? ⟨b, off + j * 4 + 3, none⟩ = some (.slice aj (kid j).m cj) := y3
      have HY : Hid (W.cell? ⟨b, off + j * 4, none⟩ = some (.int .i64 (kid j).k) ∧ W.cell? ⟨b, off + j * 4 + 1, none⟩ = some (.int .i64 (kid j).n) ∧ W.cell? ⟨b, off + j * 4 + 2, none⟩ = some (.string (kid j).s) ∧ W.cell? ⟨b, off + j * 4 + 3, none⟩ = some (.slice aj (kid j).m cj)) := by
        obtain ⟨z0, z1, z2, z3⟩ := hyy
        have e3 := (HB.out.cell (p := ⟨b, off + j * 4 + 3, none⟩) (blt_of_cell z3)).trans z3
        have e4 := e3.symm.trans y3'
        injection e4 with e4
        injection e4 with e5 e6 e7
        subst e5 e7
        exact ⟨z0, z1, z2, z3⟩
      have HKJ : Hid (∀ (fb : Bool) (W' : World), Below wr.heap.size wr W' → Calls Tryz.prog 26 #[.agg #[.int .i64 (kid j).k, .int .i64 (kid j).n, .string (kid j).s, .slice aj (kid j).m cj], .bool fb] W' fun e w' => e = .returned (.string (rT (inT fb (kid j)))) ∧ Below W'.heap.size W' w') := fun fb W' hb' => HKC.out j hlt fb aj cj W' (hkj.below hb')
      clear y0 y1 y2 y3 hcell hkj hyy
      generalize (kid j).k = kk at *
      generalize (kid j).n = kn' at *
      generalize (kid j).s = ks at *
      generalize (kid j).m = km at *
      have HFJ := Lib.hid (HFL.out j)
      go_wp2_with fail
      have HSW : Hid (∀ w2, Below W.heap.size W w2 → (w2.cell? ⟨w.heap.size, 0, none⟩ = some (.int .i64 10) ∧ w2.cell? ⟨w.heap.size, 3, none⟩ = some (.slice (some ⟨b, off, none⟩) 1 c) ∧ w2.cell? ⟨b, off + j * 4, none⟩ = some (.int .i64 kk) ∧ w2.cell? ⟨b, off + j * 4 + 1, none⟩ = some (.int .i64 kn') ∧ w2.cell? ⟨b, off + j * 4 + 2, none⟩ = some (.string ks) ∧ w2.cell? ⟨b, off + j * 4 + 3, none⟩ = some (.slice aj km cj))) := fun w2 hb =>
        ⟨(hb.cell (blt_of_cell HX0.out.c0)).trans HX0.out.c0, (hb.cell (blt_of_cell HX0.out.c3)).trans HX0.out.c3, (hb.cell (blt_of_cell HY.out.1)).trans HY.out.1, (hb.cell (blt_of_cell HY.out.2.1)).trans HY.out.2.1, (hb.cell (blt_of_cell HY.out.2.2.1)).trans HY.out.2.2.1, (hb.cell (blt_of_cell HY.out.2.2.2)).trans HY.out.2.2.2⟩
      clear x0 x1 x2 x3 y0' y1' y2' y3'
      refine wp_region_held_drew (S := fun w' => w'.cell? ⟨w.heap.size, 0, none⟩ = some (.int .i64 10) ∧ w'.cell? ⟨w.heap.size, 3, none⟩ = some (.slice (some ⟨b, off, none⟩) 1 c) ∧ w'.cell? ⟨b, off + j * 4, none⟩ = some (.int .i64 kk) ∧ w'.cell? ⟨b, off + j * 4 + 1, none⟩ = some (.int .i64 kn') ∧ w'.cell? ⟨b, off + j * 4 + 2, none⟩ = some (.string ks) ∧ w'.cell? ⟨b, off + j * 4 + 3, none⟩ = some (.slice aj km cj)) (by kernel_rfl) ?_ (fun hHeld => ?_)
      · exact HSW.out wr HB.out
      refine wpAnyH_take (i := 0) (oi := _) (v := u5) rfl (by kernel_rfl) (by kernel_rfl) (by kernel_rfl) (fun _ _ _ h => h) (Or.inl ⟨by kernel_rfl, fun w' hSw => ?_⟩) (by assumption) ?_
      · ((try dsimp only at hSw); go_simp; try with_reducible rfl)
      try simp only [Act.put, List.setIfInBounds_toArray, List.set_cons_zero, List.set_cons_succ]
      refine wpAnyH_take (i := 1) (oi := _) (v := .pointer (some ⟨w.heap.size, 3, none⟩)) rfl (by kernel_rfl) (by kernel_rfl) (by kernel_rfl) (fun _ _ _ h => h) (Or.inl ⟨by kernel_rfl, fun w' hSw => ?_⟩) (by assumption) ?_
      · ((try dsimp only at hSw); go_simp; try with_reducible rfl)
      try simp only [Act.put, List.setIfInBounds_toArray, List.set_cons_zero, List.set_cons_succ]
      refine wpAnyH_take (i := 2) (oi := _) (v := .slice (some ⟨b, off, none⟩) 1 c) rfl (by kernel_rfl) (by kernel_rfl) (by kernel_rfl) (fun _ _ _ h => h) (Or.inl ⟨by kernel_rfl, fun w' hSw => ?_⟩) (by assumption) ?_
      · ((try dsimp only at hSw); go_simp; try with_reducible rfl)
      try simp only [Act.put, List.setIfInBounds_toArray, List.set_cons_zero, List.set_cons_succ]
      refine wpAnyH_take (i := 3) (oi := _) (v := .int .i64 (j : Int)) rfl (by kernel_rfl) (by kernel_rfl) (by kernel_rfl) (fun _ _ _ h => h) (Or.inl ⟨by kernel_rfl, fun w' hSw => ?_⟩) (by assumption) ?_
      · ((try dsimp only at hSw); go_simp; try with_reducible rfl)
      try simp only [Act.put, List.setIfInBounds_toArray, List.set_cons_zero, List.set_cons_succ]
      refine wpAnyH_take (i := 4) (oi := _) (v := .pointer (some ⟨b, off + j * 4, none⟩)) rfl (by kernel_rfl) (by kernel_rfl) (by kernel_rfl) (fun _ _ _ h => h) (Or.inl ⟨by kernel_rfl, fun w' hSw => ?_⟩) (by assumption) ?_
      · ((try dsimp only at hSw); go_simp; try with_reducible rfl)
      try simp only [Act.put, List.setIfInBounds_toArray, List.set_cons_zero, List.set_cons_succ]
      refine wpAnyH_take (i := 5) (oi := _) (v := .agg #[.int .i64 kk, .int .i64 kn', .string ks, .slice aj km cj]) rfl (by kernel_rfl) (by kernel_rfl) (by kernel_rfl) (fun _ _ _ h => h) (Or.inl ⟨by kernel_rfl, fun w' hSw => ?_⟩) (by assumption) ?_
      · ((try dsimp only at hSw); go_simp; try with_reducible rfl)
      try simp only [Act.put, List.setIfInBounds_toArray, List.set_cons_zero, List.set_cons_succ]
      refine wpAnyH_take (i := 6) (oi := _) (v := .pointer (some ⟨w.heap.size, 0, none⟩)) rfl (by kernel_rfl) (by kernel_rfl) (by kernel_rfl) (fun _ _ _ h => h) (Or.inl ⟨by kernel_rfl, fun w' hSw => ?_⟩) (by assumption) ?_
      · ((try dsimp only at hSw); go_simp; try with_reducible rfl)
      try simp only [Act.put, List.setIfInBounds_toArray, List.set_cons_zero, List.set_cons_succ]
      refine wpAnyH_take (i := 7) (oi := _) (v := .int .i64 10) rfl (by kernel_rfl) (by kernel_rfl) (by kernel_rfl) (fun _ _ _ h => h) (Or.inl ⟨by kernel_rfl, fun w' hSw => ?_⟩) (by assumption) ?_
      · ((try dsimp only at hSw); go_simp; try with_reducible rfl)
      try simp only [Act.put, List.setIfInBounds_toArray, List.set_cons_zero, List.set_cons_succ]
      refine wpAnyH_take (i := 8) (oi := _) (v := .bool true) rfl (by kernel_rfl) (by kernel_rfl) (by kernel_rfl) (fun _ _ _ h => h) (Or.inl ⟨by kernel_rfl, fun w' hSw => ?_⟩) (by assumption) ?_
      · ((try dsimp only at hSw); go_simp; try with_reducible rfl)
      try simp only [Act.put, List.setIfInBounds_toArray, List.set_cons_zero, List.set_cons_succ]
      refine wpAnyH_take (i := 9) (oi := _) (v := .bool true) rfl (by kernel_rfl) (by kernel_rfl) (by kernel_rfl) (fun _ _ _ h => h) (Or.inl ⟨by kernel_rfl, fun w' hSw => ?_⟩) (by assumption) ?_
      · ((try dsimp only at hSw); go_simp; try with_reducible rfl)
      try simp only [Act.put, List.setIfInBounds_toArray, List.set_cons_zero, List.set_cons_succ]
      refine wpAnyH_take (i := 10) (oi := _) (v := undef) rfl (by kernel_rfl) (by kernel_rfl) (by kernel_rfl) (fun _ _ _ h => h) (Or.inr ⟨by kernel_rfl, rfl⟩) (by assumption) ?_
      try simp only [Act.put, List.setIfInBounds_toArray, List.set_cons_zero, List.set_cons_succ]
      refine wpAnyH_take (i := 11) (oi := _) (v := undef) rfl (by kernel_rfl) (by kernel_rfl) (by kernel_rfl) (fun _ _ _ h => h) (Or.inr ⟨by kernel_rfl, rfl⟩) (by assumption) ?_
      try simp only [Act.put, List.setIfInBounds_toArray, List.set_cons_zero, List.set_cons_succ]
      refine wpAnyH_take (i := 12) (oi := _) (v := undef) rfl (by kernel_rfl) (by kernel_rfl) (by kernel_rfl) (fun _ _ _ h => h) (Or.inr ⟨by kernel_rfl, rfl⟩) (by assumption) ?_
      try simp only [Act.put, List.setIfInBounds_toArray, List.set_cons_zero, List.set_cons_succ]
      refine wpAnyH_take (i := 13) (oi := _) (v := undef) rfl (by kernel_rfl) (by kernel_rfl) (by kernel_rfl) (fun _ _ _ h => h) (Or.inr ⟨by kernel_rfl, rfl⟩) (by assumption) ?_
      try simp only [Act.put, List.setIfInBounds_toArray, List.set_cons_zero, List.set_cons_succ]
      refine wpAnyH_take (i := 14) (oi := _) (v := undef) rfl (by kernel_rfl) (by kernel_rfl) (by kernel_rfl) (fun _ _ _ h => h) (Or.inr ⟨by kernel_rfl, rfl⟩) (by assumption) ?_
      try simp only [Act.put, List.setIfInBounds_toArray, List.set_cons_zero, List.set_cons_succ]
      refine wpAnyH_take (i := 15) (oi := _) (v := undef) rfl (by kernel_rfl) (by kernel_rfl) (by kernel_rfl) (fun _ _ _ h => h) (Or.inr ⟨by kernel_rfl, rfl⟩) (by assumption) ?_
      try simp only [Act.put, List.setIfInBounds_toArray, List.set_cons_zero, List.set_cons_succ]
      refine wpAnyH_take (i := 16) (oi := _) (v := undef) rfl (by kernel_rfl) (by kernel_rfl) (by kernel_rfl) (fun _ _ _ h => h) (Or.inr ⟨by kernel_rfl, rfl⟩) (by assumption) ?_
      try simp only [Act.put, List.setIfInBounds_toArray, List.set_cons_zero, List.set_cons_succ]
      refine wpAnyH_take (i := 17) (oi := _) (v := .bool true) rfl (by kernel_rfl) (by kernel_rfl) (by kernel_rfl) (fun _ _ _ h => h) (Or.inl ⟨by kernel_rfl, fun w' hSw => ?_⟩) (by assumption) ?_
      · ((try dsimp only at hSw); go_simp; try with_reducible rfl)
      try simp only [Act.put, List.setIfInBounds_toArray, List.set_cons_zero, List.set_cons_succ]
      refine wpAnyH_ready (rs := [18]) (by kernel_rfl) (by simp) ?_
      refine AllReadyH.cons rfl (fun K hK => ?_) AllReadyH.nil
      go_simp
      refine (HKJ.out true _ (kbelow_dN (Below.refl _ _) 1)).mono ?_
      rintro e w1 ⟨rfl, hb1⟩
      have HB1' := Lib.hid (rfrom_drew hb1)
      have HB1 := Lib.hid (HB.out.trans ((rfrom_drew hb1).mono HB.out.size))
      have HTX := Lib.hid (kbelow_box w1 (.cells #[.string (rT (inT true (kid j)))] 9))
      have HGX := Lib.hid ((HG.out.below HB1'.out).below HTX.out)
      have HBX := Lib.hid (HB1.out.trans (HTX.out.mono HB1.out.size))
      have hsrc : (w1.alloc (.cells #[.string (rT (inT true (kid j)))] 9)).cell? ⟨w1.heap.size, 0, none⟩ = some (.string (rT (inT true (kid j)))) := by simp
      have HSRC := Lib.hid hsrc
      clear hb1 hsrc
      try go_wp2_with fail
      refine hK.out _ _ (by exact HSW.out _ HB1.out) (fun hHeld => ?_)
      clear hK K
      try simp only [Act.put, List.setIfInBounds_toArray, List.set_cons_zero, List.set_cons_succ]
      refine wpAnyH_ready (rs := [19]) (by kernel_rfl) (by simp) ?_
      refine AllReadyH.cons rfl (fun K hK => ?_) AllReadyH.nil
      go_simp
      refine hK.out _ _ (by exact HSW.out _ HBX.out) (fun hHeld => ?_)
      clear hK K
      try simp only [Act.put, List.setIfInBounds_toArray, List.set_cons_zero, List.set_cons_succ]
      refine wpAnyH_ready (rs := [20]) (by kernel_rfl) (by simp) ?_
      refine AllReadyH.cons rfl (fun K hK => ?_) AllReadyH.nil
      refine step_app_s _ rfl (.tmp 34) (.tmp 53) rfl W.heap.size u5 (kTs 10 kid j) (by simp [Act.eval]) HGX.out w1.heap.size 1 (rT (inT true (kid j))) (by simp [Act.eval]) HSRC.out (by rw [kTs_len]; omega) HBX.out.size ?_
      intro v9 w9 hg9 hr9
      have HG9 := Lib.hid hg9
      have HB9 := Lib.hid (HBX.out.grown hr9 HBX.out.size fun q hq => (HGX.out.lt q hq).1)
      clear hg9 hr9
      refine hK.out _ _ (by exact HSW.out _ HB9.out) (fun hHeld => ?_)
      clear hK K
      try simp only [Act.put, List.setIfInBounds_toArray, List.set_cons_zero, List.set_cons_succ]
      refine wpAnyH_ready (rs := [21]) (by kernel_rfl) (by simp) ?_
      refine AllReadyH.cons rfl (fun K hK => ?_) AllReadyH.nil
      go_simp
      refine hK.out _ _ (by exact HSW.out _ HB9.out) (fun hHeld => ?_)
      clear hK K
      try simp only [Act.put, List.setIfInBounds_toArray, List.set_cons_zero, List.set_cons_succ]
      refine wpAnyH_done (by kernel_rfl) ?_ _
      go_wp2_with fail
      go_roundw
      case rel => exact ⟨j + 1, by omega, by go_num, by rw [kTs_succ, HFJ.out]; exact HG9.out, HB9.out⟩
      case measure => simp [intOf]; omega
    · obtain rfl : j = 1 := by omega
      obtain ⟨g, cg, hv, hcs⟩ := HG.out.open (by rw [kTs_len]; omega)
      rw [kTs_len] at hv
      subst hv
      have c0 : wr.cell? ⟨g, 0, none⟩ = some (.string (rT (inT true (kid 0)))) := by
        have := hcs 0 (by rw [kTs_len]; omega)
        rw [kTs_at] at this
        exact this
      have z0 : Sz (rT (inT true (kid 0))) 500000 := HZ.out 0 (by omega) true
      generalize rT (inT true (kid 0)) = T0 at *
      clear HKC HFL hcs
      have q1 : Sz ⟨#[32, 47, 32]⟩ 20 := by unfold Sz; decide
      have j1 := Sz.run z0 q1 (by omega)
      have p1 := Sz.app z0 q1
      have j2 := Sz.run p1 ZN (by omega)
      have p2 := Sz.app p1 ZN
      go_wp2_with fail
      have y1 := cell_regrown x1
      have d0 := cell_regrown c0
      refine wp_region_quiet_below (by kernel_rfl) (by kernel_rfl) ?_
      repeat (quiet_step (exact Calls.regrown_of (digits_i _ _ HN.out.1 HN.out.2)))
      refine wpQuiet_nil ?_
      intro _ hw'
      obtain ⟨⟨dq, osq⟩, hw''⟩ := hw'
      subst hw''
      have HBE := Lib.hid (below_regrown wr dq osq)
      go_wp2_with fail
      go_ret
      exact ⟨congrArg (fun x => Ending.returned (.string x)) HT.out, HB0.out.trans ((HB.out.trans (HBE.out.mono HB.out.size)).mono HB0.out.size)⟩
end Go.Proofs.YtchiifnciijagaaGreatDoor
