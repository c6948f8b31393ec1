/-
  Promise F3: the reference's LinesText is what is printed.
-/
import Derived.Test.YtchiifnciijagaaGreatDoorRI
import Derived.Test.YtchiifnciijagaaGreatDoorRT
import Derived.Test.YtchiifnciijagaaGreatDoorRB
import Derived.Deep.RegionHeldLaw
import Derived.Lib.Hide
set_option linter.unusedSimpArgs false
namespace Go.Proofs.YtchiifnciijagaaGreatDoor
open Go.RowKit


theorem words_at (V : World) (t : Nat) (h1 : 1 ≤ t) (h4 : t ≤ 4) : (V.alloc (.cells #[.string ⟨#[]⟩, .string ⟨#[101, 97, 114, 110]⟩, .string ⟨#[116, 97, 107, 101]⟩, .string ⟨#[116, 97, 120]⟩, .string ⟨#[108, 101, 116]⟩] 9)).cell? ⟨V.heap.size, t, none⟩ = some (.string (lwW t)) := by
  have hc : t = 1 ∨ t = 2 ∨ t = 3 ∨ t = 4 := by omega
  rcases hc with rfl | rfl | rfl | rfl <;> simp [lwW]
theorem ten_at (V : World) : (V.alloc (.cells #[.int .u8 10] 5)).cell? ⟨V.heap.size, 0, none⟩ = some (.int .u8 10) := by simp
theorem cv_ten (g : Nat) (w : World) (h : w.cell? ⟨g, 0, none⟩ = some (.int .u8 10)) : (convert 42 9 (.slice (some ⟨g, 0, none⟩) 1 1)).run Tryz.prog w = .ok (.string ⟨#[10]⟩) w := by
  refine run_convert_bytes_back w 42 9 5 ⟨g, 0, none⟩ 1 [10] Tryz.underlying42 Tryz.underlying5 Tryz.underlying9 fun j hj => ?_
  have : j = 0 := by simp at hj; omega
  subst this
  simpa [Addr.add] using h
theorem line_text {l : List Ln} {j t : Nat} (hk : (lnth l j).kind = (t : Int)) (hf : (lnth l j).ex.full) (he : (lnth l j).ex.err = 0) :
    (⟨(lnsTx l j).toArray⟩ : ByteArray) ++ (lwW t ++ ⟨#[32]⟩ ++ (lnth l j).name ++ ⟨#[32, 61, 32]⟩ ++ rT (inT false (lnth l j).ex) ++ ⟨#[32, 59]⟩ ++ ⟨#[10]⟩) = ⟨(lnsTx l (j + 1)).toArray⟩ := by
  refine Mny.ba_ext ?_
  have e := rT_end (inT_end (b := false) hf he)
  rw [lnsTx, lnTx, hk, inT_f (lnth l j).ex]
  generalize rT (inT false (lnth l j).ex) = T at *
  rw [← e]
  simp [tksL, tkL, ByteArray.data_append]
set_option maxRecDepth 100000 in
set_option maxHeartbeats 8000000 in
theorem linesText_any (a : Option Addr) (n cap : Nat) (l : List Ln) (w : World) (hc : CameL w a l) (hn : l.length = n) (hz : linesE l = 0) :
    Calls Tryz.prog 11 #[.slice a n cap] w fun e w' => e = .returned (.string ⟨(lnsTx l n).toArray⟩) ∧ Below w.heap.size w w' := by
  obtain ⟨hl40, hsp, hle⟩ := lines_okP hz
  have HN := Lib.hid hn
  have HC := Lib.hid hc
  have HFU := Lib.hid hc.full
  have hn40 : n ≤ 40 := by rw [← hn]; exact hl40
  have HLL := Lib.hid (fun j (hj : j ≤ n) => lnsTx_len hle j (by rw [HN.out]; exact hj))
  have HSP := Lib.hid (fun j (hj : j ≤ n) => Nat.le_trans (sumP_le (l := l) (m := l.length) (by rw [HN.out]; exact hj)) hsp)
  have HLE1 := Lib.hid (fun j (hj : j < n) => line_okP (hle j (by rw [HN.out]; exact hj)))
  have HLS := Lib.hid (fun j (hj : j ≤ n) => (by have h1 := HLL.out j hj; have h2 := HSP.out j hj; omega : (lnsTx l j).length ≤ 404000))
  have HPT := Lib.hid (fun j (hj : j < n) => (by have h1 := HSP.out (j + 1) hj; rw [sumP_succ] at h1; omega : (lnth l j).ex.parts ≤ 4000))
  have HO := Lib.hid (fun h0 => HC.out.open HN.out h0)
  clear hc hn hz hl40 hsp hle
  go_enter Tryz.func11, Tryz.ntmps11
  go_wp2_with fail
  go_loopw [3, 4] (fun v i wr => ∃ j : Nat, j ≤ n ∧ v = .string ⟨(lnsTx l j).toArray⟩ ∧ i = .int .i64 j ∧ Below w.heap.size w wr) (fun _ i _ => n - (intOf i).toNat)
  case atStart => exact ⟨0, Nat.zero_le _, rfl, rfl, Below.refl _ _⟩
  case round =>
    obtain ⟨j, hj, rfl, rfl, hb⟩ := hrel
    have HB := Lib.hid hb
    clear hb
    by_cases hlt : j < n
    · have hlt' : (j : Int) < (n : Int) := by omega
      obtain ⟨kb, off, rfl, hcell⟩ := HO.out (by omega)
      obtain ⟨aj, cj, hli, hns, hkj⟩ := hcell wr HB.out j hlt
      obtain ⟨⟨hk0, hk4⟩, hn8, hxe⟩ := HLE1.out j hlt
      obtain ⟨t, htk⟩ : ∃ t : Nat, (lnth l j).kind = (t : Int) := ⟨(lnth l j).kind.toNat, by omega⟩
      have htb : 1 ≤ t ∧ t ≤ 4 := by omega
      have hfj := HFU.out j (by rw [HN.out]; exact hlt)
      have HKJ : Hid (∀ W', Below wr.heap.size wr W' → Calls Tryz.prog 26 #[.agg #[.int .i64 (lnth l j).ex.k, .int .i64 (lnth l j).ex.n, .string (lnth l j).ex.s, .slice aj (lnth l j).ex.m cj], .bool false] W' fun e w' => e = .returned (.string (rT (inT false (lnth l j).ex))) ∧ Below W'.heap.size W' w') := fun W' hb' => exprText_all _ hfj hxe (HPT.out j hlt) false aj cj W' (hkj.below hb')
      have HTX := Lib.hid (line_text htk hfj hxe)
      have ZT : Sz (rT (inT false (lnth l j).ex)) 500000 := Nat.le_trans (rT_size _) (inT_len false hxe (HPT.out j hlt))
      have ZX : Sz ⟨(lnsTx l j).toArray⟩ 404000 := by
        have h1 := HLS.out j hj
        unfold Sz
        have : (⟨(lnsTx l j).toArray⟩ : ByteArray).data.toList.length = (⟨(lnsTx l j).toArray⟩ : ByteArray).size := Array.length_toList
        rw [← this]
        exact h1
      have ZM : Sz (lnth l j).name 8 := hn8
      have ZL : Sz (lwW t) 20 := Nat.le_trans (lw_len t) (by decide)
      have HWT := Lib.hid (fun V : World => words_at V t htb.1 htb.2)
      have HSW : Hid (∀ w', Below wr.heap.size wr w' → LnIs w' kb (off + j * 6) (lnth l j) aj cj) := fun w' hb' => hli.below hb' (blt_of_cell hli.1)
      have ht5 : (t : Int) < 5 := by omega
      have ht0 : (0 : Int) ≤ (t : Int) := by omega
      replace HSW : Hid (∀ w', Below wr.heap.size wr w' → w'.cell? ⟨kb, off + j * 6, none⟩ = some (.int .i64 (t : Int)) ∧ w'.cell? ⟨kb, off + j * 6 + 1, none⟩ = some (.string (lnth l j).name) ∧ w'.cell? ⟨kb, off + j * 6 + 2, none⟩ = some (.int .i64 (lnth l j).ex.k) ∧ w'.cell? ⟨kb, off + j * 6 + 3, none⟩ = some (.int .i64 (lnth l j).ex.n) ∧ w'.cell? ⟨kb, off + j * 6 + 4, none⟩ = some (.string (lnth l j).ex.s) ∧ w'.cell? ⟨kb, off + j * 6 + 5, none⟩ = some (.slice aj (lnth l j).ex.m cj)) := by
        intro w' hb'
        rw [← htk]
        exact HSW.out w' hb'
      clear hcell hli hns hkj hk0 hk4 hn8 hxe htk hfj
      generalize rT (inT false (lnth l j).ex) = T at *
      generalize (lnth l j).ex.k = kk at *
      generalize (lnth l j).ex.n = kn at *
      generalize (lnth l j).ex.s = ks at *
      generalize (lnth l j).ex.m = km at *
      generalize (lnth l j).name = nm at *
      generalize lwW t = L at *
      generalize (⟨(lnsTx l j).toArray⟩ : ByteArray) = X at *
      have q1 : Sz ⟨#[32]⟩ 20 := by unfold Sz; decide
      have q2 : Sz ⟨#[32, 61, 32]⟩ 20 := by unfold Sz; decide
      have q3 : Sz ⟨#[32, 59]⟩ 20 := by unfold Sz; decide
      have q4 : Sz ⟨#[10]⟩ 20 := by unfold Sz; decide
      have j1 := Sz.run ZL q1 (by omega)
      have p1 := Sz.app ZL q1
      have j2 := Sz.run p1 ZM (by omega)
      have p2 := Sz.app p1 ZM
      have j3 := Sz.run p2 q2 (by omega)
      have p3 := Sz.app p2 q2
      have j4 := Sz.run p3 ZT (by omega)
      have p4 := Sz.app p3 ZT
      have j5 := Sz.run p4 q3 (by omega)
      have p5 := Sz.app p4 q3
      have j6 := Sz.run p5 q4 (by omega)
      have p6 := Sz.app p5 q4
      have j7 := Sz.run ZX p6 (by omega)
      have p7 := Sz.app ZX p6
      go_wp2_with fail
      refine wp_region_held_drew (S := fun w' => w'.cell? ⟨kb, off + j * 6, none⟩ = some (.int .i64 (t : Int)) ∧ w'.cell? ⟨kb, off + j * 6 + 1, none⟩ = some (.string nm) ∧ w'.cell? ⟨kb, off + j * 6 + 2, none⟩ = some (.int .i64 kk) ∧ w'.cell? ⟨kb, off + j * 6 + 3, none⟩ = some (.int .i64 kn) ∧ w'.cell? ⟨kb, off + j * 6 + 4, none⟩ = some (.string ks) ∧ w'.cell? ⟨kb, off + j * 6 + 5, none⟩ = some (.slice aj km cj)) (by kernel_rfl) ?_ (fun hHeld => ?_)
      · exact HSW.out _ (kbelow_dN (Below.refl _ _) 1)
      have HBn0 : Hid (Below wr.heap.size wr wr.drew) := Lib.hid (kbelow_dN (Below.refl _ _) 1)
      generalize wr.drew = V0 at HBn0 hHeld ⊢
      refine wpAnyH_take (i := 0) (oi := _) (v := .string X) rfl (by kernel_rfl) (by kernel_rfl) (by kernel_rfl) (fun _ _ _ h => h) (Or.inl ⟨by kernel_rfl, fun w' hSw => ?_⟩) (by assumption) ?_
      · ((try dsimp only at hSw); go_simp; try with_reducible rfl)
      try simp only [Act.put, List.setIfInBounds_toArray, List.set_cons_zero, List.set_cons_succ]
      refine wpAnyH_take (i := 2) (oi := _) (v := .slice (some ⟨kb, off, none⟩) n cap) rfl (by kernel_rfl) (by kernel_rfl) (by kernel_rfl) (fun _ _ _ h => h) (Or.inl ⟨by kernel_rfl, fun w' hSw => ?_⟩) (by assumption) ?_
      · ((try dsimp only at hSw); go_simp; try with_reducible rfl)
      try simp only [Act.put, List.setIfInBounds_toArray, List.set_cons_zero, List.set_cons_succ]
      refine wpAnyH_take (i := 3) (oi := _) (v := .int .i64 (j : Int)) rfl (by kernel_rfl) (by kernel_rfl) (by kernel_rfl) (fun _ _ _ h => h) (Or.inl ⟨by kernel_rfl, fun w' hSw => ?_⟩) (by assumption) ?_
      · ((try dsimp only at hSw); go_simp; try with_reducible rfl)
      try simp only [Act.put, List.setIfInBounds_toArray, List.set_cons_zero, List.set_cons_succ]
      refine wpAnyH_take (i := 4) (oi := _) (v := .pointer (some ⟨kb, off + j * 6, none⟩)) rfl (by kernel_rfl) (by kernel_rfl) (by kernel_rfl) (fun _ _ _ h => h) (Or.inl ⟨by kernel_rfl, fun w' hSw => ?_⟩) (by assumption) ?_
      · ((try dsimp only at hSw); go_simp; try with_reducible rfl)
      try simp only [Act.put, List.setIfInBounds_toArray, List.set_cons_zero, List.set_cons_succ]
      refine wpAnyH_take (i := 5) (oi := _) (v := .pointer (some ⟨kb, off + j * 6, none⟩)) rfl (by kernel_rfl) (by kernel_rfl) (by kernel_rfl) (fun _ _ _ h => h) (Or.inl ⟨by kernel_rfl, fun w' hSw => ?_⟩) (by assumption) ?_
      · ((try dsimp only at hSw); go_simp; try with_reducible rfl)
      try simp only [Act.put, List.setIfInBounds_toArray, List.set_cons_zero, List.set_cons_succ]
      refine wpAnyH_take (i := 6) (oi := _) (v := .int .i64 (t : Int)) rfl (by kernel_rfl) (by kernel_rfl) (by kernel_rfl) (fun _ _ _ h => h) (Or.inl ⟨by kernel_rfl, fun w' hSw => ?_⟩) (by assumption) ?_
      · ((try dsimp only at hSw); go_simp; try with_reducible rfl)
      try simp only [Act.put, List.setIfInBounds_toArray, List.set_cons_zero, List.set_cons_succ]
      refine wpAnyH_take (i := 10) (oi := _) (v := .slice (some ⟨kb, off, none⟩) n cap) rfl (by kernel_rfl) (by kernel_rfl) (by kernel_rfl) (fun _ _ _ h => h) (Or.inl ⟨by kernel_rfl, fun w' hSw => ?_⟩) (by assumption) ?_
      · ((try dsimp only at hSw); go_simp; try with_reducible rfl)
      try simp only [Act.put, List.setIfInBounds_toArray, List.set_cons_zero, List.set_cons_succ]
      refine wpAnyH_take (i := 11) (oi := _) (v := .int .i64 (j : Int)) rfl (by kernel_rfl) (by kernel_rfl) (by kernel_rfl) (fun _ _ _ h => h) (Or.inl ⟨by kernel_rfl, fun w' hSw => ?_⟩) (by assumption) ?_
      · ((try dsimp only at hSw); go_simp; try with_reducible rfl)
      try simp only [Act.put, List.setIfInBounds_toArray, List.set_cons_zero, List.set_cons_succ]
      refine wpAnyH_take (i := 12) (oi := _) (v := .pointer (some ⟨kb, off + j * 6, none⟩)) rfl (by kernel_rfl) (by kernel_rfl) (by kernel_rfl) (fun _ _ _ h => h) (Or.inl ⟨by kernel_rfl, fun w' hSw => ?_⟩) (by assumption) ?_
      · ((try dsimp only at hSw); go_simp; try with_reducible rfl)
      try simp only [Act.put, List.setIfInBounds_toArray, List.set_cons_zero, List.set_cons_succ]
      refine wpAnyH_take (i := 13) (oi := _) (v := .pointer (some ⟨kb, off + j * 6 + 1, none⟩)) rfl (by kernel_rfl) (by kernel_rfl) (by kernel_rfl) (fun _ _ _ h => h) (Or.inl ⟨by kernel_rfl, fun w' hSw => ?_⟩) (by assumption) ?_
      · ((try dsimp only at hSw); go_simp; try with_reducible rfl)
      try simp only [Act.put, List.setIfInBounds_toArray, List.set_cons_zero, List.set_cons_succ]
      refine wpAnyH_take (i := 14) (oi := _) (v := .string nm) rfl (by kernel_rfl) (by kernel_rfl) (by kernel_rfl) (fun _ _ _ h => h) (Or.inl ⟨by kernel_rfl, fun w' hSw => ?_⟩) (by assumption) ?_
      · ((try dsimp only at hSw); go_simp; try with_reducible rfl)
      try simp only [Act.put, List.setIfInBounds_toArray, List.set_cons_zero, List.set_cons_succ]
      refine wpAnyH_take (i := 17) (oi := _) (v := .slice (some ⟨kb, off, none⟩) n cap) rfl (by kernel_rfl) (by kernel_rfl) (by kernel_rfl) (fun _ _ _ h => h) (Or.inl ⟨by kernel_rfl, fun w' hSw => ?_⟩) (by assumption) ?_
      · ((try dsimp only at hSw); go_simp; try with_reducible rfl)
      try simp only [Act.put, List.setIfInBounds_toArray, List.set_cons_zero, List.set_cons_succ]
      refine wpAnyH_take (i := 18) (oi := _) (v := .int .i64 (j : Int)) rfl (by kernel_rfl) (by kernel_rfl) (by kernel_rfl) (fun _ _ _ h => h) (Or.inl ⟨by kernel_rfl, fun w' hSw => ?_⟩) (by assumption) ?_
      · ((try dsimp only at hSw); go_simp; try with_reducible rfl)
      try simp only [Act.put, List.setIfInBounds_toArray, List.set_cons_zero, List.set_cons_succ]
      refine wpAnyH_take (i := 19) (oi := _) (v := .pointer (some ⟨kb, off + j * 6, none⟩)) rfl (by kernel_rfl) (by kernel_rfl) (by kernel_rfl) (fun _ _ _ h => h) (Or.inl ⟨by kernel_rfl, fun w' hSw => ?_⟩) (by assumption) ?_
      · ((try dsimp only at hSw); go_simp; try with_reducible rfl)
      try simp only [Act.put, List.setIfInBounds_toArray, List.set_cons_zero, List.set_cons_succ]
      refine wpAnyH_take (i := 20) (oi := _) (v := .pointer (some ⟨kb, off + j * 6 + 2, none⟩)) rfl (by kernel_rfl) (by kernel_rfl) (by kernel_rfl) (fun _ _ _ h => h) (Or.inl ⟨by kernel_rfl, fun w' hSw => ?_⟩) (by assumption) ?_
      · ((try dsimp only at hSw); go_simp; try with_reducible rfl)
      try simp only [Act.put, List.setIfInBounds_toArray, List.set_cons_zero, List.set_cons_succ]
      refine wpAnyH_take (i := 21) (oi := _) (v := .agg #[.int .i64 kk, .int .i64 kn, .string ks, .slice aj km cj]) rfl (by kernel_rfl) (by kernel_rfl) (by kernel_rfl) (fun _ _ _ h => h) (Or.inl ⟨by kernel_rfl, fun w' hSw => ?_⟩) (by assumption) ?_
      · ((try dsimp only at hSw); go_simp; try with_reducible rfl)
      try simp only [Act.put, List.setIfInBounds_toArray, List.set_cons_zero, List.set_cons_succ]
      refine wpAnyH_ready (rs := [1, 22, 25]) (by kernel_rfl) (by simp) ?_
      refine AllReadyH.cons rfl (fun K hK => ?_) (AllReadyH.cons rfl (fun K hK => ?_) (AllReadyH.cons rfl (fun K hK => ?_) AllReadyH.nil))
      · skip
        go_simp
        have HBn1 := Lib.hid (HBn0.out.alloc HBn0.out.size (.cells #[.string ⟨#[]⟩, .string ⟨#[101, 97, 114, 110]⟩, .string ⟨#[116, 97, 107, 101]⟩, .string ⟨#[116, 97, 120]⟩, .string ⟨#[108, 101, 116]⟩] 9))
        have HC1 := Lib.hid (HWT.out V0)
        refine hK.out _ _ (by exact HSW.out _ HBn1.out) (fun hHeld => ?_)
        clear hK K
        try simp only [Act.put, List.setIfInBounds_toArray, List.set_cons_zero, List.set_cons_succ]
        replace hHeld := And.intro hHeld HC1.out
        generalize V0.alloc (.cells #[.string ⟨#[]⟩, .string ⟨#[101, 97, 114, 110]⟩, .string ⟨#[116, 97, 107, 101]⟩, .string ⟨#[116, 97, 120]⟩, .string ⟨#[108, 101, 116]⟩] 9) = V1 at HBn1 HC1 hHeld ⊢
        refine wpAnyH_more (S' := fun w' => (w'.cell? ⟨kb, off + j * 6, none⟩ = some (.int .i64 (t : Int)) ∧ w'.cell? ⟨kb, off + j * 6 + 1, none⟩ = some (.string nm) ∧ w'.cell? ⟨kb, off + j * 6 + 2, none⟩ = some (.int .i64 kk) ∧ w'.cell? ⟨kb, off + j * 6 + 3, none⟩ = some (.int .i64 kn) ∧ w'.cell? ⟨kb, off + j * 6 + 4, none⟩ = some (.string ks) ∧ w'.cell? ⟨kb, off + j * 6 + 5, none⟩ = some (.slice aj km cj)) ∧ w'.cell? ⟨V0.heap.size, t, none⟩ = some (.string L)) (fun _ h => h.1) _ _ _ _ ?_
        refine wpAnyH_take (i := 7) (oi := _) (v := .pointer (some ⟨V0.heap.size, t, none⟩)) rfl (by kernel_rfl) (by kernel_rfl) (by kernel_rfl) (fun _ _ _ h => h) (Or.inl ⟨by kernel_rfl, fun w' hSw => ?_⟩) (by assumption) ?_
        · ((try dsimp only at hSw); go_simp; try with_reducible rfl)
        try simp only [Act.put, List.setIfInBounds_toArray, List.set_cons_zero, List.set_cons_succ]
        refine wpAnyH_take (i := 8) (oi := _) (v := .string L) rfl (by kernel_rfl) (by kernel_rfl) (by kernel_rfl) (fun _ _ _ h => h) (Or.inl ⟨by kernel_rfl, fun w' hSw => ?_⟩) (by assumption) ?_
        · ((try dsimp only at hSw); go_simp; try with_reducible rfl)
        try simp only [Act.put, List.setIfInBounds_toArray, List.set_cons_zero, List.set_cons_succ]
        refine wpAnyH_take (i := 9) (oi := _) (v := .string (L ++ ⟨#[32]⟩)) rfl (by kernel_rfl) (by kernel_rfl) (by kernel_rfl) (fun _ _ _ h => h) (Or.inl ⟨by kernel_rfl, fun w' hSw => ?_⟩) (by assumption) ?_
        · ((try dsimp only at hSw); go_simp; try with_reducible rfl)
        try simp only [Act.put, List.setIfInBounds_toArray, List.set_cons_zero, List.set_cons_succ]
        refine wpAnyH_take (i := 15) (oi := _) (v := .string (L ++ ⟨#[32]⟩ ++ nm)) rfl (by kernel_rfl) (by kernel_rfl) (by kernel_rfl) (fun _ _ _ h => h) (Or.inl ⟨by kernel_rfl, fun w' hSw => ?_⟩) (by assumption) ?_
        · ((try dsimp only at hSw); go_simp; try with_reducible rfl)
        try simp only [Act.put, List.setIfInBounds_toArray, List.set_cons_zero, List.set_cons_succ]
        refine wpAnyH_take (i := 16) (oi := _) (v := .string (L ++ ⟨#[32]⟩ ++ nm ++ ⟨#[32, 61, 32]⟩)) rfl (by kernel_rfl) (by kernel_rfl) (by kernel_rfl) (fun _ _ _ h => h) (Or.inl ⟨by kernel_rfl, fun w' hSw => ?_⟩) (by assumption) ?_
        · ((try dsimp only at hSw); go_simp; try with_reducible rfl)
        try simp only [Act.put, List.setIfInBounds_toArray, List.set_cons_zero, List.set_cons_succ]
        refine wpAnyH_ready (rs := [22, 25]) (by kernel_rfl) (by simp) ?_
        refine AllReadyH.cons rfl (fun K hK => ?_) (AllReadyH.cons rfl (fun K hK => ?_) AllReadyH.nil)
        · skip
          go_simp
          refine (HKJ.out _ HBn1.out).mono ?_
          rintro e V2 ⟨rfl, hb1⟩
          have HBc := Lib.hid hb1
          have HBn2 := Lib.hid (HBn1.out.trans (hb1.mono HBn1.out.size))
          clear hb1
          have HC1n := Lib.hid ((HBc.out.cell (p := ⟨V0.heap.size, t, none⟩) (blt_of_cell HC1.out)).trans HC1.out)
          clear HC1
          have HC1 := HC1n
          clear HC1n
          clear HBc
          try go_wp2_with fail
          refine hK.out _ _ (by exact ⟨HSW.out _ HBn2.out, HC1.out⟩) (fun hHeld => ?_)
          clear hK K
          try simp only [Act.put, List.setIfInBounds_toArray, List.set_cons_zero, List.set_cons_succ]
          refine wpAnyH_take (i := 23) (oi := _) (v := .string (L ++ ⟨#[32]⟩ ++ nm ++ ⟨#[32, 61, 32]⟩ ++ T)) rfl (by kernel_rfl) (by kernel_rfl) (by kernel_rfl) (fun _ _ _ h => h) (Or.inl ⟨by kernel_rfl, fun w' hSw => ?_⟩) (by assumption) ?_
          · ((try dsimp only at hSw); go_simp; try with_reducible rfl)
          try simp only [Act.put, List.setIfInBounds_toArray, List.set_cons_zero, List.set_cons_succ]
          refine wpAnyH_take (i := 24) (oi := _) (v := .string (L ++ ⟨#[32]⟩ ++ nm ++ ⟨#[32, 61, 32]⟩ ++ T ++ ⟨#[32, 59]⟩)) rfl (by kernel_rfl) (by kernel_rfl) (by kernel_rfl) (fun _ _ _ h => h) (Or.inl ⟨by kernel_rfl, fun w' hSw => ?_⟩) (by assumption) ?_
          · ((try dsimp only at hSw); go_simp; try with_reducible rfl)
          try simp only [Act.put, List.setIfInBounds_toArray, List.set_cons_zero, List.set_cons_succ]
          refine wpAnyH_ready (rs := [25]) (by kernel_rfl) (by simp) ?_
          refine AllReadyH.cons rfl (fun K hK => ?_) AllReadyH.nil
          · skip
            go_simp
            have HBn3 := Lib.hid (HBn2.out.alloc HBn2.out.size (.cells #[.int .u8 10] 5))
            have HC1n := Lib.hid (((kbelow_box V2 (.cells #[.int .u8 10] 5)).cell (p := ⟨V0.heap.size, t, none⟩) (blt_of_cell HC1.out)).trans HC1.out)
            clear HC1
            have HC1 := HC1n
            clear HC1n
            have HC25 := Lib.hid (ten_at V2)
            refine hK.out _ _ (by exact ⟨HSW.out _ HBn3.out, HC1.out⟩) (fun hHeld => ?_)
            clear hK K
            try simp only [Act.put, List.setIfInBounds_toArray, List.set_cons_zero, List.set_cons_succ]
            replace hHeld := And.intro hHeld HC25.out
            generalize V2.alloc (.cells #[.int .u8 10] 5) = V3 at HBn3 HC25 hHeld HC1 ⊢
            refine wpAnyH_more (S' := fun w' => ((w'.cell? ⟨kb, off + j * 6, none⟩ = some (.int .i64 (t : Int)) ∧ w'.cell? ⟨kb, off + j * 6 + 1, none⟩ = some (.string nm) ∧ w'.cell? ⟨kb, off + j * 6 + 2, none⟩ = some (.int .i64 kk) ∧ w'.cell? ⟨kb, off + j * 6 + 3, none⟩ = some (.int .i64 kn) ∧ w'.cell? ⟨kb, off + j * 6 + 4, none⟩ = some (.string ks) ∧ w'.cell? ⟨kb, off + j * 6 + 5, none⟩ = some (.slice aj km cj)) ∧ w'.cell? ⟨V0.heap.size, t, none⟩ = some (.string L)) ∧ w'.cell? ⟨V2.heap.size, 0, none⟩ = some (.int .u8 10)) (fun _ h => h.1) _ _ _ _ ?_
            refine wpAnyH_take (i := 26) (oi := _) (v := .string ⟨#[10]⟩) rfl (by kernel_rfl) (by kernel_rfl) (by kernel_rfl) (fun _ _ _ h => h) (Or.inl ⟨by kernel_rfl, fun w' hSw => ?_⟩) (by assumption) ?_
            · have hcv := cv_ten V2.heap.size w' (by first | exact hSw.2 | exact hSw.1.2)
              go_simp
              try with_reducible rfl
            try simp only [Act.put, List.setIfInBounds_toArray, List.set_cons_zero, List.set_cons_succ]
            refine wpAnyH_take (i := 27) (oi := _) (v := .string (L ++ ⟨#[32]⟩ ++ nm ++ ⟨#[32, 61, 32]⟩ ++ T ++ ⟨#[32, 59]⟩ ++ ⟨#[10]⟩)) rfl (by kernel_rfl) (by kernel_rfl) (by kernel_rfl) (fun _ _ _ h => h) (Or.inl ⟨by kernel_rfl, fun w' hSw => ?_⟩) (by assumption) ?_
            · ((try dsimp only at hSw); go_simp; try with_reducible rfl)
            try simp only [Act.put, List.setIfInBounds_toArray, List.set_cons_zero, List.set_cons_succ]
            refine wpAnyH_ready (rs := [28]) (by kernel_rfl) (by simp) ?_
            refine AllReadyH.cons rfl (fun K hK => ?_) AllReadyH.nil
            go_simp
            refine hK.out _ _ (by exact ⟨⟨HSW.out _ HBn3.out, HC1.out⟩, HC25.out⟩) (fun hHeld => ?_)
            clear hK K
            try simp only [Act.put, List.setIfInBounds_toArray, List.set_cons_zero, List.set_cons_succ]
            refine wpAnyH_ready (rs := [29]) (by kernel_rfl) (by simp) ?_
            refine AllReadyH.cons rfl (fun K hK => ?_) AllReadyH.nil
            go_simp
            refine hK.out _ _ (by exact ⟨⟨HSW.out _ HBn3.out, HC1.out⟩, HC25.out⟩) (fun hHeld => ?_)
            clear hK K
            try simp only [Act.put, List.setIfInBounds_toArray, List.set_cons_zero, List.set_cons_succ]
            refine wpAnyH_done (by kernel_rfl) ?_ _
            go_wp2_with fail
            go_roundw
            case rel => exact ⟨j + 1, by omega, by rw [HTX.out], by go_num, HB.out.trans (HBn3.out.mono HB.out.size)⟩
            case measure => simp [intOf]; omega
        · skip
          go_simp
          have HBn2 := Lib.hid (HBn1.out.alloc HBn1.out.size (.cells #[.int .u8 10] 5))
          have HC1n := Lib.hid (((kbelow_box V1 (.cells #[.int .u8 10] 5)).cell (p := ⟨V0.heap.size, t, none⟩) (blt_of_cell HC1.out)).trans HC1.out)
          clear HC1
          have HC1 := HC1n
          clear HC1n
          have HC25 := Lib.hid (ten_at V1)
          refine hK.out _ _ (by exact ⟨HSW.out _ HBn2.out, HC1.out⟩) (fun hHeld => ?_)
          clear hK K
          try simp only [Act.put, List.setIfInBounds_toArray, List.set_cons_zero, List.set_cons_succ]
          replace hHeld := And.intro hHeld HC25.out
          generalize V1.alloc (.cells #[.int .u8 10] 5) = V2 at HBn2 HC25 hHeld HC1 ⊢
          refine wpAnyH_more (S' := fun w' => ((w'.cell? ⟨kb, off + j * 6, none⟩ = some (.int .i64 (t : Int)) ∧ w'.cell? ⟨kb, off + j * 6 + 1, none⟩ = some (.string nm) ∧ w'.cell? ⟨kb, off + j * 6 + 2, none⟩ = some (.int .i64 kk) ∧ w'.cell? ⟨kb, off + j * 6 + 3, none⟩ = some (.int .i64 kn) ∧ w'.cell? ⟨kb, off + j * 6 + 4, none⟩ = some (.string ks) ∧ w'.cell? ⟨kb, off + j * 6 + 5, none⟩ = some (.slice aj km cj)) ∧ w'.cell? ⟨V0.heap.size, t, none⟩ = some (.string L)) ∧ w'.cell? ⟨V1.heap.size, 0, none⟩ = some (.int .u8 10)) (fun _ h => h.1) _ _ _ _ ?_
          refine wpAnyH_take (i := 26) (oi := _) (v := .string ⟨#[10]⟩) rfl (by kernel_rfl) (by kernel_rfl) (by kernel_rfl) (fun _ _ _ h => h) (Or.inl ⟨by kernel_rfl, fun w' hSw => ?_⟩) (by assumption) ?_
          · have hcv := cv_ten V1.heap.size w' (by first | exact hSw.2 | exact hSw.1.2)
            go_simp
            try with_reducible rfl
          try simp only [Act.put, List.setIfInBounds_toArray, List.set_cons_zero, List.set_cons_succ]
          refine wpAnyH_ready (rs := [22]) (by kernel_rfl) (by simp) ?_
          refine AllReadyH.cons rfl (fun K hK => ?_) AllReadyH.nil
          · skip
            go_simp
            refine (HKJ.out _ HBn2.out).mono ?_
            rintro e V3 ⟨rfl, hb1⟩
            have HBc := Lib.hid hb1
            have HBn3 := Lib.hid (HBn2.out.trans (hb1.mono HBn2.out.size))
            clear hb1
            have HC1n := Lib.hid ((HBc.out.cell (p := ⟨V0.heap.size, t, none⟩) (blt_of_cell HC1.out)).trans HC1.out)
            clear HC1
            have HC1 := HC1n
            clear HC1n
            have HC25n := Lib.hid ((HBc.out.cell (p := ⟨V1.heap.size, 0, none⟩) (blt_of_cell HC25.out)).trans HC25.out)
            clear HC25
            have HC25 := HC25n
            clear HC25n
            clear HBc
            try go_wp2_with fail
            refine hK.out _ _ (by exact ⟨⟨HSW.out _ HBn3.out, HC1.out⟩, HC25.out⟩) (fun hHeld => ?_)
            clear hK K
            try simp only [Act.put, List.setIfInBounds_toArray, List.set_cons_zero, List.set_cons_succ]
            refine wpAnyH_take (i := 23) (oi := _) (v := .string (L ++ ⟨#[32]⟩ ++ nm ++ ⟨#[32, 61, 32]⟩ ++ T)) rfl (by kernel_rfl) (by kernel_rfl) (by kernel_rfl) (fun _ _ _ h => h) (Or.inl ⟨by kernel_rfl, fun w' hSw => ?_⟩) (by assumption) ?_
            · ((try dsimp only at hSw); go_simp; try with_reducible rfl)
            try simp only [Act.put, List.setIfInBounds_toArray, List.set_cons_zero, List.set_cons_succ]
            refine wpAnyH_take (i := 24) (oi := _) (v := .string (L ++ ⟨#[32]⟩ ++ nm ++ ⟨#[32, 61, 32]⟩ ++ T ++ ⟨#[32, 59]⟩)) rfl (by kernel_rfl) (by kernel_rfl) (by kernel_rfl) (fun _ _ _ h => h) (Or.inl ⟨by kernel_rfl, fun w' hSw => ?_⟩) (by assumption) ?_
            · ((try dsimp only at hSw); go_simp; try with_reducible rfl)
            try simp only [Act.put, List.setIfInBounds_toArray, List.set_cons_zero, List.set_cons_succ]
            refine wpAnyH_take (i := 27) (oi := _) (v := .string (L ++ ⟨#[32]⟩ ++ nm ++ ⟨#[32, 61, 32]⟩ ++ T ++ ⟨#[32, 59]⟩ ++ ⟨#[10]⟩)) rfl (by kernel_rfl) (by kernel_rfl) (by kernel_rfl) (fun _ _ _ h => h) (Or.inl ⟨by kernel_rfl, fun w' hSw => ?_⟩) (by assumption) ?_
            · ((try dsimp only at hSw); go_simp; try with_reducible rfl)
            try simp only [Act.put, List.setIfInBounds_toArray, List.set_cons_zero, List.set_cons_succ]
            refine wpAnyH_ready (rs := [28]) (by kernel_rfl) (by simp) ?_
            refine AllReadyH.cons rfl (fun K hK => ?_) AllReadyH.nil
            go_simp
            refine hK.out _ _ (by exact ⟨⟨HSW.out _ HBn3.out, HC1.out⟩, HC25.out⟩) (fun hHeld => ?_)
            clear hK K
            try simp only [Act.put, List.setIfInBounds_toArray, List.set_cons_zero, List.set_cons_succ]
            refine wpAnyH_ready (rs := [29]) (by kernel_rfl) (by simp) ?_
            refine AllReadyH.cons rfl (fun K hK => ?_) AllReadyH.nil
            go_simp
            refine hK.out _ _ (by exact ⟨⟨HSW.out _ HBn3.out, HC1.out⟩, HC25.out⟩) (fun hHeld => ?_)
            clear hK K
            try simp only [Act.put, List.setIfInBounds_toArray, List.set_cons_zero, List.set_cons_succ]
            refine wpAnyH_done (by kernel_rfl) ?_ _
            go_wp2_with fail
            go_roundw
            case rel => exact ⟨j + 1, by omega, by rw [HTX.out], by go_num, HB.out.trans (HBn3.out.mono HB.out.size)⟩
            case measure => simp [intOf]; omega
      · skip
        go_simp
        refine (HKJ.out _ HBn0.out).mono ?_
        rintro e V1 ⟨rfl, hb1⟩
        have HBc := Lib.hid hb1
        have HBn1 := Lib.hid (HBn0.out.trans (hb1.mono HBn0.out.size))
        clear hb1
        clear HBc
        try go_wp2_with fail
        refine hK.out _ _ (by exact HSW.out _ HBn1.out) (fun hHeld => ?_)
        clear hK K
        try simp only [Act.put, List.setIfInBounds_toArray, List.set_cons_zero, List.set_cons_succ]
        refine wpAnyH_ready (rs := [1, 25]) (by kernel_rfl) (by simp) ?_
        refine AllReadyH.cons rfl (fun K hK => ?_) (AllReadyH.cons rfl (fun K hK => ?_) AllReadyH.nil)
        · skip
          go_simp
          have HBn2 := Lib.hid (HBn1.out.alloc HBn1.out.size (.cells #[.string ⟨#[]⟩, .string ⟨#[101, 97, 114, 110]⟩, .string ⟨#[116, 97, 107, 101]⟩, .string ⟨#[116, 97, 120]⟩, .string ⟨#[108, 101, 116]⟩] 9))
          have HC1 := Lib.hid (HWT.out V1)
          refine hK.out _ _ (by exact HSW.out _ HBn2.out) (fun hHeld => ?_)
          clear hK K
          try simp only [Act.put, List.setIfInBounds_toArray, List.set_cons_zero, List.set_cons_succ]
          replace hHeld := And.intro hHeld HC1.out
          generalize V1.alloc (.cells #[.string ⟨#[]⟩, .string ⟨#[101, 97, 114, 110]⟩, .string ⟨#[116, 97, 107, 101]⟩, .string ⟨#[116, 97, 120]⟩, .string ⟨#[108, 101, 116]⟩] 9) = V2 at HBn2 HC1 hHeld ⊢
          refine wpAnyH_more (S' := fun w' => (w'.cell? ⟨kb, off + j * 6, none⟩ = some (.int .i64 (t : Int)) ∧ w'.cell? ⟨kb, off + j * 6 + 1, none⟩ = some (.string nm) ∧ w'.cell? ⟨kb, off + j * 6 + 2, none⟩ = some (.int .i64 kk) ∧ w'.cell? ⟨kb, off + j * 6 + 3, none⟩ = some (.int .i64 kn) ∧ w'.cell? ⟨kb, off + j * 6 + 4, none⟩ = some (.string ks) ∧ w'.cell? ⟨kb, off + j * 6 + 5, none⟩ = some (.slice aj km cj)) ∧ w'.cell? ⟨V1.heap.size, t, none⟩ = some (.string L)) (fun _ h => h.1) _ _ _ _ ?_
          refine wpAnyH_take (i := 7) (oi := _) (v := .pointer (some ⟨V1.heap.size, t, none⟩)) rfl (by kernel_rfl) (by kernel_rfl) (by kernel_rfl) (fun _ _ _ h => h) (Or.inl ⟨by kernel_rfl, fun w' hSw => ?_⟩) (by assumption) ?_
          · ((try dsimp only at hSw); go_simp; try with_reducible rfl)
          try simp only [Act.put, List.setIfInBounds_toArray, List.set_cons_zero, List.set_cons_succ]
          refine wpAnyH_take (i := 8) (oi := _) (v := .string L) rfl (by kernel_rfl) (by kernel_rfl) (by kernel_rfl) (fun _ _ _ h => h) (Or.inl ⟨by kernel_rfl, fun w' hSw => ?_⟩) (by assumption) ?_
          · ((try dsimp only at hSw); go_simp; try with_reducible rfl)
          try simp only [Act.put, List.setIfInBounds_toArray, List.set_cons_zero, List.set_cons_succ]
          refine wpAnyH_take (i := 9) (oi := _) (v := .string (L ++ ⟨#[32]⟩)) rfl (by kernel_rfl) (by kernel_rfl) (by kernel_rfl) (fun _ _ _ h => h) (Or.inl ⟨by kernel_rfl, fun w' hSw => ?_⟩) (by assumption) ?_
          · ((try dsimp only at hSw); go_simp; try with_reducible rfl)
          try simp only [Act.put, List.setIfInBounds_toArray, List.set_cons_zero, List.set_cons_succ]
          refine wpAnyH_take (i := 15) (oi := _) (v := .string (L ++ ⟨#[32]⟩ ++ nm)) rfl (by kernel_rfl) (by kernel_rfl) (by kernel_rfl) (fun _ _ _ h => h) (Or.inl ⟨by kernel_rfl, fun w' hSw => ?_⟩) (by assumption) ?_
          · ((try dsimp only at hSw); go_simp; try with_reducible rfl)
          try simp only [Act.put, List.setIfInBounds_toArray, List.set_cons_zero, List.set_cons_succ]
          refine wpAnyH_take (i := 16) (oi := _) (v := .string (L ++ ⟨#[32]⟩ ++ nm ++ ⟨#[32, 61, 32]⟩)) rfl (by kernel_rfl) (by kernel_rfl) (by kernel_rfl) (fun _ _ _ h => h) (Or.inl ⟨by kernel_rfl, fun w' hSw => ?_⟩) (by assumption) ?_
          · ((try dsimp only at hSw); go_simp; try with_reducible rfl)
          try simp only [Act.put, List.setIfInBounds_toArray, List.set_cons_zero, List.set_cons_succ]
          refine wpAnyH_take (i := 23) (oi := _) (v := .string (L ++ ⟨#[32]⟩ ++ nm ++ ⟨#[32, 61, 32]⟩ ++ T)) rfl (by kernel_rfl) (by kernel_rfl) (by kernel_rfl) (fun _ _ _ h => h) (Or.inl ⟨by kernel_rfl, fun w' hSw => ?_⟩) (by assumption) ?_
          · ((try dsimp only at hSw); go_simp; try with_reducible rfl)
          try simp only [Act.put, List.setIfInBounds_toArray, List.set_cons_zero, List.set_cons_succ]
          refine wpAnyH_take (i := 24) (oi := _) (v := .string (L ++ ⟨#[32]⟩ ++ nm ++ ⟨#[32, 61, 32]⟩ ++ T ++ ⟨#[32, 59]⟩)) rfl (by kernel_rfl) (by kernel_rfl) (by kernel_rfl) (fun _ _ _ h => h) (Or.inl ⟨by kernel_rfl, fun w' hSw => ?_⟩) (by assumption) ?_
          · ((try dsimp only at hSw); go_simp; try with_reducible rfl)
          try simp only [Act.put, List.setIfInBounds_toArray, List.set_cons_zero, List.set_cons_succ]
          refine wpAnyH_ready (rs := [25]) (by kernel_rfl) (by simp) ?_
          refine AllReadyH.cons rfl (fun K hK => ?_) AllReadyH.nil
          · skip
            go_simp
            have HBn3 := Lib.hid (HBn2.out.alloc HBn2.out.size (.cells #[.int .u8 10] 5))
            have HC1n := Lib.hid (((kbelow_box V2 (.cells #[.int .u8 10] 5)).cell (p := ⟨V1.heap.size, t, none⟩) (blt_of_cell HC1.out)).trans HC1.out)
            clear HC1
            have HC1 := HC1n
            clear HC1n
            have HC25 := Lib.hid (ten_at V2)
            refine hK.out _ _ (by exact ⟨HSW.out _ HBn3.out, HC1.out⟩) (fun hHeld => ?_)
            clear hK K
            try simp only [Act.put, List.setIfInBounds_toArray, List.set_cons_zero, List.set_cons_succ]
            replace hHeld := And.intro hHeld HC25.out
            generalize V2.alloc (.cells #[.int .u8 10] 5) = V3 at HBn3 HC25 hHeld HC1 ⊢
            refine wpAnyH_more (S' := fun w' => ((w'.cell? ⟨kb, off + j * 6, none⟩ = some (.int .i64 (t : Int)) ∧ w'.cell? ⟨kb, off + j * 6 + 1, none⟩ = some (.string nm) ∧ w'.cell? ⟨kb, off + j * 6 + 2, none⟩ = some (.int .i64 kk) ∧ w'.cell? ⟨kb, off + j * 6 + 3, none⟩ = some (.int .i64 kn) ∧ w'.cell? ⟨kb, off + j * 6 + 4, none⟩ = some (.string ks) ∧ w'.cell? ⟨kb, off + j * 6 + 5, none⟩ = some (.slice aj km cj)) ∧ w'.cell? ⟨V1.heap.size, t, none⟩ = some (.string L)) ∧ w'.cell? ⟨V2.heap.size, 0, none⟩ = some (.int .u8 10)) (fun _ h => h.1) _ _ _ _ ?_
            refine wpAnyH_take (i := 26) (oi := _) (v := .string ⟨#[10]⟩) rfl (by kernel_rfl) (by kernel_rfl) (by kernel_rfl) (fun _ _ _ h => h) (Or.inl ⟨by kernel_rfl, fun w' hSw => ?_⟩) (by assumption) ?_
            · have hcv := cv_ten V2.heap.size w' (by first | exact hSw.2 | exact hSw.1.2)
              go_simp
              try with_reducible rfl
            try simp only [Act.put, List.setIfInBounds_toArray, List.set_cons_zero, List.set_cons_succ]
            refine wpAnyH_take (i := 27) (oi := _) (v := .string (L ++ ⟨#[32]⟩ ++ nm ++ ⟨#[32, 61, 32]⟩ ++ T ++ ⟨#[32, 59]⟩ ++ ⟨#[10]⟩)) rfl (by kernel_rfl) (by kernel_rfl) (by kernel_rfl) (fun _ _ _ h => h) (Or.inl ⟨by kernel_rfl, fun w' hSw => ?_⟩) (by assumption) ?_
            · ((try dsimp only at hSw); go_simp; try with_reducible rfl)
            try simp only [Act.put, List.setIfInBounds_toArray, List.set_cons_zero, List.set_cons_succ]
            refine wpAnyH_ready (rs := [28]) (by kernel_rfl) (by simp) ?_
            refine AllReadyH.cons rfl (fun K hK => ?_) AllReadyH.nil
            go_simp
            refine hK.out _ _ (by exact ⟨⟨HSW.out _ HBn3.out, HC1.out⟩, HC25.out⟩) (fun hHeld => ?_)
            clear hK K
            try simp only [Act.put, List.setIfInBounds_toArray, List.set_cons_zero, List.set_cons_succ]
            refine wpAnyH_ready (rs := [29]) (by kernel_rfl) (by simp) ?_
            refine AllReadyH.cons rfl (fun K hK => ?_) AllReadyH.nil
            go_simp
            refine hK.out _ _ (by exact ⟨⟨HSW.out _ HBn3.out, HC1.out⟩, HC25.out⟩) (fun hHeld => ?_)
            clear hK K
            try simp only [Act.put, List.setIfInBounds_toArray, List.set_cons_zero, List.set_cons_succ]
            refine wpAnyH_done (by kernel_rfl) ?_ _
            go_wp2_with fail
            go_roundw
            case rel => exact ⟨j + 1, by omega, by rw [HTX.out], by go_num, HB.out.trans (HBn3.out.mono HB.out.size)⟩
            case measure => simp [intOf]; omega
        · skip
          go_simp
          have HBn2 := Lib.hid (HBn1.out.alloc HBn1.out.size (.cells #[.int .u8 10] 5))
          have HC25 := Lib.hid (ten_at V1)
          refine hK.out _ _ (by exact HSW.out _ HBn2.out) (fun hHeld => ?_)
          clear hK K
          try simp only [Act.put, List.setIfInBounds_toArray, List.set_cons_zero, List.set_cons_succ]
          replace hHeld := And.intro hHeld HC25.out
          generalize V1.alloc (.cells #[.int .u8 10] 5) = V2 at HBn2 HC25 hHeld ⊢
          refine wpAnyH_more (S' := fun w' => (w'.cell? ⟨kb, off + j * 6, none⟩ = some (.int .i64 (t : Int)) ∧ w'.cell? ⟨kb, off + j * 6 + 1, none⟩ = some (.string nm) ∧ w'.cell? ⟨kb, off + j * 6 + 2, none⟩ = some (.int .i64 kk) ∧ w'.cell? ⟨kb, off + j * 6 + 3, none⟩ = some (.int .i64 kn) ∧ w'.cell? ⟨kb, off + j * 6 + 4, none⟩ = some (.string ks) ∧ w'.cell? ⟨kb, off + j * 6 + 5, none⟩ = some (.slice aj km cj)) ∧ w'.cell? ⟨V1.heap.size, 0, none⟩ = some (.int .u8 10)) (fun _ h => h.1) _ _ _ _ ?_
          refine wpAnyH_take (i := 26) (oi := _) (v := .string ⟨#[10]⟩) rfl (by kernel_rfl) (by kernel_rfl) (by kernel_rfl) (fun _ _ _ h => h) (Or.inl ⟨by kernel_rfl, fun w' hSw => ?_⟩) (by assumption) ?_
          · have hcv := cv_ten V1.heap.size w' (by first | exact hSw.2 | exact hSw.1.2)
            go_simp
            try with_reducible rfl
          try simp only [Act.put, List.setIfInBounds_toArray, List.set_cons_zero, List.set_cons_succ]
          refine wpAnyH_ready (rs := [1]) (by kernel_rfl) (by simp) ?_
          refine AllReadyH.cons rfl (fun K hK => ?_) AllReadyH.nil
          · skip
            go_simp
            have HBn3 := Lib.hid (HBn2.out.alloc HBn2.out.size (.cells #[.string ⟨#[]⟩, .string ⟨#[101, 97, 114, 110]⟩, .string ⟨#[116, 97, 107, 101]⟩, .string ⟨#[116, 97, 120]⟩, .string ⟨#[108, 101, 116]⟩] 9))
            have HC25n := Lib.hid (((kbelow_box V2 (.cells #[.string ⟨#[]⟩, .string ⟨#[101, 97, 114, 110]⟩, .string ⟨#[116, 97, 107, 101]⟩, .string ⟨#[116, 97, 120]⟩, .string ⟨#[108, 101, 116]⟩] 9)).cell (p := ⟨V1.heap.size, 0, none⟩) (blt_of_cell HC25.out)).trans HC25.out)
            clear HC25
            have HC25 := HC25n
            clear HC25n
            have HC1 := Lib.hid (HWT.out V2)
            refine hK.out _ _ (by exact ⟨HSW.out _ HBn3.out, HC25.out⟩) (fun hHeld => ?_)
            clear hK K
            try simp only [Act.put, List.setIfInBounds_toArray, List.set_cons_zero, List.set_cons_succ]
            replace hHeld := And.intro hHeld HC1.out
            generalize V2.alloc (.cells #[.string ⟨#[]⟩, .string ⟨#[101, 97, 114, 110]⟩, .string ⟨#[116, 97, 107, 101]⟩, .string ⟨#[116, 97, 120]⟩, .string ⟨#[108, 101, 116]⟩] 9) = V3 at HBn3 HC1 hHeld HC25 ⊢
            refine wpAnyH_more (S' := fun w' => ((w'.cell? ⟨kb, off + j * 6, none⟩ = some (.int .i64 (t : Int)) ∧ w'.cell? ⟨kb, off + j * 6 + 1, none⟩ = some (.string nm) ∧ w'.cell? ⟨kb, off + j * 6 + 2, none⟩ = some (.int .i64 kk) ∧ w'.cell? ⟨kb, off + j * 6 + 3, none⟩ = some (.int .i64 kn) ∧ w'.cell? ⟨kb, off + j * 6 + 4, none⟩ = some (.string ks) ∧ w'.cell? ⟨kb, off + j * 6 + 5, none⟩ = some (.slice aj km cj)) ∧ w'.cell? ⟨V1.heap.size, 0, none⟩ = some (.int .u8 10)) ∧ w'.cell? ⟨V2.heap.size, t, none⟩ = some (.string L)) (fun _ h => h.1) _ _ _ _ ?_
            refine wpAnyH_take (i := 7) (oi := _) (v := .pointer (some ⟨V2.heap.size, t, none⟩)) rfl (by kernel_rfl) (by kernel_rfl) (by kernel_rfl) (fun _ _ _ h => h) (Or.inl ⟨by kernel_rfl, fun w' hSw => ?_⟩) (by assumption) ?_
            · ((try dsimp only at hSw); go_simp; try with_reducible rfl)
            try simp only [Act.put, List.setIfInBounds_toArray, List.set_cons_zero, List.set_cons_succ]
            refine wpAnyH_take (i := 8) (oi := _) (v := .string L) rfl (by kernel_rfl) (by kernel_rfl) (by kernel_rfl) (fun _ _ _ h => h) (Or.inl ⟨by kernel_rfl, fun w' hSw => ?_⟩) (by assumption) ?_
            · ((try dsimp only at hSw); go_simp; try with_reducible rfl)
            try simp only [Act.put, List.setIfInBounds_toArray, List.set_cons_zero, List.set_cons_succ]
            refine wpAnyH_take (i := 9) (oi := _) (v := .string (L ++ ⟨#[32]⟩)) rfl (by kernel_rfl) (by kernel_rfl) (by kernel_rfl) (fun _ _ _ h => h) (Or.inl ⟨by kernel_rfl, fun w' hSw => ?_⟩) (by assumption) ?_
            · ((try dsimp only at hSw); go_simp; try with_reducible rfl)
            try simp only [Act.put, List.setIfInBounds_toArray, List.set_cons_zero, List.set_cons_succ]
            refine wpAnyH_take (i := 15) (oi := _) (v := .string (L ++ ⟨#[32]⟩ ++ nm)) rfl (by kernel_rfl) (by kernel_rfl) (by kernel_rfl) (fun _ _ _ h => h) (Or.inl ⟨by kernel_rfl, fun w' hSw => ?_⟩) (by assumption) ?_
            · ((try dsimp only at hSw); go_simp; try with_reducible rfl)
            try simp only [Act.put, List.setIfInBounds_toArray, List.set_cons_zero, List.set_cons_succ]
            refine wpAnyH_take (i := 16) (oi := _) (v := .string (L ++ ⟨#[32]⟩ ++ nm ++ ⟨#[32, 61, 32]⟩)) rfl (by kernel_rfl) (by kernel_rfl) (by kernel_rfl) (fun _ _ _ h => h) (Or.inl ⟨by kernel_rfl, fun w' hSw => ?_⟩) (by assumption) ?_
            · ((try dsimp only at hSw); go_simp; try with_reducible rfl)
            try simp only [Act.put, List.setIfInBounds_toArray, List.set_cons_zero, List.set_cons_succ]
            refine wpAnyH_take (i := 23) (oi := _) (v := .string (L ++ ⟨#[32]⟩ ++ nm ++ ⟨#[32, 61, 32]⟩ ++ T)) rfl (by kernel_rfl) (by kernel_rfl) (by kernel_rfl) (fun _ _ _ h => h) (Or.inl ⟨by kernel_rfl, fun w' hSw => ?_⟩) (by assumption) ?_
            · ((try dsimp only at hSw); go_simp; try with_reducible rfl)
            try simp only [Act.put, List.setIfInBounds_toArray, List.set_cons_zero, List.set_cons_succ]
            refine wpAnyH_take (i := 24) (oi := _) (v := .string (L ++ ⟨#[32]⟩ ++ nm ++ ⟨#[32, 61, 32]⟩ ++ T ++ ⟨#[32, 59]⟩)) rfl (by kernel_rfl) (by kernel_rfl) (by kernel_rfl) (fun _ _ _ h => h) (Or.inl ⟨by kernel_rfl, fun w' hSw => ?_⟩) (by assumption) ?_
            · ((try dsimp only at hSw); go_simp; try with_reducible rfl)
            try simp only [Act.put, List.setIfInBounds_toArray, List.set_cons_zero, List.set_cons_succ]
            refine wpAnyH_take (i := 27) (oi := _) (v := .string (L ++ ⟨#[32]⟩ ++ nm ++ ⟨#[32, 61, 32]⟩ ++ T ++ ⟨#[32, 59]⟩ ++ ⟨#[10]⟩)) rfl (by kernel_rfl) (by kernel_rfl) (by kernel_rfl) (fun _ _ _ h => h) (Or.inl ⟨by kernel_rfl, fun w' hSw => ?_⟩) (by assumption) ?_
            · ((try dsimp only at hSw); go_simp; try with_reducible rfl)
            try simp only [Act.put, List.setIfInBounds_toArray, List.set_cons_zero, List.set_cons_succ]
            refine wpAnyH_ready (rs := [28]) (by kernel_rfl) (by simp) ?_
            refine AllReadyH.cons rfl (fun K hK => ?_) AllReadyH.nil
            go_simp
            refine hK.out _ _ (by exact ⟨⟨HSW.out _ HBn3.out, HC25.out⟩, HC1.out⟩) (fun hHeld => ?_)
            clear hK K
            try simp only [Act.put, List.setIfInBounds_toArray, List.set_cons_zero, List.set_cons_succ]
            refine wpAnyH_ready (rs := [29]) (by kernel_rfl) (by simp) ?_
            refine AllReadyH.cons rfl (fun K hK => ?_) AllReadyH.nil
            go_simp
            refine hK.out _ _ (by exact ⟨⟨HSW.out _ HBn3.out, HC25.out⟩, HC1.out⟩) (fun hHeld => ?_)
            clear hK K
            try simp only [Act.put, List.setIfInBounds_toArray, List.set_cons_zero, List.set_cons_succ]
            refine wpAnyH_done (by kernel_rfl) ?_ _
            go_wp2_with fail
            go_roundw
            case rel => exact ⟨j + 1, by omega, by rw [HTX.out], by go_num, HB.out.trans (HBn3.out.mono HB.out.size)⟩
            case measure => simp [intOf]; omega
      · skip
        go_simp
        have HBn1 := Lib.hid (HBn0.out.alloc HBn0.out.size (.cells #[.int .u8 10] 5))
        have HC25 := Lib.hid (ten_at V0)
        refine hK.out _ _ (by exact HSW.out _ HBn1.out) (fun hHeld => ?_)
        clear hK K
        try simp only [Act.put, List.setIfInBounds_toArray, List.set_cons_zero, List.set_cons_succ]
        replace hHeld := And.intro hHeld HC25.out
        generalize V0.alloc (.cells #[.int .u8 10] 5) = V1 at HBn1 HC25 hHeld ⊢
        refine wpAnyH_more (S' := fun w' => (w'.cell? ⟨kb, off + j * 6, none⟩ = some (.int .i64 (t : Int)) ∧ w'.cell? ⟨kb, off + j * 6 + 1, none⟩ = some (.string nm) ∧ w'.cell? ⟨kb, off + j * 6 + 2, none⟩ = some (.int .i64 kk) ∧ w'.cell? ⟨kb, off + j * 6 + 3, none⟩ = some (.int .i64 kn) ∧ w'.cell? ⟨kb, off + j * 6 + 4, none⟩ = some (.string ks) ∧ w'.cell? ⟨kb, off + j * 6 + 5, none⟩ = some (.slice aj km cj)) ∧ w'.cell? ⟨V0.heap.size, 0, none⟩ = some (.int .u8 10)) (fun _ h => h.1) _ _ _ _ ?_
        refine wpAnyH_take (i := 26) (oi := _) (v := .string ⟨#[10]⟩) rfl (by kernel_rfl) (by kernel_rfl) (by kernel_rfl) (fun _ _ _ h => h) (Or.inl ⟨by kernel_rfl, fun w' hSw => ?_⟩) (by assumption) ?_
        · have hcv := cv_ten V0.heap.size w' (by first | exact hSw.2 | exact hSw.1.2)
          go_simp
          try with_reducible rfl
        try simp only [Act.put, List.setIfInBounds_toArray, List.set_cons_zero, List.set_cons_succ]
        refine wpAnyH_ready (rs := [1, 22]) (by kernel_rfl) (by simp) ?_
        refine AllReadyH.cons rfl (fun K hK => ?_) (AllReadyH.cons rfl (fun K hK => ?_) AllReadyH.nil)
        · skip
          go_simp
          have HBn2 := Lib.hid (HBn1.out.alloc HBn1.out.size (.cells #[.string ⟨#[]⟩, .string ⟨#[101, 97, 114, 110]⟩, .string ⟨#[116, 97, 107, 101]⟩, .string ⟨#[116, 97, 120]⟩, .string ⟨#[108, 101, 116]⟩] 9))
          have HC25n := Lib.hid (((kbelow_box V1 (.cells #[.string ⟨#[]⟩, .string ⟨#[101, 97, 114, 110]⟩, .string ⟨#[116, 97, 107, 101]⟩, .string ⟨#[116, 97, 120]⟩, .string ⟨#[108, 101, 116]⟩] 9)).cell (p := ⟨V0.heap.size, 0, none⟩) (blt_of_cell HC25.out)).trans HC25.out)
          clear HC25
          have HC25 := HC25n
          clear HC25n
          have HC1 := Lib.hid (HWT.out V1)
          refine hK.out _ _ (by exact ⟨HSW.out _ HBn2.out, HC25.out⟩) (fun hHeld => ?_)
          clear hK K
          try simp only [Act.put, List.setIfInBounds_toArray, List.set_cons_zero, List.set_cons_succ]
          replace hHeld := And.intro hHeld HC1.out
          generalize V1.alloc (.cells #[.string ⟨#[]⟩, .string ⟨#[101, 97, 114, 110]⟩, .string ⟨#[116, 97, 107, 101]⟩, .string ⟨#[116, 97, 120]⟩, .string ⟨#[108, 101, 116]⟩] 9) = V2 at HBn2 HC1 hHeld HC25 ⊢
          refine wpAnyH_more (S' := fun w' => ((w'.cell? ⟨kb, off + j * 6, none⟩ = some (.int .i64 (t : Int)) ∧ w'.cell? ⟨kb, off + j * 6 + 1, none⟩ = some (.string nm) ∧ w'.cell? ⟨kb, off + j * 6 + 2, none⟩ = some (.int .i64 kk) ∧ w'.cell? ⟨kb, off + j * 6 + 3, none⟩ = some (.int .i64 kn) ∧ w'.cell? ⟨kb, off + j * 6 + 4, none⟩ = some (.string ks) ∧ w'.cell? ⟨kb, off + j * 6 + 5, none⟩ = some (.slice aj km cj)) ∧ w'.cell? ⟨V0.heap.size, 0, none⟩ = some (.int .u8 10)) ∧ w'.cell? ⟨V1.heap.size, t, none⟩ = some (.string L)) (fun _ h => h.1) _ _ _ _ ?_
          refine wpAnyH_take (i := 7) (oi := _) (v := .pointer (some ⟨V1.heap.size, t, none⟩)) rfl (by kernel_rfl) (by kernel_rfl) (by kernel_rfl) (fun _ _ _ h => h) (Or.inl ⟨by kernel_rfl, fun w' hSw => ?_⟩) (by assumption) ?_
          · ((try dsimp only at hSw); go_simp; try with_reducible rfl)
          try simp only [Act.put, List.setIfInBounds_toArray, List.set_cons_zero, List.set_cons_succ]
          refine wpAnyH_take (i := 8) (oi := _) (v := .string L) rfl (by kernel_rfl) (by kernel_rfl) (by kernel_rfl) (fun _ _ _ h => h) (Or.inl ⟨by kernel_rfl, fun w' hSw => ?_⟩) (by assumption) ?_
          · ((try dsimp only at hSw); go_simp; try with_reducible rfl)
          try simp only [Act.put, List.setIfInBounds_toArray, List.set_cons_zero, List.set_cons_succ]
          refine wpAnyH_take (i := 9) (oi := _) (v := .string (L ++ ⟨#[32]⟩)) rfl (by kernel_rfl) (by kernel_rfl) (by kernel_rfl) (fun _ _ _ h => h) (Or.inl ⟨by kernel_rfl, fun w' hSw => ?_⟩) (by assumption) ?_
          · ((try dsimp only at hSw); go_simp; try with_reducible rfl)
          try simp only [Act.put, List.setIfInBounds_toArray, List.set_cons_zero, List.set_cons_succ]
          refine wpAnyH_take (i := 15) (oi := _) (v := .string (L ++ ⟨#[32]⟩ ++ nm)) rfl (by kernel_rfl) (by kernel_rfl) (by kernel_rfl) (fun _ _ _ h => h) (Or.inl ⟨by kernel_rfl, fun w' hSw => ?_⟩) (by assumption) ?_
          · ((try dsimp only at hSw); go_simp; try with_reducible rfl)
          try simp only [Act.put, List.setIfInBounds_toArray, List.set_cons_zero, List.set_cons_succ]
          refine wpAnyH_take (i := 16) (oi := _) (v := .string (L ++ ⟨#[32]⟩ ++ nm ++ ⟨#[32, 61, 32]⟩)) rfl (by kernel_rfl) (by kernel_rfl) (by kernel_rfl) (fun _ _ _ h => h) (Or.inl ⟨by kernel_rfl, fun w' hSw => ?_⟩) (by assumption) ?_
          · ((try dsimp only at hSw); go_simp; try with_reducible rfl)
          try simp only [Act.put, List.setIfInBounds_toArray, List.set_cons_zero, List.set_cons_succ]
          refine wpAnyH_ready (rs := [22]) (by kernel_rfl) (by simp) ?_
          refine AllReadyH.cons rfl (fun K hK => ?_) AllReadyH.nil
          · skip
            go_simp
            refine (HKJ.out _ HBn2.out).mono ?_
            rintro e V3 ⟨rfl, hb1⟩
            have HBc := Lib.hid hb1
            have HBn3 := Lib.hid (HBn2.out.trans (hb1.mono HBn2.out.size))
            clear hb1
            have HC25n := Lib.hid ((HBc.out.cell (p := ⟨V0.heap.size, 0, none⟩) (blt_of_cell HC25.out)).trans HC25.out)
            clear HC25
            have HC25 := HC25n
            clear HC25n
            have HC1n := Lib.hid ((HBc.out.cell (p := ⟨V1.heap.size, t, none⟩) (blt_of_cell HC1.out)).trans HC1.out)
            clear HC1
            have HC1 := HC1n
            clear HC1n
            clear HBc
            try go_wp2_with fail
            refine hK.out _ _ (by exact ⟨⟨HSW.out _ HBn3.out, HC25.out⟩, HC1.out⟩) (fun hHeld => ?_)
            clear hK K
            try simp only [Act.put, List.setIfInBounds_toArray, List.set_cons_zero, List.set_cons_succ]
            refine wpAnyH_take (i := 23) (oi := _) (v := .string (L ++ ⟨#[32]⟩ ++ nm ++ ⟨#[32, 61, 32]⟩ ++ T)) rfl (by kernel_rfl) (by kernel_rfl) (by kernel_rfl) (fun _ _ _ h => h) (Or.inl ⟨by kernel_rfl, fun w' hSw => ?_⟩) (by assumption) ?_
            · ((try dsimp only at hSw); go_simp; try with_reducible rfl)
            try simp only [Act.put, List.setIfInBounds_toArray, List.set_cons_zero, List.set_cons_succ]
            refine wpAnyH_take (i := 24) (oi := _) (v := .string (L ++ ⟨#[32]⟩ ++ nm ++ ⟨#[32, 61, 32]⟩ ++ T ++ ⟨#[32, 59]⟩)) rfl (by kernel_rfl) (by kernel_rfl) (by kernel_rfl) (fun _ _ _ h => h) (Or.inl ⟨by kernel_rfl, fun w' hSw => ?_⟩) (by assumption) ?_
            · ((try dsimp only at hSw); go_simp; try with_reducible rfl)
            try simp only [Act.put, List.setIfInBounds_toArray, List.set_cons_zero, List.set_cons_succ]
            refine wpAnyH_take (i := 27) (oi := _) (v := .string (L ++ ⟨#[32]⟩ ++ nm ++ ⟨#[32, 61, 32]⟩ ++ T ++ ⟨#[32, 59]⟩ ++ ⟨#[10]⟩)) rfl (by kernel_rfl) (by kernel_rfl) (by kernel_rfl) (fun _ _ _ h => h) (Or.inl ⟨by kernel_rfl, fun w' hSw => ?_⟩) (by assumption) ?_
            · ((try dsimp only at hSw); go_simp; try with_reducible rfl)
            try simp only [Act.put, List.setIfInBounds_toArray, List.set_cons_zero, List.set_cons_succ]
            refine wpAnyH_ready (rs := [28]) (by kernel_rfl) (by simp) ?_
            refine AllReadyH.cons rfl (fun K hK => ?_) AllReadyH.nil
            go_simp
            refine hK.out _ _ (by exact ⟨⟨HSW.out _ HBn3.out, HC25.out⟩, HC1.out⟩) (fun hHeld => ?_)
            clear hK K
            try simp only [Act.put, List.setIfInBounds_toArray, List.set_cons_zero, List.set_cons_succ]
            refine wpAnyH_ready (rs := [29]) (by kernel_rfl) (by simp) ?_
            refine AllReadyH.cons rfl (fun K hK => ?_) AllReadyH.nil
            go_simp
            refine hK.out _ _ (by exact ⟨⟨HSW.out _ HBn3.out, HC25.out⟩, HC1.out⟩) (fun hHeld => ?_)
            clear hK K
            try simp only [Act.put, List.setIfInBounds_toArray, List.set_cons_zero, List.set_cons_succ]
            refine wpAnyH_done (by kernel_rfl) ?_ _
            go_wp2_with fail
            go_roundw
            case rel => exact ⟨j + 1, by omega, by rw [HTX.out], by go_num, HB.out.trans (HBn3.out.mono HB.out.size)⟩
            case measure => simp [intOf]; omega
        · skip
          go_simp
          refine (HKJ.out _ HBn1.out).mono ?_
          rintro e V2 ⟨rfl, hb1⟩
          have HBc := Lib.hid hb1
          have HBn2 := Lib.hid (HBn1.out.trans (hb1.mono HBn1.out.size))
          clear hb1
          have HC25n := Lib.hid ((HBc.out.cell (p := ⟨V0.heap.size, 0, none⟩) (blt_of_cell HC25.out)).trans HC25.out)
          clear HC25
          have HC25 := HC25n
          clear HC25n
          clear HBc
          try go_wp2_with fail
          refine hK.out _ _ (by exact ⟨HSW.out _ HBn2.out, HC25.out⟩) (fun hHeld => ?_)
          clear hK K
          try simp only [Act.put, List.setIfInBounds_toArray, List.set_cons_zero, List.set_cons_succ]
          refine wpAnyH_ready (rs := [1]) (by kernel_rfl) (by simp) ?_
          refine AllReadyH.cons rfl (fun K hK => ?_) AllReadyH.nil
          · skip
            go_simp
            have HBn3 := Lib.hid (HBn2.out.alloc HBn2.out.size (.cells #[.string ⟨#[]⟩, .string ⟨#[101, 97, 114, 110]⟩, .string ⟨#[116, 97, 107, 101]⟩, .string ⟨#[116, 97, 120]⟩, .string ⟨#[108, 101, 116]⟩] 9))
            have HC25n := Lib.hid (((kbelow_box V2 (.cells #[.string ⟨#[]⟩, .string ⟨#[101, 97, 114, 110]⟩, .string ⟨#[116, 97, 107, 101]⟩, .string ⟨#[116, 97, 120]⟩, .string ⟨#[108, 101, 116]⟩] 9)).cell (p := ⟨V0.heap.size, 0, none⟩) (blt_of_cell HC25.out)).trans HC25.out)
            clear HC25
            have HC25 := HC25n
            clear HC25n
            have HC1 := Lib.hid (HWT.out V2)
            refine hK.out _ _ (by exact ⟨HSW.out _ HBn3.out, HC25.out⟩) (fun hHeld => ?_)
            clear hK K
            try simp only [Act.put, List.setIfInBounds_toArray, List.set_cons_zero, List.set_cons_succ]
            replace hHeld := And.intro hHeld HC1.out
            generalize V2.alloc (.cells #[.string ⟨#[]⟩, .string ⟨#[101, 97, 114, 110]⟩, .string ⟨#[116, 97, 107, 101]⟩, .string ⟨#[116, 97, 120]⟩, .string ⟨#[108, 101, 116]⟩] 9) = V3 at HBn3 HC1 hHeld HC25 ⊢
            refine wpAnyH_more (S' := fun w' => ((w'.cell? ⟨kb, off + j * 6, none⟩ = some (.int .i64 (t : Int)) ∧ w'.cell? ⟨kb, off + j * 6 + 1, none⟩ = some (.string nm) ∧ w'.cell? ⟨kb, off + j * 6 + 2, none⟩ = some (.int .i64 kk) ∧ w'.cell? ⟨kb, off + j * 6 + 3, none⟩ = some (.int .i64 kn) ∧ w'.cell? ⟨kb, off + j * 6 + 4, none⟩ = some (.string ks) ∧ w'.cell? ⟨kb, off + j * 6 + 5, none⟩ = some (.slice aj km cj)) ∧ w'.cell? ⟨V0.heap.size, 0, none⟩ = some (.int .u8 10)) ∧ w'.cell? ⟨V2.heap.size, t, none⟩ = some (.string L)) (fun _ h => h.1) _ _ _ _ ?_
            refine wpAnyH_take (i := 7) (oi := _) (v := .pointer (some ⟨V2.heap.size, t, none⟩)) rfl (by kernel_rfl) (by kernel_rfl) (by kernel_rfl) (fun _ _ _ h => h) (Or.inl ⟨by kernel_rfl, fun w' hSw => ?_⟩) (by assumption) ?_
            · ((try dsimp only at hSw); go_simp; try with_reducible rfl)
            try simp only [Act.put, List.setIfInBounds_toArray, List.set_cons_zero, List.set_cons_succ]
            refine wpAnyH_take (i := 8) (oi := _) (v := .string L) rfl (by kernel_rfl) (by kernel_rfl) (by kernel_rfl) (fun _ _ _ h => h) (Or.inl ⟨by kernel_rfl, fun w' hSw => ?_⟩) (by assumption) ?_
            · ((try dsimp only at hSw); go_simp; try with_reducible rfl)
            try simp only [Act.put, List.setIfInBounds_toArray, List.set_cons_zero, List.set_cons_succ]
            refine wpAnyH_take (i := 9) (oi := _) (v := .string (L ++ ⟨#[32]⟩)) rfl (by kernel_rfl) (by kernel_rfl) (by kernel_rfl) (fun _ _ _ h => h) (Or.inl ⟨by kernel_rfl, fun w' hSw => ?_⟩) (by assumption) ?_
            · ((try dsimp only at hSw); go_simp; try with_reducible rfl)
            try simp only [Act.put, List.setIfInBounds_toArray, List.set_cons_zero, List.set_cons_succ]
            refine wpAnyH_take (i := 15) (oi := _) (v := .string (L ++ ⟨#[32]⟩ ++ nm)) rfl (by kernel_rfl) (by kernel_rfl) (by kernel_rfl) (fun _ _ _ h => h) (Or.inl ⟨by kernel_rfl, fun w' hSw => ?_⟩) (by assumption) ?_
            · ((try dsimp only at hSw); go_simp; try with_reducible rfl)
            try simp only [Act.put, List.setIfInBounds_toArray, List.set_cons_zero, List.set_cons_succ]
            refine wpAnyH_take (i := 16) (oi := _) (v := .string (L ++ ⟨#[32]⟩ ++ nm ++ ⟨#[32, 61, 32]⟩)) rfl (by kernel_rfl) (by kernel_rfl) (by kernel_rfl) (fun _ _ _ h => h) (Or.inl ⟨by kernel_rfl, fun w' hSw => ?_⟩) (by assumption) ?_
            · ((try dsimp only at hSw); go_simp; try with_reducible rfl)
            try simp only [Act.put, List.setIfInBounds_toArray, List.set_cons_zero, List.set_cons_succ]
            refine wpAnyH_take (i := 23) (oi := _) (v := .string (L ++ ⟨#[32]⟩ ++ nm ++ ⟨#[32, 61, 32]⟩ ++ T)) rfl (by kernel_rfl) (by kernel_rfl) (by kernel_rfl) (fun _ _ _ h => h) (Or.inl ⟨by kernel_rfl, fun w' hSw => ?_⟩) (by assumption) ?_
            · ((try dsimp only at hSw); go_simp; try with_reducible rfl)
            try simp only [Act.put, List.setIfInBounds_toArray, List.set_cons_zero, List.set_cons_succ]
            refine wpAnyH_take (i := 24) (oi := _) (v := .string (L ++ ⟨#[32]⟩ ++ nm ++ ⟨#[32, 61, 32]⟩ ++ T ++ ⟨#[32, 59]⟩)) rfl (by kernel_rfl) (by kernel_rfl) (by kernel_rfl) (fun _ _ _ h => h) (Or.inl ⟨by kernel_rfl, fun w' hSw => ?_⟩) (by assumption) ?_
            · ((try dsimp only at hSw); go_simp; try with_reducible rfl)
            try simp only [Act.put, List.setIfInBounds_toArray, List.set_cons_zero, List.set_cons_succ]
            refine wpAnyH_take (i := 27) (oi := _) (v := .string (L ++ ⟨#[32]⟩ ++ nm ++ ⟨#[32, 61, 32]⟩ ++ T ++ ⟨#[32, 59]⟩ ++ ⟨#[10]⟩)) rfl (by kernel_rfl) (by kernel_rfl) (by kernel_rfl) (fun _ _ _ h => h) (Or.inl ⟨by kernel_rfl, fun w' hSw => ?_⟩) (by assumption) ?_
            · ((try dsimp only at hSw); go_simp; try with_reducible rfl)
            try simp only [Act.put, List.setIfInBounds_toArray, List.set_cons_zero, List.set_cons_succ]
            refine wpAnyH_ready (rs := [28]) (by kernel_rfl) (by simp) ?_
            refine AllReadyH.cons rfl (fun K hK => ?_) AllReadyH.nil
            go_simp
            refine hK.out _ _ (by exact ⟨⟨HSW.out _ HBn3.out, HC25.out⟩, HC1.out⟩) (fun hHeld => ?_)
            clear hK K
            try simp only [Act.put, List.setIfInBounds_toArray, List.set_cons_zero, List.set_cons_succ]
            refine wpAnyH_ready (rs := [29]) (by kernel_rfl) (by simp) ?_
            refine AllReadyH.cons rfl (fun K hK => ?_) AllReadyH.nil
            go_simp
            refine hK.out _ _ (by exact ⟨⟨HSW.out _ HBn3.out, HC25.out⟩, HC1.out⟩) (fun hHeld => ?_)
            clear hK K
            try simp only [Act.put, List.setIfInBounds_toArray, List.set_cons_zero, List.set_cons_succ]
            refine wpAnyH_done (by kernel_rfl) ?_ _
            go_wp2_with fail
            go_roundw
            case rel => exact ⟨j + 1, by omega, by rw [HTX.out], by go_num, HB.out.trans (HBn3.out.mono HB.out.size)⟩
            case measure => simp [intOf]; omega
    · obtain rfl : j = n := by omega
      go_wp2_with fail
      go_ret
      exact ⟨rfl, HB.out⟩
end Go.Proofs.YtchiifnciijagaaGreatDoor
