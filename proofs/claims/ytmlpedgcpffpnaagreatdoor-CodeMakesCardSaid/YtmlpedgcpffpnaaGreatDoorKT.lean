/-
  Promise J2: the walk of the reference's CheckProgram (under way: see NOTES).
-/
import Derived.Test.YtmlpedgcpffpnaaGreatDoorKS
import Derived.Deep.CutRange
import Derived.Deep.RegionHeld
import Derived.Deep.Light
import Derived.Lib.AppendZeros
set_option linter.unusedSimpArgs false
namespace Go.Proofs.YtmlpedgcpffpnaaGreatDoor
open Go.RowKit
set_option maxRecDepth 100000 in
set_option maxHeartbeats 60000000 in
theorem checkProgram_ref (a : Option Addr) (n cap : Nat) (l : List Bk) (lines : Int) (a1 a2 a3 : Option Addr) (n1 n2 n3 c1 c2 c3 : Nat) (k : Kn) (w : World) (hl : CameB w a l) (hn : l.length = n) (hm : n ≤ maxLen) (hk : CameK w a1 a2 a3 k) (h1 : k.ins.length = n1) (h2 : k.tbs.length = n2) (h3 : k.yrs.length = n3) (hz : ∀ j, j < n → I64 (bnth l j).rate) :
 Calls Tryz.prog 9 #[.slice a n cap, .int .i64 lines, .agg #[.slice a1 n1 c1, .slice a2 n2 c2, .slice a3 n3 c3]] w fun e w' => e = .returned (.tuple #[.int .i64 (chkN k l lines), .int .i64 (chkE k l lines)]) ∧ Below w.heap.size w w' := by
 have hm' : n ≤ 9223372036854775807 := by unfold maxLen at hm; omega
 have HCE : Hid (chkE k l lines = if 10000 < n ∨ lines < 0 ∨ 40 < lines then 2 else if knE k ≠ 0 then knE k else if firstE (ckE l lines n1 n2 n3) n ≠ 0 then firstE (ckE l lines n1 n2 n3) n else if ckEnd l lines = true then 0 else 4) := by unfold Hid chkE; rw [hn, h1, h2, h3]
 have HCN : Hid (chkN k l lines = if chkE k l lines = 0 then ckM l n else 0) := by unfold Hid chkN; rw [hn]
 have HL := Lib.hid hl
 have HN := Lib.hid hn
 have HK := Lib.hid hk
 have HLN := Lib.hid (And.intro h1 (And.intro h2 h3))
 have HZ := Lib.hid hz
 have HB0 := Lib.hid (kbelow_box w (.cells #[.slice a1 n1 c1, .slice a2 n2 c2, .slice a3 n3 c3] 26))
 have HKB0 := Lib.hid (Cbx.made w [.slice a1 n1 c1, .slice a2 n2 c2, .slice a3 n3 c3] 26)
 clear hl hn hm hk h1 h2 h3 hz
 by_cases hbad : 10000 < n ∨ lines < 0 ∨ 40 < lines
 ·have HR : Hid (chkE k l lines = 2 ∧ chkN k l lines = 0) := by
   have e : chkE k l lines = 2 := by rw [HCE.out, if_pos hbad]
   exact ⟨e, by rw [HCN.out, e]; rfl⟩
  clear HCE HCN
  by_cases b1 : (10000 : Int) < (n : Int)
  ·have b1B : decide ((10000 : Int) < (n : Int)) = true := decide_eq_true b1
   go_enter Tryz.func9, Tryz.ntmps9
   go_wp2_with fail
   refine bodyPost_ret (v := .tuple #[.int .i64 0, .int .i64 2]) (by simp [results, Tryz.results9, go_sem] <;> rfl) rfl ?_
   exact ⟨by rw [HR.out.1, HR.out.2], HB0.out⟩
  ·have b1B : decide ((10000 : Int) < (n : Int)) = false := decide_eq_false b1
   have b1N : decide (10000 < n) = false := decide_eq_false (by omega)
   by_cases b2 : lines < 0
   ·have b2B : decide (lines < 0) = true := decide_eq_true b2
    go_enter Tryz.func9, Tryz.ntmps9
    go_wp2_with fail
    refine bodyPost_ret (v := .tuple #[.int .i64 0, .int .i64 2]) (by simp [results, Tryz.results9, go_sem] <;> rfl) rfl ?_
    exact ⟨by rw [HR.out.1, HR.out.2], HB0.out⟩
   ·have b2B : decide (lines < 0) = false := decide_eq_false b2
    have b3 : 40 < lines := by omega
    have b3B : decide (40 < lines) = true := decide_eq_true b3
    go_enter Tryz.func9, Tryz.ntmps9
    go_wp2_with fail
    refine bodyPost_ret (v := .tuple #[.int .i64 0, .int .i64 2]) (by simp [results, Tryz.results9, go_sem] <;> rfl) rfl ?_
    exact ⟨by rw [HR.out.1, HR.out.2], HB0.out⟩
 ·rw [if_neg hbad] at HCE
  have hn1 : n ≤ 10000 := by omega
  obtain ⟨L, rfl⟩ : ∃ L : Nat, lines = (L : Int) := ⟨lines.toNat, by omega⟩
  have hL40 : L ≤ 40 := by omega
  have b1B : decide ((10000 : Int) < (n : Int)) = false := decide_eq_false (by omega)
  have b1N : decide (10000 < n) = false := decide_eq_false (by omega)
  have b2B : decide ((L : Int) < 0) = false := decide_eq_false (by omega)
  have b3B : decide (40 < (L : Int)) = false := decide_eq_false (by omega)
  have b3N : decide (40 < L) = false := decide_eq_false (by omega)
  clear hbad
  go_enter Tryz.func9, Tryz.ntmps9
  go_wp2_with fail
  refine (known_ref a1 a2 a3 n1 n2 n3 c1 c2 c3 k _ (HK.out.below HB0.out) HLN.out.1 HLN.out.2.1 HLN.out.2.2).mono ?_
  rintro e w1 ⟨rfl, hb1⟩
  have HB1 := Lib.hid (HB0.out.trans (hb1.mono HB0.out.size))
  have HKB := Lib.hid (HKB0.out.below hb1 HKB0.out.lt)
  clear hb1 HKB0
  by_cases hke : knE k = 0
  ·rw [hke] at HCE ⊢
   simp only [ne_eq, not_true_eq_false, if_false] at HCE
   clear hke
   have hmk := make_lys n hn1 w1
   have hmk2 := make_bls (n + 1) (by omega) (w1.alloc (.cells (madeCells #[.int .i64 0, .slice none 0 0] ((n + 1) * 2)) 72))
   have ecast : ((n + 1 : Nat) : Int) = (n : Int) + 1 := by omega
   rw [ecast] at hmk2
   have hwn : IntKind.i64.wrap ((n : Int) + 1) = (n : Int) + 1 := IntWalk.i64_in _ (by omega)
   have HIN := Lib.hid (ini_made w1 n 72 4)
   have HBA : Hid (Below w1.heap.size w1 ((w1.alloc (.cells (madeCells #[.int .i64 0, .slice none 0 0] ((n + 1) * 2)) 72)).alloc (.cells (madeCells #[.bool false] (n + 1)) 4))) := bel_2 w1 _ _
   go_wp2_with fail
   clear hmk hmk2
   generalize ((w1.alloc (.cells (madeCells #[.int .i64 0, .slice none 0 0] ((n + 1) * 2)) 72)).alloc (.cells (madeCells #[.bool false] (n + 1)) 4)) = W2 at HIN HBA ⊢
   obtain ⟨ab, hab⟩ : ∃ ab, w1.heap.size = ab := ⟨_, rfl⟩
   obtain ⟨bb, hbb⟩ : ∃ bb, w1.heap.size + 1 = bb := ⟨_, rfl⟩
   rw [hbb] at HIN ⊢
   have HIN2 : Hid (IniAt W2 w1.heap.size ab bb n 0) := by rw [← hab]; exact HIN.out
   rw [hab]
   clear HIN hab hbb ecast
   go_loopw [12] (fun i wr => ∃ j : Nat, j ≤ n + 1 ∧ i = .int .i64 j ∧ IniAt wr w1.heap.size ab bb n j ∧ Below w1.heap.size w1 wr) (fun i _ => (n + 1) - (intOf i).toNat)
   case atStart => exact ⟨0, Nat.zero_le _, rfl, HIN2.out, HBA.out⟩
   case round =>
    clear HIN2 HBA
    obtain ⟨j, hj, rfl, hin, hb⟩ := hrel
    have HIN := Lib.hid hin
    have HBR := Lib.hid hb
    clear hin hb
    by_cases hle : j ≤ n
    ·have hle' : (j : Int) ≤ (n : Int) := by omega
     have hle2 : (j : Int) < (n : Int) + 1 := by omega
     have x0 := (HIN.out.many j hle).1
     have f0 := (HIN.out.many j hle).2.1
     go_wp2_with fail
     go_roundw
     case rel => exact ⟨j + 1, by omega, by go_num, HIN.out.step hle, HBR.out.setCell HIN.out.ba _⟩
     case measure => simp [intOf]; omega
    ·obtain rfl : j = n + 1 := by omega
     have hgt : ¬ ((n + 1 : Nat) : Int) ≤ (n : Int) := by omega
     have hgt2 : ¬ (n : Int) + 1 ≤ (n : Int) := by omega
     have HR0 := Lib.hid (HIN.out.done L)
     have hmk3 := make_bls L (by omega) wr
     have x0 := (HR0.out.many 0 (Nat.zero_le _)).1
     have x1 : wr.cell? ⟨ab, 1, none⟩ = some (.slice none 0 0) := HR0.out.kept 0 (Nat.zero_le _)
     have f0 := (HR0.out.many 0 (Nat.zero_le _)).2.1
     have f1 := (HR0.out.many 0 (Nat.zero_le _)).2.2
     simp only [Nat.zero_mul, Nat.zero_add] at x0 f0 f1
     have hab0 := HR0.out.la
     have hn0 : (0 : Int) < (n : Int) + 1 := by omega
     have hbK := kbelow_box wr (.cells (madeCells #[.bool false] L) 4)
     have hmd := made_bls wr L 4
     have HRL : Hid (RAt (((wr.setCell ⟨ab, 0, none⟩ (.int .i64 0)).setCell ⟨ab, 1, none⟩ (.slice (some ⟨wr.heap.size, 0, none⟩) L L)).alloc (.cells (madeCells #[.bool false] L) 4)) w1.heap.size ab bb n L (updF (fun _ => -1) 0 0) (updN (fun _ => 0) 0 wr.heap.size) (updN (fun _ => 0) 0 L) (updN (fun _ => 0) 0 0) (ckS l 0)) := by
      have h9 := (HR0.out.below hbK).lay (t := 0) (Nat.zero_le _) rfl 0 0 wr.heap.size L (Int.le_refl _) (Nat.two_pow_pos L) ⟨by simp, Nat.ne_of_gt HR0.out.la, Nat.ne_of_gt HR0.out.lb, HBR.out.size⟩ (fun j hj => by rw [(hmd j hj).1]; simp)
      simp only [Nat.zero_mul, Nat.zero_add] at h9
      rw [World.setCell_alloc_past _ _ _ _ hab0, World.setCell_alloc_past _ _ _ _ (by simpa using hab0)] at h9
      exact h9
     have HBL : Hid (Below w1.heap.size w1 (((wr.setCell ⟨ab, 0, none⟩ (.int .i64 0)).setCell ⟨ab, 1, none⟩ (.slice (some ⟨wr.heap.size, 0, none⟩) L L)).alloc (.cells (madeCells #[.bool false] L) 4))) := by
      have h8 := (HBR.out.setCell (p := ⟨ab, 0, none⟩) HR0.out.ba (.int .i64 0)).setCell (p := ⟨ab, 1, none⟩) HR0.out.ba (.slice (some ⟨wr.heap.size, 0, none⟩) L L)
      exact h8.alloc h8.size _
     clear hbK hmd
     go_wp2_with fail
     clear x0 x1 f0 f1 hmk3 hab0 HR0 HIN HBR hgt hgt2 hle hj
     generalize (((wr.setCell ⟨ab, 0, none⟩ (.int .i64 0)).setCell ⟨ab, 1, none⟩ (.slice (some ⟨wr.heap.size, 0, none⟩) L L)).alloc (.cells (madeCells #[.bool false] L) 4)) = W3 at HRL HBL ⊢
     generalize wr.heap.size = kb0 at HRL ⊢
     go_loopw [13, 14] (fun mv i wq => ∃ (j : Nat) (M : Nat → Int) (A C K : Nat → Nat), j ≤ n ∧ i = .int .i64 j ∧ mv = .int .i64 (rmM l j) ∧ RAt wq w1.heap.size ab bb n L M A C K (ckS l j) ∧ firstE (ckE l (L : Int) n1 n2 n3) j = 0 ∧ Below w1.heap.size w1 wq) (fun _ i _ => (n + 1) - (intOf i).toNat)
     case atStart => exact ⟨0, _, _, _, _, Nat.zero_le _, rfl, rfl, HRL.out, rfl, HBL.out⟩
     case round =>
      clear HRL HBL
      obtain ⟨j, M, A, C, K, hj, rfl, rfl, hra, hfe, hb⟩ := hrel
      have HRA := Lib.hid hra
      have HFE := Lib.hid hfe
      have HBR := Lib.hid hb
      have HBW : Hid (Below w.heap.size w wr) := HB1.out.trans (hb.mono HB1.out.size)
      have HKR := Lib.hid (HKB.out.below hb HKB.out.lt)
      clear hra hfe hb
      have hjn : (j : Int) ≤ (n : Int) := by omega
      have hjn1 : (j : Int) < (n : Int) + 1 := by omega
      by_cases hlt : j < n
      ·have hlt' : (j : Int) < (n : Int) := by omega
       obtain ⟨b, off, rfl, hcell⟩ := HL.out.open HN.out (by omega)
       obtain ⟨o0, o1⟩ := hcell wr HBW.out j hlt
       have HWO := Lib.hid (WrongOp_ref (bnth l j).frm (bnth l j).rate (L : Int) b off n cap j a1 a2 a3 n1 c1 n2 c2 n3 c3 wr hlt hn1 (HZ.out j hlt) o0 o1)
       have HOC : Hid (∀ w', Below wr.heap.size wr w' → w'.cell? ⟨b, off + j * 2, none⟩ = some (.int .i64 (bnth l j).frm) ∧ w'.cell? ⟨b, off + j * 2 + 1, none⟩ = some (.int .i64 (bnth l j).rate)) := fun w' hb' => ⟨(hb'.cell (p := ⟨b, off + j * 2, none⟩) (blt_of_cell o0)).trans o0, (hb'.cell (p := ⟨b, off + j * 2 + 1, none⟩) (blt_of_cell o1)).trans o1⟩
       have HWS := Lib.hid (wo_stp (ckS l j) (bnth l j) (L : Int) n1 n2 n3 n j)
       have HCK : Hid (ckE l (L : Int) n1 n2 n3 j = stpE (ckS l j) (bnth l j) (L : Int) n1 n2 n3 n j) := by unfold Hid ckE; rw [HN.out]
       clear hcell o0 o1
       have k0 := HKR.out.at 0 rfl
       have k1 := HKR.out.at 1 rfl
       have k2 := HKR.out.at 2 rfl
       unfold WoIs at HWO
       go_wp2_with fail
       refine HWO.out.mono ?_
       rintro e w4 ⟨rfl, hb4⟩
       have HB4 := Lib.hid hb4
       clear hb4 HWO k0 k1 k2
       by_cases hwo : woE (bnth l j).frm (bnth l j).rate (L : Int) n1 n2 n3 n j = 0
       ·rw [hwo]
        obtain ⟨hfr, hfit, hst⟩ := HWS.out.2 hwo
        have HFR := Lib.hid (And.intro hfr hfit)
        have HST : Hid (ckE l (L : Int) n1 n2 n3 j = _) := HCK.out.trans hst
        clear hwo hfr hfit hst HWS HCK
        have HRA4 := Lib.hid (HRA.out.below HB4.out)
        have HBR4 := Lib.hid (HBR.out.trans (HB4.out.mono HBR.out.size))
        have m0 := (HRA4.out.many j (by omega)).1
        have e0 := (HRA4.out.bad j (by omega)).1
        by_cases hr : (ckS l j j).r = false
        ·have HF1 : Hid (firstE (ckE l (L : Int) n1 n2 n3) (j + 1) = 0) := by unfold Hid; rw [firstE_ok HFE.out, HST.out, if_pos hr]
         have HS1 : Hid (ckS l (j + 1) = ckS l j) := by unfold Hid; show stpS _ _ _ = _; unfold stpS; rw [if_pos hr]
         have HM1 : Hid (rmM l (j + 1) = rmM l j) := by unfold Hid; rw [rmM, if_pos hr]
         have hmn : M j < 0 := (HRA4.out.non j (by omega) hr).1
         clear hr
         generalize M j = mj at m0 hmn
         go_wp2_with fail
         go_roundw
         case rel => exact ⟨j + 1, M, A, C, K, by omega, by go_num, by rw [HM1.out], by rw [HS1.out]; exact HRA4.out, HF1.out, HBR4.out⟩
         case measure => simp [intOf]; omega
        ·have hr' : (ckS l j j).r = true := by simpa using hr
         rw [if_neg hr] at HST
         have HRJ := Lib.hid hr'
         obtain ⟨⟨hm0, hk2⟩, hA, hcs⟩ := HRA4.out.yes j (by omega) hr'
         have HYES := Lib.hid (And.intro hk2 (And.intro hA hcs))
         clear hr hr' hk2 hA hcs
         cases hh : (ckS l j j).h
         ·rw [hh] at e0 HST
          simp only [Bool.false_eq_true, if_false] at HST
          obtain ⟨hMd, hKk⟩ := HRA4.out.one j (by omega) HRJ.out hh
          have hnx0 := HFR.out.1
          obtain ⟨q, hq⟩ : ∃ q : Nat, (bnth l j).frm = (q : Int) := ⟨(bnth l j).frm.toNat, by omega⟩
          have hq1 : 1 ≤ q := by omega
          have hq2 : q ≤ 16 := by omega
          obtain ⟨z, hz⟩ : ∃ z : Int, (bnth l j).rate = z := ⟨_, rfl⟩
          obtain ⟨mj, hmj⟩ : ∃ x : Int, M j = x := ⟨_, rfl⟩
          obtain ⟨aj, haj⟩ : ∃ x : Nat, A j = x := ⟨_, rfl⟩
          obtain ⟨cj, hcj⟩ : ∃ x : Nat, C j = x := ⟨_, rfl⟩
          obtain ⟨kj, hkj⟩ : ∃ x : Nat, K j = x := ⟨_, rfl⟩
          obtain ⟨tk, htk⟩ : ∃ x : Int, takesOf (q : Int) = x := ⟨_, rfl⟩
          obtain ⟨ly, hly⟩ : ∃ x : Int, laysOf (q : Int) = x := ⟨_, rfl⟩
          obtain ⟨md, hmd⟩ : ∃ x : Int, mj - tk = x := ⟨_, rfl⟩
          obtain ⟨nd, hnd⟩ : ∃ x : Int, md + ly = x := ⟨_, rfl⟩
          have htb : 0 ≤ tk ∧ tk ≤ 2 := by rw [← htk]; exact takes_bd _
          have hlb : 0 ≤ ly ∧ ly ≤ 1 := by rw [← hly]; exact lays_bd _
          have hbd := (ckS_bnd (l := l) (n1 := n1) (n2 := n2) (n3 := n3) (lines := (L : Int)) (by omega) j (by rw [HN.out]; omega) HFE.out j HRJ.out).1
          have hmjb : mj ≤ 10000 := by rw [← hmj, hMd]; omega
          rw [hmj] at m0 hm0
          have HQ := Lib.hid (And.intro hq hz)
          have HAL : Hid (ckE l (L : Int) n1 n2 n3 j = if allowB mj kj q z = false then 4 else 0) := by
           unfold Hid
           rw [HST.out, ← hMd, ← hKk, hmj, hkj, hq, hz, Int.toNat_natCast]
          have hndx : nxD mj q = nd := by unfold nxD; omega
          have HND := Lib.hid hndx
          have HSN1 : Hid ((q : Int) ≠ 15 → ckS l (j + 1) = rchN (ckS l j) (fun _ => j + 1 + (furI (q : Int) z).toNat) nd (nxK kj q z) 1) := by
           intro h15
           have h := stp_one (S := ckS l j) (o := bnth l j) (at_ := j) HRJ.out (by rw [hq]; exact h15)
           unfold toN at h
           rw [← hMd, ← hKk, hmj, hkj, hq, hz, Int.toNat_natCast, hndx] at h
           exact h
          have HSN2 : Hid ((q : Int) = 15 → ckS l (j + 1) = rchN (ckS l j) (fun e => if e = 0 then j + 1 else j + 1 + (furI (q : Int) z).toNat) nd (nxK kj q z) 2) := by
           intro h15
           have h := stp_two (S := ckS l j) (o := bnth l j) (at_ := j) HRJ.out (by rw [hq]; exact h15)
           unfold toN at h
           rw [← hMd, ← hKk, hmj, hkj, hq, hz, Int.toNat_natCast, hndx] at h
           exact h
          have HMX : Hid ((if rmM l j < mj then mj else rmM l j) = rmM l (j + 1)) := by
           unfold Hid
           have h : rmM l (j + 1) = maxI (rmM l j) (ckS l j j).d := by rw [rmM, if_neg (by rw [HRJ.out]; decide)]
           rw [h]
           unfold maxI
           rw [← hMd, hmj]
          have HFT : Hid (fitsB (q : Int) z (L : Int) n1 n2 n3 n j = true) := by unfold Hid; rw [← hq, ← hz]; exact HFR.out.2
          have HF2 : Hid (allowB mj kj q z = true → firstE (ckE l (L : Int) n1 n2 n3) (j + 1) = 0) := by
           intro ha
           rw [firstE_ok HFE.out, HAL.out, if_neg (by rw [ha]; decide)]
          have HER : Hid (allowB mj kj q z = false → chkE k l (L : Int) = 4 ∧ chkN k l (L : Int) = 0) := by
           intro ha
           have ex : ckE l (L : Int) n1 n2 n3 j = 4 := by rw [HAL.out, if_pos ha]
           have e1 : firstE (ckE l (L : Int) n1 n2 n3) n = 4 := by rw [firstE_err hlt HFE.out (by rw [ex]; decide), ex]
           have e2 : chkE k l (L : Int) = 4 := by rw [HCE.out, e1]; rfl
           exact ⟨e2, by rw [HCN.out, e2]; rfl⟩
          have HI64 : Hid (I64 z) := by unfold Hid; rw [← hz]; exact HZ.out j hlt
          have HOC4 : Hid (∀ w', Below w4.heap.size w4 w' → w'.cell? ⟨b, off + j * 2, none⟩ = some (.int .i64 (q : Int)) ∧ w'.cell? ⟨b, off + j * 2 + 1, none⟩ = some (.int .i64 z)) := by
           intro w' hb'
           rw [← hq, ← hz]
           exact HOC.out w' (HB4.out.trans (hb'.mono HB4.out.size))
          have hkpt := HRA4.out.kept j (by omega)
          rw [if_pos HRJ.out, haj, hcj] at hkpt
          have HSW : Hid (∀ w', Below w4.heap.size w4 w' → w'.cell? ⟨ab, j * 2, none⟩ = some (.int .i64 mj) ∧ w'.cell? ⟨ab, j * 2 + 1, none⟩ = some (.slice (some ⟨aj, 0, none⟩) L cj)) := fun w' hb' => ⟨(hb'.cell (p := ⟨ab, j * 2, none⟩) HRA4.out.la).trans m0, (hb'.cell (p := ⟨ab, j * 2 + 1, none⟩) HRA4.out.la).trans hkpt⟩
          have HKC : Hid (∀ w', Below w4.heap.size w4 w' → ∀ p, p < L → w'.cell? ⟨aj, p, none⟩ = some (.bool (kj.testBit p))) := by
           intro w' hb' p hp
           have h3 := HYES.out.2.2 p hp
           have h4 := HYES.out.2.1.1
           rw [haj] at h3 h4
           rw [hkj] at h3
           exact (hb'.cell (p := ⟨aj, p, none⟩) h4).trans h3
          have HKP2 : Hid (kj < 2 ^ L) := by unfold Hid; rw [← hkj]; exact HYES.out.1
          have HTKC : Hid (∀ W, Calls Tryz.prog 33 #[.int .i64 (q : Int)] W fun e w' => e = .returned (.int .i64 tk) ∧ Below W.heap.size W w') := fun W => by rw [← htk]; exact Takes_ref q hq1 hq2 W
          have HLYC : Hid (∀ W, Calls Tryz.prog 34 #[.int .i64 (q : Int)] W fun e w' => e = .returned (.int .i64 ly) ∧ Below W.heap.size W w') := fun W => by
           rw [← hly]
           refine (Lays_ref q W).mono ?_
           rintro e w' ⟨he, rfl⟩
           exact ⟨he, Below.refl _ _⟩
          have hw1 : IntKind.i64.wrap (mj - tk) = md := by rw [← hmd]; exact IntWalk.i64_in _ (by omega)
          have hw2 : IntKind.i64.wrap (md + ly) = nd := by rw [← hnd]; exact IntWalk.i64_in _ (by omega)
          have HNB : Hid (allowB mj kj q z = true → 0 ≤ nd) := by
           intro ha
           unfold allowB at ha
           rw [htk] at ha
           split at ha
           ·cases ha
           ·omega
          have HTL : Hid (tk = takesOf (q : Int)) := htk.symm
          have HBQ := Lib.hid (And.intro hq1 hq2)
          obtain ⟨o0, o1⟩ := HOC4.out w4 (Below.refl _ _)
          clear hh hMd hKk hq hz hmj haj hcj hkj htk hly hmd hnd hbd hndx hkpt HST HYES HOC hnx0
          go_upto_region 34 with fail
          rw [HMX.out]
          go_wp2_with fail
          clear o0 o1 m0 e0
          go_cut [18] from 59 to 261 (fun v wx => ∃ g kb c, v = .pointer (some ⟨g, 0, none⟩) ∧ NxAt wx w4.heap.size g kb L c nd kj ∧ Below w4.heap.size w4 wx)
          case first =>
           refine reg35 ?_ w4 ab n j aj cj L kj q mj tk ly md nd hL40 hjn1 hw1 hw2 HSW HKC HTKC HLYC _ _ _ _ _ _ _ _ _ _ _ _ _ _ _ _ _ _ _ _ _ _ _ _ _ _ _ _ _ _ _ _ _ _ _ _ _ _ _ _ _ _ _ _ _ _ _ _ _ _ _ _ _ _ _ _ _ _ _ _ _ _ _ _ _ _ _ _ _ _ _ _ _ _ _ _ _ _ _ _ _ _ _ _ _ _ _ _ _ _ _ _ _ _ _ _ _ _ _ _ _ _ _ _ _ _ _ _ _ _ _ _ _ _ _ _ _ _ _ _ _ _ _ _ _ _ _ _ _ _ _ _ _ _ _ _ _ _ _ _ _ _ _ _ _ _ _ _ _ _ _ _ _ _ _ _ _ _ _ _ _ _ _ _ _ _ _ _ _ _ _ _ _ _ _ _ _ _ _ _ _ _ _ _ _ _ _ _ _ _ _ _ _ _ _ _ _ _ _ _ _ _ _ _ _ _ _ _ _ _ _ _ _ _ _ _ _ _ _ _ _ _ _ _ _ _ _ _ _ _ _ _ _ _ _ _ _ _ _ _ _ _ _ _ _ _ _ _ _ _ _ _ _ _ _ _ _ _ _ _ ?_
           ·intro _ _ d _ _ h; cases d <;> exact h
           intro g kb c wx u139 u140 u141 u142 u143 u144 u145 u146 u147 u148 u149 u150 u151 u152 u153 u154 u155 u156 u157 hnx hbx
           have HNX := Lib.hid hnx
           have HBX := Lib.hid hbx
           clear hnx hbx
           go_wp2_with fail
           go_meet
           exact ⟨g, kb, c, rfl, HNX.out, HBX.out⟩
          case rest =>
           obtain ⟨g, kb, c, rfl, hnx, hbx⟩ := hcut
           have HNX := Lib.hid hnx
           have HBX := Lib.hid hbx
           clear hnx hbx
           go_upto_region 36 with fail
           obtain ⟨al, hal⟩ : ∃ x, allowB mj kj q z = x := ⟨_, rfl⟩
           rw [hal] at HAL HF2 HER HNB
           go_cut [196] from 59 to 261 (fun v wx => v = .bool (!al) ∧ Below wc.heap.size wc wx)
           case first =>
            obtain ⟨m0, k0⟩ := HSW.out wc HBX.out
            obtain ⟨o0, o1⟩ := HOC4.out wc HBX.out
            have g1 := HNX.out.bx.at 1 rfl
            have r1 := cell_regrown m0
            have r2 := cell_regrown o1
            have r3 := cell_regrown g1
            unfold allowB at hal
            rw [← HTL.out] at hal
            by_cases hlt2 : mj < tk
            ·rw [if_pos hlt2] at hal
             have hB : decide (mj < tk) = true := decide_eq_true hlt2
             have HAN : Hid (al = false) := hal.symm
             clear hal hlt2
             as_aux_lemma =>
              refine wp_region_quiet_below (by kernel_rfl) (by kernel_rfl) ?_
              repeat (go_big_quiet_step (exact Calls.regrown_of (HTKC.out _)))
              refine wpQuiet_nil ?_
              intro _ hw'
              obtain ⟨⟨dq, osq⟩, hw''⟩ := hw'
              subst hw''
              have HBE := Lib.hid (below_regrown wc dq osq)
              go_wp2_with fail
              go_meet
              exact ⟨by rw [HAN.out]; first | rfl | (cases bt <;> rfl), HBE.out⟩
            ·rw [if_neg hlt2] at hal
             have hB : decide (mj < tk) = false := decide_eq_false hlt2
             by_cases h3 : q = 3
             ·rw [if_pos h3] at hal
              have q3 : ((q : Int) == 3) = true := by rw [h3]; rfl
              have q3d : decide ((q : Int) = 3) = true := by rw [h3]; rfl
              have q16 : ((q : Int) == 16) = false := by rw [h3]; rfl
              have q16d : decide ((q : Int) = 16) = false := by rw [h3]; rfl
              obtain ⟨zn, hzn⟩ : ∃ zn : Nat, z = (zn : Int) := ⟨z.toNat, by have := fits_line HFT.out (.inl (by omega)); omega⟩
              have hznL : zn < L := by have := fits_line HFT.out (.inl (by omega)); omega
              have hznI : (zn : Int) < (L : Int) := by omega
              have hc := cell_regrown (HNX.out.kp.2 zn hznL).1
              subst hzn
              rw [Int.toNat_natCast] at hal
              generalize kj.testBit zn = bt at hal hc
              cases bt
              ·have HAN : Hid (al = false) := hal.symm
               clear hal hlt2 h3
               as_aux_lemma =>
                refine wp_region_quiet_below (by kernel_rfl) (by kernel_rfl) ?_
                repeat (go_big_quiet_step (exact Calls.regrown_of (HTKC.out _)))
                refine wpQuiet_nil ?_
                intro _ hw'
                obtain ⟨⟨dq, osq⟩, hw''⟩ := hw'
                subst hw''
                have HBE := Lib.hid (below_regrown wc dq osq)
                go_wp2_with fail
                go_meet
                exact ⟨by rw [HAN.out]; first | rfl | (cases bt <;> rfl), HBE.out⟩
              ·have HAN : Hid (al = true) := hal.symm
               clear hal hlt2 h3
               as_aux_lemma =>
                refine wp_region_quiet_below (by kernel_rfl) (by kernel_rfl) ?_
                repeat (go_big_quiet_step (exact Calls.regrown_of (HTKC.out _)))
                refine wpQuiet_nil ?_
                intro _ hw'
                obtain ⟨⟨dq, osq⟩, hw''⟩ := hw'
                subst hw''
                have HBE := Lib.hid (below_regrown wc dq osq)
                go_wp2_with fail
                go_meet
                exact ⟨by rw [HAN.out]; first | rfl | (cases bt <;> rfl), HBE.out⟩
             ·rw [if_neg h3] at hal
              have h3' : ¬ (q : Int) = 3 := by omega
              have q3 : ((q : Int) == 3) = false := by simpa using h3'
              have q3d : decide ((q : Int) = 3) = false := decide_eq_false h3'
              clear h3'
              by_cases h16 : q = 16
              ·rw [if_pos h16] at hal
               have q16 : ((q : Int) == 16) = true := by rw [h16]; rfl
               have q16d : decide ((q : Int) = 16) = true := by rw [h16]; rfl
               obtain ⟨zn, hzn⟩ : ∃ zn : Nat, z = (zn : Int) := ⟨z.toNat, by have := fits_line HFT.out (.inr (by omega)); omega⟩
               have hznL : zn < L := by have := fits_line HFT.out (.inr (by omega)); omega
               have hznI : (zn : Int) < (L : Int) := by omega
               have hc := cell_regrown (HNX.out.kp.2 zn hznL).1
               subst hzn
               rw [Int.toNat_natCast] at hal
               generalize kj.testBit zn = bt at hal hc
               have HAN : Hid (al = !bt) := hal.symm
               clear hal hlt2 h3 h16
               as_aux_lemma =>
                refine wp_region_quiet_below (by kernel_rfl) (by kernel_rfl) ?_
                repeat (go_big_quiet_step (exact Calls.regrown_of (HTKC.out _)))
                refine wpQuiet_nil ?_
                intro _ hw'
                obtain ⟨⟨dq, osq⟩, hw''⟩ := hw'
                subst hw''
                have HBE := Lib.hid (below_regrown wc dq osq)
                go_wp2_with fail
                go_meet
                exact ⟨by rw [HAN.out]; first | rfl | (cases bt <;> rfl), HBE.out⟩
              ·rw [if_neg h16] at hal
               have h16' : ¬ (q : Int) = 16 := by omega
               have q16 : ((q : Int) == 16) = false := by simpa using h16'
               have q16d : decide ((q : Int) = 16) = false := decide_eq_false h16'
               have HAN : Hid (al = true) := hal.symm
               clear hal hlt2 h3 h16 h16'
               as_aux_lemma =>
                refine wp_region_quiet_below (by kernel_rfl) (by kernel_rfl) ?_
                repeat (go_big_quiet_step (exact Calls.regrown_of (HTKC.out _)))
                refine wpQuiet_nil ?_
                intro _ hw'
                obtain ⟨⟨dq, osq⟩, hw''⟩ := hw'
                subst hw''
                have HBE := Lib.hid (below_regrown wc dq osq)
                go_wp2_with fail
                go_meet
                exact ⟨by rw [HAN.out]; first | rfl | (cases bt <;> rfl), HBE.out⟩
           case rest =>
            obtain ⟨rfl, hbe⟩ := hcut
            have HNX2 := Lib.hid (HNX.out.below hbe)
            have HBX2 := Lib.hid (HBX.out.trans (hbe.mono HBX.out.size))
            clear hbe HNX HBX hal
            rename World => W6
            obtain ⟨t1, ht1⟩ : ∃ x : Nat, j + 1 = x := ⟨_, rfl⟩
            obtain ⟨t2, ht2⟩ : ∃ x : Nat, j + 1 + (furI (q : Int) z).toNat = x := ⟨_, rfl⟩
            obtain ⟨nk, hnk⟩ : ∃ x : Nat, nxK kj q z = x := ⟨_, rfl⟩
            have HFR := fits_far HFT.out hlt
            have HT12 : Hid (t1 ≤ n ∧ t2 ≤ n) := by unfold Hid; omega
            have HFI := Lib.hid HFR
            have HNK2 : Hid (nk < 2 ^ L) := by
             unfold Hid
             rw [← hnk]
             exact nxK_pow HKP2.out fun h => fits_line HFT.out (.inr (by omega))
            replace HSN1 : Hid ((q : Int) ≠ 15 → ckS l (j + 1) = rchN (ckS l j) (fun _ => t2) nd nk 1) := by
             rw [← ht2, ← hnk]; exact HSN1.out
            replace HSN2 : Hid ((q : Int) = 15 → ckS l (j + 1) = rchN (ckS l j) (fun e => if e = 0 then t1 else t2) nd nk 2) := by
             rw [← ht2, ← hnk, ← ht1]; exact HSN2.out
            have HT1 := Lib.hid ht1
            have HTT := Lib.hid ht2
            have HNK := Lib.hid hnk
            clear HFR ht1 ht2 hnk
            have HGT : Hid ((q = 14 ∨ q = 15) → ∀ W, Below w4.heap.size w4 W → Calls Tryz.prog 35 #[.slice (some ⟨b, off, none⟩) n cap, .int .i64 (j : Int)] W fun e w' => e = .returned (.int .i64 (t2 : Int)) ∧ Below W.heap.size W w') := by
             rintro hq W hb
             obtain ⟨o0, o1⟩ := HOC4.out W hb
             have hfar := HFI.out
             rw [← HTT.out]
             rcases hq with rfl | rfl
             ·have hfz : furI ((14 : Nat) : Int) z = z := rfl
              rw [hfz] at hfar
              refine (goesTo_14 b off n cap j z W hlt hn1 o0 o1 (by omega)).mono ?_
              rintro e w' ⟨he, rfl⟩
              exact ⟨he, Below.refl _ _⟩
             ·have hfz : furI ((15 : Nat) : Int) z = z.tdiv 4 := rfl
              rw [hfz] at hfar
              refine (goesTo_15 b off n cap j z W hlt hn1 o0 o1 (by omega) HI64.out).mono ?_
              rintro e w' ⟨he, rfl⟩
              exact ⟨he, Below.refl _ _⟩
            cases al
            ·have HR := Lib.hid (HER.out rfl)
             go_wp2_with fail
             refine bodyPost_ret (v := .tuple #[.int .i64 0, .int .i64 4]) (by simp [results, Tryz.results9, go_sem] <;> rfl) rfl ?_
             exact ⟨by rw [HR.out.1, HR.out.2], HBW.out.trans ((HB4.out.trans (HBX2.out.mono HB4.out.size)).mono HBW.out.size)⟩
            ·have HFN := Lib.hid (HF2.out rfl)
             have HN0 := Lib.hid (HNB.out rfl)
             clear HF2 HNB HER HAL
             go_upto_if 198 with fail
             go_cut [] from 59 to 261 (fun wx => NxAt wx w4.heap.size g kb L c nd nk ∧ Below w4.heap.size w4 wx)
             case first =>
              by_cases h16 : q = 16
              ·have hd := kbelow_dN (Below.refl W6.heap.size W6) 1
               have HNXd : Hid (NxAt W6.drew w4.heap.size g kb L c nd kj) := Lib.hid (HNX2.out.below hd)
               have HBXd : Hid (Below w4.heap.size w4 W6.drew) := Lib.hid (HBX2.out.trans (hd.mono HBX2.out.size))
               clear hd
               have q16 : ((q : Int) == 16) = true := by rw [h16]; rfl
               obtain ⟨zn, hzn⟩ : ∃ zn : Nat, z = (zn : Int) := ⟨z.toNat, by have := fits_line HFT.out (.inr (by omega)); omega⟩
               have hznL : zn < L := by have := fits_line HFT.out (.inr (by omega)); omega
               have hznI : (zn : Int) < (L : Int) := by omega
               have hc := (HNXd.out.kp.2 zn hznL).1
               have hf := (HNXd.out.kp.2 zn hznL).2
               have g1 := HNXd.out.bx.at 1 rfl
               obtain ⟨o0, o1⟩ := HOC4.out _ HBXd.out
               have HK16 : Hid (nk = kj ||| 2 ^ zn) := by unfold Hid; rw [← HNK.out]; unfold nxK; rw [if_pos h16, hzn, Int.toNat_natCast]
               rw [hzn] at o1
               clear h16 hzn
               as_aux_lemma =>
                go_wp2_with fail
                go_region
                all_goals go_wp2_with fail
                all_goals go_meet
                all_goals exact ⟨by rw [HK16.out]; exact HNXd.out.keep hznL, HBXd.out.setCell (p := ⟨kb, zn, none⟩) HNXd.out.bk (.bool true)⟩
              ·have h16' : ¬ (q : Int) = 16 := by omega
               have q16 : ((q : Int) == 16) = false := by simpa using h16'
               have HK16 : Hid (nk = kj) := by unfold Hid; rw [← HNK.out]; unfold nxK; rw [if_neg h16]
               clear h16 h16'
               as_aux_lemma =>
                go_wp2_with fail
                go_meet
                exact ⟨by rw [HK16.out]; exact HNX2.out, HBX2.out⟩
             case rest =>
              obtain ⟨hnx, hbx⟩ := hcut
              have HNX3 := Lib.hid hnx
              have HBX3 := Lib.hid hbx
              clear hnx hbx HNX2 HBX2
              rename World => W7
              have hw3 : IntKind.i64.wrap ((j : Int) + 1) = (t1 : Int) := by rw [← HT1.out, show ((j + 1 : Nat) : Int) = (j : Int) + 1 by omega]; exact IntWalk.i64_in _ (by omega)
              have hbo := kbelow_box W7 (.cells #[.int .i64 (t1 : Int)] 3)
              have HNX4 := Lib.hid (HNX3.out.below hbo)
              have HBX4 := Lib.hid (HBX3.out.trans (hbo.mono HBX3.out.size))
              have HTO := Lib.hid (ToAt.one W7 w4.heap.size t1 3 HBX3.out.size)
              clear hbo
              go_upto_if 211 with fail
              generalize W7.alloc (.cells #[.int .i64 (t1 : Int)] 3) = W8 at HNX4 HBX4 HTO ⊢
              generalize W7.heap.size = ta at HTO ⊢
              clear HNX3 HBX3
              go_cut [19] from 59 to 261 (fun v wx => ∃ (tb m cm : Nat) (T : Nat → Nat), v = .slice (some ⟨tb, 0, none⟩) m cm ∧ ToAt wx w4.heap.size tb m T ∧ (m ≤ 2 ∧ ∀ e, e < m → T e ≤ n) ∧ ckS l (j + 1) = rchN (ckS l j) T nd nk m ∧ NxAt wx w4.heap.size g kb L c nd nk ∧ Below w4.heap.size w4 wx)
              case first =>
               by_cases h14 : q = 14
               ·have q14 : ((q : Int) == 14) = true := by rw [h14]; rfl
                have HG9 := Lib.hid (HGT.out (.inl h14))
                have HS9 := Lib.hid (HSN1.out (by omega))
                clear h14
                as_aux_lemma =>
                 go_wp2_with fail
                 refine (HG9.out _ HBX4.out).mono ?_
                 rintro e W9 ⟨rfl, hb9⟩
                 have HNX9 := Lib.hid (HNX4.out.below hb9)
                 have HBX9 := Lib.hid (HBX4.out.trans (hb9.mono HBX4.out.size))
                 clear hb9
                 go_wp2_with fail
                 go_meet
                 exact ⟨_, 1, 1, fun _ => t2, rfl, ToAt.one W9 _ _ _ HBX9.out.size, ⟨by omega, fun e he => HT12.out.2⟩, HS9.out, HNX9.out.below (kbelow_box _ _), HBX9.out.trans ((kbelow_box W9 _).mono HBX9.out.size)⟩
               ·have h14' : ¬ (q : Int) = 14 := by omega
                have q14 : ((q : Int) == 14) = false := by simpa using h14'
                clear h14'
                by_cases h15 : q = 15
                ·have q15 : ((q : Int) == 15) = true := by rw [h15]; rfl
                 have HG9 := Lib.hid (HGT.out (.inr h15))
                 have HS9 := Lib.hid (HSN2.out (by omega))
                 clear h14 h15
                 as_aux_lemma =>
                  go_wp2_with fail
                  refine (HG9.out _ HBX4.out).mono ?_
                  rintro e W9 ⟨rfl, hb9⟩
                  have hbo9 := kbelow_box W9 (.cells #[.int .i64 (t2 : Int)] 3)
                  have HNX9 := Lib.hid ((HNX4.out.below hb9).below hbo9)
                  have HBX9 := Lib.hid ((HBX4.out.trans (hb9.mono HBX4.out.size)).trans (hbo9.mono (HBX4.out.trans (hb9.mono HBX4.out.size)).size))
                  have hc1 := ((HTO.out.below hb9).below hbo9).2.2 0 (by omega)
                  have hc2 := (Cbx.made W9 [.int .i64 (t2 : Int)] 3).at 0 rfl
                  obtain ⟨tb, cm, W10, hrun, hb10, hto⟩ := app_two (W9.alloc (.cells #[.int .i64 (t2 : Int)] 3)) ta W9.heap.size t1 t2 hc1 hc2
                  clear hb9 hbo9 hc1 hc2
                  have HB10 := Lib.hid hb10
                  have HTO10 : Hid (ToAt W10 w4.heap.size tb 2 (fun e => if e = 0 then t1 else t2)) := ⟨Nat.le_trans HBX9.out.size hto.1, hto.2⟩
                  clear hto hb10
                  go_wp2_with (at_builtin; refine Lib.wpList_append_run _ rfl _ _ _ _ rfl _ _ rfl rfl _ _ hrun ?_)
                  go_meet
                  exact ⟨tb, 2, cm, _, rfl, HTO10.out, ⟨by omega, fun e he => by split; exact HT12.out.1; exact HT12.out.2⟩, HS9.out, HNX9.out.below HB10.out, HBX9.out.trans (HB10.out.mono HBX9.out.size)⟩
                ·have h15' : ¬ (q : Int) = 15 := by omega
                 have q15 : ((q : Int) == 15) = false := by simpa using h15'
                 have HS9 := Lib.hid (HSN1.out h15')
                 have HE12 : Hid (t2 = t1) := by
                  have h0 : furI (q : Int) z = 0 := by unfold furI; rw [if_neg (by omega), if_neg h15']
                  have := HTT.out
                  rw [h0] at this
                  exact this.symm.trans HT1.out
                 clear h14 h15 h15'
                 as_aux_lemma =>
                  go_wp2_with fail
                  go_meet
                  exact ⟨ta, 1, 1, fun _ => t1, rfl, HTO.out, ⟨by omega, fun e he => HT12.out.1⟩, by rw [HS9.out, HE12.out], HNX4.out, HBX4.out⟩
              case rest =>
               obtain ⟨tb, m, cm, T, rfl, hto, ⟨hm2, hTn⟩, hS, hnx, hbx⟩ := hcut
               rename World => W9
               have HTO9 := Lib.hid hto
               have HTN := Lib.hid hTn
               have HS9 := Lib.hid hS
               have HNX9 := Lib.hid hnx
               have HBX9 := Lib.hid hbx
               clear hto hTn hS hnx hbx HNX4 HBX4 HTO
               have HRA9 := Lib.hid (HRA4.out.below HBX9.out)
               have HBR9 := Lib.hid (HBR4.out.trans (HBX9.out.mono HBR4.out.size))
               have HLT4 : Hid (ab < w4.heap.size ∧ bb < w4.heap.size) := ⟨HRA4.out.la, HRA4.out.lb⟩
               go_wp2_with fail
               generalize hJS : ckS l j = SJ at HRA9 HS9
               have HJS := Lib.hid hJS
               clear hJS
               go_loopw [20] (fun i wx => ∃ (e : Nat) (A C K : Nat → Nat) (M : Nat → Int), e ≤ m ∧ i = .int .i64 e ∧ RAt wx w1.heap.size ab bb n L M A C K (rchN SJ T nd nk e) ∧ NxAt wx w4.heap.size g kb L c nd nk ∧ ToAt wx w4.heap.size tb m T ∧ Below w1.heap.size w1 wx) (fun i _ => m - (intOf i).toNat)
               case atStart => exact ⟨0, A, C, K, M, Nat.zero_le _, rfl, HRA9.out, HNX9.out, HTO9.out, HBR9.out⟩
               case round =>
                skip
                clear HRA9 HNX9 HTO9 HBR9 HBX9
                obtain ⟨e, A', C', K', M', he, rfl, hra, hnx, hto, hb⟩ := hrel
                have HRE := Lib.hid hra
                have HNE := Lib.hid hnx
                have HTE := Lib.hid hto
                have HBE := Lib.hid hb
                clear hra hnx hto hb
                by_cases hem : e < m
                ·have hem' : (e : Int) < (m : Int) := by omega
                 obtain ⟨t, ht⟩ : ∃ x : Nat, T e = x := ⟨_, rfl⟩
                 have htn : t ≤ n := by rw [← ht]; exact HTN.out e hem
                 have htn1 : (t : Int) < (n : Int) + 1 := by omega
                 have hx0 := HTE.out.2.2 e hem
                 rw [ht] at hx0
                 have hSe : rchN SJ T nd nk (e + 1) = rchS (rchN SJ T nd nk e) t nd nk := by rw [← ht]; rfl
                 have HSE := Lib.hid hSe
                 have HTI := Lib.hid ht
                 clear ht hSe
                 generalize rchN SJ T nd nk e = SE at HRE HSE
                 have y0 := (HRE.out.many t htn).1
                 by_cases hr : (SE t).r = false
                 ·have hmn := (HRE.out.non t htn hr).1
                  have HRF := Lib.hid hr
                  clear hr
                  have z0 := HNE.out.bx.at 0 rfl
                  have z1 := HNE.out.bx.at 1 rfl
                  have v1 := HRE.out.kept t htn
                  rw [if_neg (by rw [HRF.out]; decide)] at v1
                  have f0 := (HRE.out.many t htn).2.1
                  have f1 := (HRE.out.many t htn).2.2
                  have hx2 : wr.cell? ⟨tb, e, none⟩ = some (.int .i64 (t : Int)) := by rw [hx0]
                  generalize M' t = mt at y0 hmn
                  as_aux_lemma =>
                   go_wp2_with fail
                   go_region
                   go_wp2_with fail
                   go_roundw
                   case rel => exact ⟨e + 1, updN A' t kb, updN C' t c, updN K' t nk, updF M' t nd, by omega, by go_num, by rw [HSE.out]; exact (HRE.out.lay htn HRF.out nd nk kb c HN0.out HNK2.out ⟨HNE.out.kp.1, by have := HNE.out.bk; have := HLT4.out; omega, by have := HNE.out.bk; have := HLT4.out; omega, by have := HNE.out.bk; have := HBR4.out.size; omega⟩ (fun p hp => (HNE.out.kp.2 p hp).1)).below (kbelow_dN (Below.refl _ _) 1), ((HNE.out.aside HLT4.out.1 _).aside HLT4.out.1 _).below (kbelow_dN (Below.refl _ _) 1), ((HTE.out.aside HLT4.out.1 _).aside HLT4.out.1 _).below (kbelow_dN (Below.refl _ _) 1), kbelow_dN ((HBE.out.setCell (p := ⟨ab, t * 2, none⟩) HRE.out.ba _).setCell (p := ⟨ab, t * 2 + 1, none⟩) HRE.out.ba _) 1⟩
                   case measure => simp [intOf]; omega
                 ·have hr' : (SE t).r = true := by simpa using hr
                  obtain ⟨⟨hm0', hk2'⟩, hA', hcs'⟩ := HRE.out.yes t htn hr'
                  have hkt := HRE.out.kept t htn
                  rw [if_pos hr'] at hkt
                  have HRT := Lib.hid hr'
                  have HONE' := Lib.hid (HRE.out.one t htn hr')
                  clear hr hr'
                  have z0 := HNE.out.bx.at 0 rfl
                  have z1 := HNE.out.bx.at 1 rfl
                  have HKA : Hid (KeptAt wr (some ⟨A' t, 0, none⟩) L (K' t)) := .inr ⟨A' t, rfl, hA'.1, hcs'⟩
                  have HKN : Hid (KeptAt wr (some ⟨kb, 0, none⟩) L nk) := .inr ⟨kb, rfl, HNE.out.kp.1, fun p hp => (HNE.out.kp.2 p hp).1⟩
                  have HKL := Lib.hid hk2'
                  clear hA' hcs' hk2'
                  obtain ⟨mt, hmt⟩ : ∃ x, M' t = x := ⟨_, rfl⟩
                  obtain ⟨at', hat'⟩ : ∃ x, A' t = x := ⟨_, rfl⟩
                  obtain ⟨ct, hct⟩ : ∃ x, C' t = x := ⟨_, rfl⟩
                  obtain ⟨kt, hkt'⟩ : ∃ x, K' t = x := ⟨_, rfl⟩
                  rw [hmt] at y0 hm0' HONE'
                  rw [hat', hct] at hkt
                  rw [hat', hkt'] at HKA
                  rw [hkt'] at HKL HONE'
                  have HMT := Lib.hid (And.intro hmt hkt')
                  clear hmt hat' hct hkt'
                  obtain ⟨sm, hsm⟩ : ∃ x, (decide (mt = nd) && decide (kt = nk)) = x := ⟨_, rfl⟩
                  have HSL : Hid (∀ W, Below wr.heap.size wr W → Calls Tryz.prog 36 #[.agg #[.int .i64 mt, .slice (some ⟨at', 0, none⟩) L ct], .agg #[.int .i64 nd, .slice (some ⟨kb, 0, none⟩) L c]] W fun e w' => e = .returned (.bool sm) ∧ Below W.heap.size W w') := by
                   intro W hb
                   rw [← hsm]
                   exact SameLying_ref mt nd _ _ L ct c kt nk W hL40 (HKA.out.below hb) (HKN.out.below hb) HKL.out HNK2.out
                  have HSM := Lib.hid hsm
                  clear hsm
                  have y1 : wr.cell? ⟨tb, e, none⟩ = some (.int .i64 (t : Int)) := by rw [HTE.out.2.2 e hem, HTI.out]
                  have r0 := cell_regrown y0
                  have r1 := cell_regrown hkt
                  have r2 := cell_regrown z0
                  have r3 := cell_regrown z1
                  have r4 := cell_regrown y1
                  go_wp2_with fail
                  refine wp_region_quiet_below (by kernel_rfl) (by kernel_rfl) ?_
                  repeat (go_big_quiet_step (exact Calls.regrown_of (HSL.out _ (below_regrown _ _ _))))
                  refine wpQuiet_nil ?_
                  intro _ hw'
                  obtain ⟨⟨dq, osq⟩, hw''⟩ := hw'
                  subst hw''
                  have hq := below_regrown wr dq osq
                  have HREq := Lib.hid (HRE.out.below hq)
                  have HNEq := Lib.hid (HNE.out.below hq)
                  have HTEq := Lib.hid (HTE.out.below hq)
                  have HBEq := Lib.hid (HBE.out.trans (hq.mono HBE.out.size))
                  clear hq r0 r1 r2 r3 r4 y0 y1 z0 z1 hkt hx0 HRE HNE HTE HBE
                  generalize Go.Sort.grow (redrawn wr dq) osq = W11 at HREq HNEq HTEq HBEq ⊢
                  cases sm
                  ·have hbd := (HREq.out.bad t htn).1
                   have hbf := (HREq.out.bad t htn).2
                   have hx1 : W11.cell? ⟨tb, e, none⟩ = some (.int .i64 (t : Int)) := by rw [HTEq.out.2.2 e hem, HTI.out]
                   have HHU : Hid (hungB (SE t).d (SE t).k nd nk (SE t).r (SE t).h = true) := by
                    unfold Hid hungB
                    rw [HRT.out]
                    cases hh : (SE t).h
                    ·have h1 := HONE'.out hh
                     have h2 := HSM.out
                     rw [h1.1, h1.2] at h2
                     simp only [Bool.false_or, Bool.true_and]
                     have h3 : (decide (((SE t).k : Int) = (nk : Int))) = decide ((SE t).k = nk) := by
                      by_cases e9 : (SE t).k = nk
                      ·rw [e9]; simp
                      ·rw [decide_eq_false e9, decide_eq_false (by omega)]
                     rw [h3, h2]; rfl
                    ·rfl
                   generalize (SE t).h = hb0 at hbd
                   as_aux_lemma =>
                    go_wp2_with fail
                    go_roundw
                    case rel => exact ⟨e + 1, A', C', K', M', by omega, by go_num, by rw [HSE.out]; exact HREq.out.mark htn HRT.out nd nk HHU.out, HNEq.out.aside HLT4.out.2 _, HTEq.out.aside HLT4.out.2 _, HBEq.out.setCell (p := ⟨bb, t, none⟩) HREq.out.bb' _⟩
                    case measure => simp [intOf]; omega
                  ·have HSD : Hid (M' t = nd ∧ K' t = nk) := by
                    have h1 := HSM.out
                    simp only [Bool.and_eq_true, decide_eq_true_eq] at h1
                    exact ⟨HMT.out.1.trans h1.1, HMT.out.2.trans h1.2⟩
                   as_aux_lemma =>
                    go_wp2_with fail
                    go_roundw
                    case rel => exact ⟨e + 1, A', C', K', M', by omega, by go_num, by rw [HSE.out]; exact HREq.out.again htn HRT.out nd nk (.inr HSD.out), HNEq.out, HTEq.out, HBEq.out⟩
                    case measure => simp [intOf]; omega
                ·obtain rfl : e = m := by omega
                 go_wp2_with fail
                 go_roundw
                 case rel =>
                  have h1 := HT1.out
                  exact ⟨t1, M', A', C', K', by omega, rfl, by rw [h1], by rw [← h1, HS9.out]; exact HRE.out, by rw [← h1]; exact HFN.out, HBE.out⟩
                 case measure =>
                  have h1 := HT1.out
                  simp [intOf]
                  omega
         ·rw [hh] at e0 HST
          simp only [if_true] at HST
          have HR : Hid (chkE k l (L : Int) = 4 ∧ chkN k l (L : Int) = 0) := by
           have e1 : firstE (ckE l (L : Int) n1 n2 n3) n = 4 := by rw [firstE_err hlt HFE.out (by rw [HST.out]; decide), HST.out]
           have e2 : chkE k l (L : Int) = 4 := by rw [HCE.out, e1]; rfl
           exact ⟨e2, by rw [HCN.out, e2]; rfl⟩
          clear hh HST
          generalize M j = mj at m0 hm0
          go_wp2_with fail
          refine bodyPost_ret (v := .tuple #[.int .i64 0, .int .i64 4]) (by simp [results, Tryz.results9, go_sem] <;> rfl) rfl ?_
          exact ⟨by rw [HR.out.1, HR.out.2], HBW.out.trans (HB4.out.mono HBW.out.size)⟩
       ·have hwN : (woE (bnth l j).frm (bnth l j).rate (L : Int) n1 n2 n3 n j != 0) = true := by simpa using hwo
        have hwB : (woE (bnth l j).frm (bnth l j).rate (L : Int) n1 n2 n3 n j == 0) = false := by simpa using hwo
        have HR : Hid (chkE k l (L : Int) = woE (bnth l j).frm (bnth l j).rate (L : Int) n1 n2 n3 n j ∧ chkN k l (L : Int) = 0) := by
         have e0 : ckE l (L : Int) n1 n2 n3 j = woE (bnth l j).frm (bnth l j).rate (L : Int) n1 n2 n3 n j := HCK.out.trans (HWS.out.1 hwo)
         have e1 : firstE (ckE l (L : Int) n1 n2 n3) n = woE (bnth l j).frm (bnth l j).rate (L : Int) n1 n2 n3 n j := by rw [firstE_err hlt HFE.out (by rw [e0]; exact hwo), e0]
         have e2 : chkE k l (L : Int) = woE (bnth l j).frm (bnth l j).rate (L : Int) n1 n2 n3 n j := by rw [HCE.out, e1, if_pos hwo]
         exact ⟨e2, by rw [HCN.out, e2, if_neg hwo]⟩
        clear hwo HWS HCK HCE HCN
        generalize woE (bnth l j).frm (bnth l j).rate (L : Int) n1 n2 n3 n j = we at *
        go_wp2_with fail
        refine bodyPost_ret (v := .tuple #[.int .i64 0, .int .i64 we]) (by simp [results, Tryz.results9, go_sem] <;> rfl) rfl ?_
        exact ⟨by rw [HR.out.1, HR.out.2], HBW.out.trans (HB4.out.mono HBW.out.size)⟩
      ·have hend : n = j := by omega
       subst hend
       clear hlt hj
       have hrn : (ckS l n n).r = true := by
        have h := reach_end (l := l) (lines := (L : Int)) (n1 := n1) (n2 := n2) (n3 := n3) (by rw [HN.out]; exact HFE.out)
        rw [HN.out] at h
        exact h
       obtain ⟨⟨hm0, hk2⟩, hA, hcs⟩ := HRA.out.yes n (Nat.le_refl _) hrn
       have hkt := HRA.out.kept n (Nat.le_refl _)
       rw [if_pos hrn] at hkt
       have m0 := (HRA.out.many n (Nat.le_refl _)).1
       have e0 := (HRA.out.bad n (Nat.le_refl _)).1
       have HONE := Lib.hid (HRA.out.one n (Nat.le_refl _) hrn)
       obtain ⟨mj, hmj⟩ : ∃ x : Int, M n = x := ⟨_, rfl⟩
       obtain ⟨aj, haj⟩ : ∃ x : Nat, A n = x := ⟨_, rfl⟩
       obtain ⟨cj, hcj⟩ : ∃ x : Nat, C n = x := ⟨_, rfl⟩
       obtain ⟨kj, hkj⟩ : ∃ x : Nat, K n = x := ⟨_, rfl⟩
       rw [hmj] at m0 hm0 HONE
       rw [haj, hcj] at hkt
       rw [hkj] at hk2 HONE
       rw [haj] at hA
       have HCS : Hid (∀ p, p < L → wr.cell? ⟨aj, p, none⟩ = some (.bool (kj.testBit p))) := by
        intro p hp
        rw [← haj, ← hkj]
        exact hcs p hp
       have HK2 := Lib.hid hk2
       have HBF : Hid (Below w.heap.size w wr) := HBW.out
       clear hmj haj hcj hkj hcs hk2 hrn hA
       have hFB : decide (mj < 0) = false := decide_eq_false (by omega)
       have hnn : ¬ (n : Int) < (n : Int) := by omega
       have HEB : Hid (chkE k l (L : Int) = if ckEnd l (L : Int) = true then 0 else 4) := by
        unfold Hid
        have h := HCE.out
        rw [if_neg (by rw [HFE.out]; simp)] at h
        exact h
       cases hh : (ckS l n n).h
       ·rw [hh] at e0
        have h1 := HONE.out hh
        have HCB : Hid (ckEnd l (L : Int) = allB (mj == 0) kj L) := by
         unfold Hid ckEnd
         rw [HN.out, hh, Int.toNat_natCast, ← h1.1, ← h1.2, all_end HK2.out]
         rfl
        clear hh h1
        go_wp2_with fail
        obtain ⟨b0, hb0⟩ : ∃ x, (mj == 0) = x := ⟨_, rfl⟩
        rw [hb0] at HCB
        rw [hb0]
        clear hb0 m0 e0
        go_loopw [15, 16] (fun v i wx => ∃ u : Nat, u ≤ L ∧ i = .int .i64 u ∧ v = .bool (allB b0 kj u) ∧ wx = wr) (fun _ i _ => L - (intOf i).toNat)
        case atStart => exact ⟨0, Nat.zero_le _, rfl, rfl, rfl⟩
        case round =>
         obtain ⟨u, hu, rfl, rfl, rfl⟩ := hrel
         by_cases huL : u < L
         ·have huI : (u : Int) < (L : Int) := by omega
          have hc := HCS.out u huL
          obtain ⟨r, hr⟩ : ∃ x, allB b0 kj u = x := ⟨_, rfl⟩
          obtain ⟨t, ht⟩ : ∃ x, kj.testBit u = x := ⟨_, rfl⟩
          have HN3 : Hid (allB b0 kj (u + 1) = (r && t)) := by unfold Hid; rw [allB, hr, ht]
          rw [ht] at hc
          rw [hr]
          clear hr ht
          cases r
          ·as_aux_lemma =>
            go_wp2_with fail
            go_roundw
            case rel => exact ⟨u + 1, by omega, by go_num, by rw [HN3.out]; rfl, by first | trivial | rfl⟩
            case measure => simp [intOf]; omega
          ·as_aux_lemma =>
            go_wp2_with fail
            go_roundw
            case rel => exact ⟨u + 1, by omega, by go_num, by rw [HN3.out]; cases t <;> rfl, by first | trivial | rfl⟩
            case measure => simp [intOf]; omega
         ·have hend : L = u := by omega
          have huN : ¬ (L : Int) < (L : Int) := by omega
          subst hend
          obtain ⟨r, hr⟩ : ∃ x, allB b0 kj L = x := ⟨_, rfl⟩
          rw [hr] at HCB ⊢
          clear hr
          cases r
          ·have HR : Hid (chkE k l (L : Int) = 4 ∧ chkN k l (L : Int) = 0) := by
            have e2 : chkE k l (L : Int) = 4 := by rw [HEB.out, HCB.out]; rfl
            exact ⟨e2, by rw [HCN.out, e2]; rfl⟩
           as_aux_lemma =>
            go_wp2_with fail
            refine bodyPost_ret (v := .tuple #[.int .i64 0, .int .i64 4]) (by simp [results, Tryz.results9, go_sem] <;> rfl) rfl ?_
            exact ⟨by rw [HR.out.1, HR.out.2], HBF.out⟩
          ·have HR : Hid (chkE k l (L : Int) = 0 ∧ chkN k l (L : Int) = rmM l n) := by
            have e2 : chkE k l (L : Int) = 0 := by rw [HEB.out, HCB.out]; rfl
            refine ⟨e2, ?_⟩
            obtain ⟨hps, -⟩ := chk_pass e2
            have h := most_same hps
            rw [HN.out] at h
            rw [HCN.out, if_pos e2, h]
           as_aux_lemma =>
            go_wp2_with fail
            refine bodyPost_ret (v := .tuple #[.int .i64 (rmM l n), .int .i64 0]) (by simp [results, Tryz.results9, go_sem] <;> rfl) rfl ?_
            exact ⟨by rw [HR.out.1, HR.out.2], HBF.out⟩
       ·rw [hh] at e0
        have HR : Hid (chkE k l (L : Int) = 4 ∧ chkN k l (L : Int) = 0) := by
         have hce : ckEnd l (L : Int) = false := by unfold ckEnd; rw [HN.out, hh]; rfl
         have e2 : chkE k l (L : Int) = 4 := by rw [HEB.out, hce]; rfl
         exact ⟨e2, by rw [HCN.out, e2]; rfl⟩
        clear hh
        as_aux_lemma =>
         go_wp2_with fail
         refine bodyPost_ret (v := .tuple #[.int .i64 0, .int .i64 4]) (by simp [results, Tryz.results9, go_sem] <;> rfl) rfl ?_
         exact ⟨by rw [HR.out.1, HR.out.2], HBF.out⟩
  ·rw [if_pos hke] at HCE
   have hkB : (knE k == 0) = false := by simpa using hke
   have hkN : (knE k != 0) = true := by simpa using hke
   have HR : Hid (chkN k l (L : Int) = 0) := by unfold Hid; rw [HCN.out, HCE.out, if_neg hke]
   clear hke
   go_wp2_with fail
   refine bodyPost_ret (v := .tuple #[.int .i64 0, .int .i64 (knE k)]) (by simp [results, Tryz.results9, go_sem] <;> rfl) rfl ?_
   exact ⟨by rw [HR.out, HCE.out], HB1.out⟩
end Go.Proofs.YtmlpedgcpffpnaaGreatDoor
