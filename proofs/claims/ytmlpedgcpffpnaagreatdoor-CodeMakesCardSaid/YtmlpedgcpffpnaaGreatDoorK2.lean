/-
  The walk of the law CodeRuns.
  The walk of the law CodeMakes.
-/
import Derived.Test.YtmlpedgcpffpnaaGreatDoorKT
import Derived.Test.YtmlpedgcpffpnaaGreatDoorKU
import Derived.Test.YtmlpedgcpffpnaaGreatDoorKN
import Derived.Test.YtmlpedgcpffpnaaGreatDoorKY
import Derived.Test.YtmlpedgcpffpnaaGreatDoorKZ
import Derived.Test.YtmlpedgcpffpnaaGreatDoorKX
set_option linter.unusedSimpArgs false
namespace Go.Proofs.YtmlpedgcpffpnaaGreatDoor
open Go.RowKit
theorem same_nils (w : World) : Calls Tryz.prog 19 #[.slice none 0 0, .slice none 0 0] w fun e w' => e = .returned (.bool true) ∧ Below w.heap.size w w' := by
 go_enter Tryz.func19, Tryz.ntmps19
 go_wp2_with fail
 go_loopw [5] (fun i wr => i = .int .i64 0 ∧ Below w.heap.size w wr) (fun _ _ => 0)
 case atStart => exact ⟨rfl, Below.refl _ _⟩
 case round =>
  obtain ⟨rfl, hb⟩ := hrel
  have HB := Lib.hid hb
  clear hb
  go_wp2_with fail
  go_ret
  exact ⟨rfl, HB.out⟩
theorem are_nils (e : Int) (w : World) : Calls Tryz.prog 12 #[.slice none 0 0, .int .i64 e, .int .i64 e, .slice none 0 0] w fun e w' => e = .returned (.bool true) ∧ Below w.heap.size w w' := by
 by_cases h : e = 0
 ·subst h
  go_enter Tryz.func12, Tryz.ntmps12
  go_wp2_with fail
  refine (same_nils _).mono ?_
  rintro e w1 ⟨rfl, hb⟩
  have HB := Lib.hid hb
  clear hb
  go_wp2_with fail
  go_ret
  exact ⟨rfl, HB.out⟩
 ·have hB : (e == 0) = false := by simpa using h
  have hN : (e != 0) = true := by simpa using h
  clear h
  go_enter Tryz.func12, Tryz.ntmps12
  go_wp2_with fail
  refine (same_nils _).mono ?_
  rintro e w1 ⟨rfl, hb⟩
  have HB := Lib.hid hb
  clear hb
  go_wp2_with fail
  go_ret
  exact ⟨rfl, HB.out⟩
theorem are_rows (b b' n c c' : Nat) (F : Nat → Int) (w : World) (hn : n ≤ 1000000) (h : ∀ j, j < n → w.cell? ⟨b, j, none⟩ = some (.int .i64 (F j))) (h' : ∀ j, j < n → w.cell? ⟨b', j, none⟩ = some (.int .i64 (F j))) :
 Calls Tryz.prog 12 #[.slice (some ⟨b, 0, none⟩) n c, .int .i64 0, .int .i64 0, .slice (some ⟨b', 0, none⟩) n c'] w fun e w' => e = .returned (.bool true) ∧ Below w.heap.size w w' := by
 have HS := Lib.hid (same_rows b b' n c c' F w hn h h')
 clear h h'
 go_enter Tryz.func12, Tryz.ntmps12
 go_wp2_with fail
 refine HS.out.mono ?_
 rintro e w1 ⟨rfl, hb⟩
 have HB := Lib.hid hb
 clear hb
 go_wp2_with fail
 go_ret
 exact ⟨rfl, HB.out⟩
end Go.Proofs.YtmlpedgcpffpnaaGreatDoor
set_option linter.unusedSimpArgs false
namespace Go.Proofs.YtmlpedgcpffpnaaGreatDoor
open Go.RowKit Go.Maps Go.WideMaps
theorem fits_i64 {d z lines : Int} {n1 n2 n3 n at_ : Nat} (h : fitsB d z lines n1 n2 n3 n at_ = true) (hl : lines ≤ 40) (h1 : n1 ≤ 30) (h2 : n2 ≤ 30) (h3 : n3 ≤ 30) (hn : n ≤ 10000) : I64 z := by
 unfold I64
 unfold fitsB at h
 split at h
 ·have h' : 0 ≤ z ∧ z < (n : Int) - at_ := by simpa [jumpB, lowB] using h
  omega
 ·split at h
  ·have h' : (1 ≤ z.tmod 4 ∧ z.tmod 4 ≤ 3) ∧ 0 ≤ z.tdiv 4 ∧ z.tdiv 4 < (n : Int) - at_ := by simpa [testB, lowB] using h
   have := Int.mul_tdiv_add_tmod z 4
   omega
  ·unfold fitB at h
   (repeat' split at h) <;> simp [monB, lowB] at h <;> omega
theorem pass_i64 {P : List Bk} {lines : Int} {n1 n2 n3 : Nat} (hp : Pass P lines n1 n2 n3) (h1 : n1 ≤ 30) (h2 : n2 ≤ 30) (h3 : n3 ≤ 30) : ∀ j, j < P.length → I64 (bnth P j).rate := fun j hj =>
 fits_i64 (stpE_ok (firstE_zeroK2 hp.steps j hj)).2.1 hp.l40 h1 h2 h3 hp.many
theorem same_0z (x1 x2 : Option Addr) (c1 c2 : Nat) (w : World) : Calls Tryz.prog 19 #[.slice x1 0 c1, .slice x2 0 c2] w fun e w' => e = .returned (.bool true) ∧ Below w.heap.size w w' := by
 go_enter Tryz.func19, Tryz.ntmps19
 go_wp2
 go_loop [5] (fun i => i = .int .i64 0) (fun _ => 0)
 case atStart => rfl
 case round =>
  subst hrel
  go_wp2
  go_ret
  exact ⟨rfl, Below.refl _ _⟩
theorem are_zero (x1 x2 : Option Addr) (c1 c2 : Nat) (w : World) : Calls Tryz.prog 12 #[.slice x1 0 c1, .int .i64 0, .int .i64 0, .slice x2 0 c2] w fun e w' => e = .returned (.bool true) ∧ Below w.heap.size w w' := by
 have HS := Lib.hid (same_0z x1 x2 c1 c2 w)
 go_enter Tryz.func12, Tryz.ntmps12
 go_wp2_with fail
 refine HS.out.mono ?_
 rintro e w1 ⟨rfl, hb⟩
 have HB := Lib.hid hb
 clear hb
 go_wp2_with fail
 go_ret
 exact ⟨rfl, HB.out⟩
theorem are_both {w : World} {b L B : Nat} {V : Nat → Int} {v : Value} {vs : List Int} (hL : vs.length = L) (hb : ∀ j, j < L → w.cell? ⟨b, j, none⟩ = some (.int .i64 (V j))) (hV : ∀ p, p < vs.length → V p = vs.getD p 0) (hg : Grow w B v vs) (h40 : L ≤ 40) :
 Calls Tryz.prog 12 #[.slice (some ⟨b, 0, none⟩) L L, .int .i64 0, .int .i64 0, v] w fun e w' => e = .returned (.bool true) ∧ Below w.heap.size w w' := by
 subst hL
 by_cases h0 : vs.length = 0
 ·obtain ⟨_, h2⟩ := hg
  rcases h2 with ⟨rfl, _⟩ | ⟨g, c, cur, rfl, _⟩
  ·rw [h0]; exact are_zero _ _ _ _ w
  ·rw [h0]; exact are_zero _ _ _ _ w
 ·obtain ⟨g, c, rfl, _, ho⟩ := hg.own (by omega)
  refine are_rows b g vs.length vs.length c V w (by omega) hb fun j hj => ?_
  rw [hV j hj]
  exact (ho.2 j hj).1
set_option maxRecDepth 100000 in
set_option maxHeartbeats 2000000 in
theorem walk_codeMakes (a : Option Addr) (n cap : Nat) (l : List Ln) (a1 : Option Addr) (n1 c1 : Nat) (a2 : Option Addr) (n2 c2 : Nat) (a3 : Option Addr) (n3 c3 : Nat) (k : Kn) {w : World} (hl : CameL w a l) (hn : l.length = n) (hm : n ≤ maxLen) (hc : CameK w a1 a2 a3 k) (h1 : k.ins.length = n1) (h2 : k.tbs.length = n2) (h3 : k.yrs.length = n3) (hV : Shp w ∧ Doo w ∧ Eff w) :
 Calls Tryz.prog 3 #[.slice a n cap, .agg #[.slice a1 n1 c1, .slice a2 n2 c2, .slice a3 n3 c3]] w fun e w' => e = .returned (.bool true) ∧ Below w.heap.size w w' := by
 have HB0 := Lib.hid (kbelow_box w (.cells #[.slice a1 n1 c1, .slice a2 n2 c2, .slice a3 n3 c3] 26))
 have HKB := Lib.hid (Cbx.made w [.slice a1 n1 c1, .slice a2 n2 c2, .slice a3 n3 c3] 26)
 have HE := Lib.hid hV.2.2
 have HMK := Lib.hid (fun w' (hb : Below w.heap.size w w') => Make_any a n cap l a1 a2 a3 n1 n2 n3 c1 c2 c3 k w' (hV.1.below hb) (hV.2.1.below hb) (hl.below hb) hn hm (hc.below hb) h1 h2 h3)
 have HBI := Lib.hid (fun w' (hb : Below w.heap.size w w') => lines_ref a n cap l a1 a2 a3 n1 n2 n3 c1 c2 c3 k w' (hl.below hb) hn hm (hc.below hb) h1 h2 h3)
 have HVL := Lib.hid (fun w' (hb : Below w.heap.size w w') => valueLines_ref a n cap l a1 a2 a3 n1 n2 n3 c1 c2 c3 k w' (hl.below hb) hn hm (hc.below hb) h1 h2 h3)
 have HCK := Lib.hid (And.intro (And.intro hn hc) (And.intro h1 (And.intro h2 h3)))
 clear hl hn hm hc h1 h2 h3 hV
 have x0 := HKB.out.at 0 rfl
 have x1 := HKB.out.at 1 rfl
 have x2 := HKB.out.at 2 rfl
 go_enter Tryz.func3, Tryz.ntmps3
 go_wp2_with fail
 refine (HMK.out _ HB0.out).mono ?_
 rintro e w1 ⟨hb1, ⟨i, er, h0, hbi, rfl⟩ | ⟨hok, v, B, hB, hg, rfl⟩⟩
 ·have HB1 := Lib.hid (HB0.out.trans (hb1.mono HB0.out.size))
  replace HKB := Lib.hid (HKB.out.below hb1 HKB.out.lt)
  clear hb1 x0 x1 x2 HMK
  have x0 := HKB.out.at 0 rfl
  have x1 := HKB.out.at 1 rfl
  have x2 := HKB.out.at 2 rfl
  have HBE := Lib.hid hbi
  have hB1 : (er != 0) = true := by simpa using h0
  have hB2 : (er == 0) = false := by simpa using h0
  have hB3 : (er == er) = true := by simp
  have hB4 : (er != er) = false := by simp
  clear h0 hbi
  go_wp2_with fail
  refine (HBI.out _ HB1.out).mono ?_
  rintro e w2 ⟨i2, er2, rfl, hbi2, hb2⟩
  obtain ⟨rfl, rfl⟩ := HBE.out.unique hbi2
  have HB2 := Lib.hid (HB1.out.trans (hb2.mono HB1.out.size))
  clear hbi2 hb2 x0 x1 x2 HBI HVL
  go_wp2_with fail
  refine (codeBegun_any _ (HE.out.below HB2.out)).mono ?_
  rintro e w3 ⟨rfl, hbw3⟩
  have HSw3 := Lib.hid hbw3
  have HB3 := Lib.hid (HB2.out.trans (hbw3.mono HB2.out.size))
  clear hbw3
  go_wp2_with fail
  refine (codeBegun_any _ (HE.out.below HB3.out)).mono ?_
  rintro e w4 ⟨rfl, hbw4⟩
  have HSw4 := Lib.hid hbw4
  have HB4 := Lib.hid (HB3.out.trans (hbw4.mono HB3.out.size))
  clear hbw4
  go_wp2_with fail
  go_ret
  exact ⟨rfl, HB4.out⟩
 ·have HOK := Lib.hid hok
  have HB1 := Lib.hid (HB0.out.trans (hb1.mono HB0.out.size))
  replace HKB := Lib.hid (HKB.out.below hb1 HKB.out.lt)
  clear hb1 x0 x1 x2 HMK
  have x0 := HKB.out.at 0 rfl
  have x1 := HKB.out.at 1 rfl
  have x2 := HKB.out.at 2 rfl
  have HCHK := Lib.hid (lines_check hok)
  have HLN : Hid (l.length = n ∧ n ≤ 40) := Lib.hid ⟨HCK.out.1.1, by have := linesE_40 hok.err; have := HCK.out.1.1; omega⟩
  have HB0' : Hid (BindIs l k 0 0) := Lib.hid (.inr (.inr ⟨hok.err, hok.known, .inl ⟨rfl, rfl, hok.ok⟩⟩))
  have h30 := knE_30 hok.known
  obtain ⟨hps, hkn0⟩ := chk_pass (HCHK.out.1)
  have HPS := Lib.hid hps
  have HI64 := Lib.hid (pass_i64 hps h30.1 h30.2.1 h30.2.2)
  have HKR := Lib.hid (kn_right hkn0)
  obtain ⟨xv, cv, rfl, hcb⟩ := hg.slice
  have HFIN := Lib.hid (fun (s : MS) hr hf => lines_fin hok (s := s) hr hf)
  clear hok hB hg hps hkn0 h30
  generalize hP : linesC l k l.length = P at *
  rw [HLN.out.1] at HPS HCHK
  generalize hN : P.length = N at *
  have HNN := Lib.hid hN
  have HCB := Lib.hid hcb
  have hN1 : decide ((10000 : Int) < (N : Int)) = false := decide_eq_false (by have := HCHK.out.2.2; omega)
  have HCF := Lib.hid (fun w' (hb : Below w1.heap.size w1 w') => checkProgram_ref xv N cv P (n : Int) a1 a2 a3 n1 n2 n3 c1 c2 c3 k w' (HCB.out.below hb) HNN.out (by have := HCHK.out.2.2; unfold maxLen; omega) (HCK.out.1.2.below (HB1.out.trans (hb.mono HB1.out.size))) HCK.out.2.1 HCK.out.2.2.1 HCK.out.2.2.2 (fun j hj => HI64.out j hj))
  have HRP := Lib.hid (fun w' (hb : Below w1.heap.size w1 w') => runProgram_ref xv N cv P n a1 a2 a3 n1 n2 n3 c1 c2 c3 k w' (HCB.out.below hb) HNN.out (HCK.out.1.2.below (HB1.out.trans (hb.mono HB1.out.size))) HCK.out.2.1 HCK.out.2.2.1 HCK.out.2.2.2 (fun j hj => HI64.out j hj) (by have h := HPS.out; rw [HCK.out.2.1, HCK.out.2.2.1, HCK.out.2.2.2] at h; exact h) HKR.out)
  have HX1 := Lib.hid (Below.refl w1.heap.size w1)
  clear hcb hP hN
  go_wp2_with fail
  refine (HBI.out _ HB1.out).mono ?_
  rintro e w2 ⟨i2, er2, rfl, hbi2, hb2⟩
  obtain ⟨rfl, rfl⟩ := HB0'.out.unique hbi2
  have HB2 := Lib.hid (HB1.out.trans (hb2.mono HB1.out.size))
  have HX2 := Lib.hid hb2
  replace HKB := Lib.hid (HKB.out.below hb2 HKB.out.lt)
  clear hbi2 hb2 x0 x1 x2 HBI HX1
  go_wp2_with fail
  refine (codeBegun_any _ (HE.out.below HB2.out)).mono ?_
  rintro e w3 ⟨rfl, hbw3⟩
  have HSw3 := Lib.hid hbw3
  have HB3 := Lib.hid (HB2.out.trans (hbw3.mono HB2.out.size))
  clear hbw3
  have HX3 := Lib.hid (HX2.out.trans (HSw3.out.mono HX2.out.size))
  replace HKB := Lib.hid (HKB.out.below HSw3.out HKB.out.lt)
  have x0 := HKB.out.at 0 rfl
  have x1 := HKB.out.at 1 rfl
  have x2 := HKB.out.at 2 rfl
  go_wp2_with fail
  refine (HCF.out _ HX3.out).mono ?_
  rintro e w4 ⟨rfl, hb4⟩
  rw [HCHK.out.1]
  have hcnB : decide ((20 : Int) < chkN k P (n : Int)) = false := decide_eq_false (by have := HCHK.out.2.1; omega)
  have HB4 := Lib.hid (HB3.out.trans (hb4.mono HB3.out.size))
  have HX4 := Lib.hid (HX3.out.trans (hb4.mono HX3.out.size))
  replace HKB := Lib.hid (HKB.out.below hb4 HKB.out.lt)
  clear hb4 x0 x1 x2 HCF
  have x0 := HKB.out.at 0 rfl
  have x1 := HKB.out.at 1 rfl
  have x2 := HKB.out.at 2 rfl
  have HCHK2 := Lib.hid HCHK.out.2.2
  clear HCHK
  generalize chkN k P (n : Int) = cn at *
  go_wp2_with fail
  refine (HRP.out _ HX4.out).mono ?_
  rintro e w5 ⟨hb5, s, hre, -, hend⟩
  have HB5 := Lib.hid (HB4.out.trans (hb5.mono HB4.out.size))
  replace HKB := Lib.hid (HKB.out.below hb5 HKB.out.lt)
  clear hb5 x0 x1 x2 HRP
  have x0 := HKB.out.at 0 rfl
  have x1 := HKB.out.at 1 rfl
  have x2 := HKB.out.at 2 rfl
  rcases hend with ⟨hat, vb, rfl, hv1, hv2, hv3⟩ | ⟨hat, hms, rfl⟩
  ·have hF := HFIN.out s hre (.inl hat)
   rcases hF with ⟨-, vs, hlv, hvl, hV⟩ | ⟨hlt, -, -⟩
   ·have HV : Hid (vs.length = n ∧ (∀ p, p < vs.length → s.V p = vs.getD p 0) ∧ linesV l k l.length = (vs, true)) := Lib.hid ⟨by have := HLN.out.1; omega, hV, hlv⟩
    have HV5 : Hid (vb < w5.heap.size ∧ ∀ j, j < n → w5.cell? ⟨vb, j, none⟩ = some (.int .i64 (s.V j))) := Lib.hid ⟨hv2, hv3⟩
    clear hv1 hv2 hv3 hV hlv hvl hat hre
    go_wp2_with fail
    refine (HVL.out _ HB5.out).mono ?_
    rintro e w6 ⟨hb6, ⟨i6, er6, h06, hbi6, rfl⟩ | ⟨-, vs', hlv', rfl⟩ | ⟨-, vs', u, B6, hlv', -, hg6, rfl⟩⟩
    ·exact absurd (HB0'.out.unique hbi6).2.symm h06
    ·rw [HV.out.2.2] at hlv'
     cases (Prod.mk.inj hlv').2
    ·rw [HV.out.2.2] at hlv'
     obtain rfl := (Prod.mk.inj hlv').1
     have HB6 := Lib.hid (HB5.out.trans (hb6.mono HB5.out.size))
     have HAR := Lib.hid (are_both (w := w6) (b := vb) (V := s.V) HV.out.1 (fun j hj => (hb6.cell (p := ⟨vb, j, none⟩) HV5.out.1).trans (HV5.out.2 j hj)) HV.out.2.1 hg6 HLN.out.2)
     clear hb6 hg6 hlv' x0 x1 x2
     go_wp2_with fail
     refine HAR.out.mono ?_
     rintro e w7 ⟨rfl, hb7⟩
     have HB7 := Lib.hid (HB6.out.trans (hb7.mono HB6.out.size))
     clear hb7
     go_wp2_with fail
     go_ret
     exact ⟨rfl, HB7.out⟩
   ·have := HNN.out; omega
  ·have hF := HFIN.out s hre (.inr ⟨hat, hms⟩)
   rcases hF with ⟨hlt, -⟩ | ⟨-, -, vs, hlv⟩
   ·have := HNN.out; omega
   ·have HV := Lib.hid hlv
    clear hlv hms hre
    generalize s.at_ = sa at *
    go_wp2_with fail
    refine (HVL.out _ HB5.out).mono ?_
    rintro e w6 ⟨hb6, ⟨i6, er6, h06, hbi6, rfl⟩ | ⟨-, vs', hlv', rfl⟩ | ⟨-, vs', u, B6, hlv', -, hg6, rfl⟩⟩
    ·exact absurd (HB0'.out.unique hbi6).2.symm h06
    ·have HB6 := Lib.hid (HB5.out.trans (hb6.mono HB5.out.size))
     clear hb6 hlv' x0 x1 x2
     generalize (vs'.length : Int) = i9 at *
     go_wp2_with fail
     refine (are_nils 3 _).mono ?_
     rintro e w7 ⟨rfl, hb7⟩
     have HB7 := Lib.hid (HB6.out.trans (hb7.mono HB6.out.size))
     clear hb7
     go_wp2_with fail
     go_ret
     exact ⟨rfl, HB7.out⟩
    ·rw [HV.out] at hlv'
     cases (Prod.mk.inj hlv').2
end Go.Proofs.YtmlpedgcpffpnaaGreatDoor
