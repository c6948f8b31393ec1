/-
  Promise I1: what must be in any case of values: the walk of valueBegun.
  The walk of the law CodeSame.
-/
import Derived.Test.YtmlpedgcpffpnaaGreatDoorKSP
import Derived.Test.YtmlpedgcpffpnaaGreatDoorKSG
import Derived.Test.YtmlpedgcpffpnaaGreatDoorKS4
import Derived.Test.YtmlpedgcpffpnaaGreatDoorKSI
import Derived.Test.YtmlpedgcpffpnaaGreatDoorKSJ
import Derived.Test.YtmlpedgcpffpnaaGreatDoorKSD
import Derived.Test.YtmlpedgcpffpnaaGreatDoorKSS
set_option linter.unusedSimpArgs false
namespace Go.Proofs.YtmlpedgcpffpnaaGreatDoor
open Go.RowKit Go.Maps Go.WideMaps
def noK : Kn := ⟨[], [], []⟩
theorem vb_E : linesE vbX = 0 := by decide +kernel
theorem vb_bind : BindIs vbX noK 0 0 := by
 refine .inr (.inr ⟨vb_E, by decide +kernel, .inl ⟨rfl, rfl, fun j hj => ?_⟩⟩)
 have : j = 0 ∨ j = 1 := by simp [vbX] at hj; omega
 rcases this with rfl | rfl <;> decide +kernel
theorem vb_vals : linesV vbX noK vbX.length = ([1000, 975], true) := by decide +kernel
theorem noK_came (w : World) : CameK w none none none noK := ⟨.inl rfl, .inl rfl, .inl rfl, fun j hj => absurd hj (by simp [noK]), fun j hj => absurd hj (by simp [noK]), by simp [noK], by simp [noK], by simp [noK]⟩
theorem vat2 (w : World) (x y : Int) : At (w.alloc (.cells #[.int .i64 x, .int .i64 y] 3)) w.heap.size 0 [x, y] := by
 refine ⟨by simp, fun j hj => ?_⟩
 have : j = 0 ∨ j = 1 := by simp at hj; omega
 rcases this with rfl | rfl <;> simp [nth]
theorem ParseR.right {s : ByteArray} {L : List Tk} {l : List Ln} {w' : World} {B : Nat} {e : Ending} (hs : s.size ≤ 4000) (hT : Toks s s.size L) (hl : linesT (L ++ [endK s]) = some l) (h : ParseR s w' B e) : ∃ x c, e = .returned (.tuple #[.slice x l.length c, .agg #[.int .i64 0, .int .i64 0]]) ∧ CameF w' B x l := by
 rcases h with ⟨L', l', x, n, c, _, hT', hl', rfl, hc, hn⟩ | ⟨er, at', h0, rfl, hno⟩
 ·rw [hT'.all hT, hl] at hl'
  injection hl' with hl'
  subst hl' hn
  exact ⟨x, c, rfl, hc⟩
 ·rw [hno L hs hT] at hl
  cases hl
set_option maxRecDepth 100000 in
set_option maxHeartbeats 2000000 in
theorem valueBegun_any (w : World) (hV : PVars w) (hS : Shp w) : Calls Tryz.prog 14 #[] w fun e w' => e = .returned (.bool true) ∧ Below w.heap.size w w' := by
 have HP := Lib.hid (Parse_any vbT w (by decide) hV)
 have HS := Lib.hid hS
 clear hV hS
 go_enter Tryz.func14, Tryz.ntmps14
 go_wp2_with fail
 refine HP.out.mono ?_
 rintro e w1 ⟨hp, hb⟩
 obtain ⟨x, c, rfl, hc⟩ := hp.right (by decide) vb_toks vb_lines
 have HB1 := Lib.hid hb
 have HC1 := Lib.hid hc.came
 have hbb := kbelow_box w1 (.cells #[.int .i64 0, .int .i64 0] 42)
 have HB2 := Lib.hid (HB1.out.trans (hbb.mono HB1.out.size))
 have HVL := Lib.hid (VLines_any x vbX.length c vbX none none none 0 0 0 0 0 0 noK _ (HS.out.below HB2.out) (HC1.out.below hbb) rfl (by decide) (noK_came _) rfl rfl rfl)
 have HX2 := Lib.hid (two_made w1 (.int .i64 0) (.int .i64 0) 42)
 have hz2 : w1.heap.size < (w1.alloc (.cells #[.int .i64 0, .int .i64 0] 42)).heap.size := by simp
 clear hb hc hp hbb HP
 have hl2 : vbX.length = 2 := rfl
 rw [hl2] at HVL ⊢
 clear hl2
 go_wp2_with fail
 refine HVL.out.mono ?_
 intro e w3 hr
 obtain ⟨hb3, ⟨i, er, h0, hbi, rfl⟩ | ⟨_, vs, hv, rfl⟩ | ⟨_, vs, v, B, hv, _, hg, rfl⟩⟩ := hr
 ·exact absurd (hbi.unique vb_bind).2 h0
 ·rw [vb_vals] at hv
  cases (Prod.mk.inj hv).2
 ·rw [vb_vals] at hv
  obtain rfl := (Prod.mk.inj hv).1
  obtain ⟨g, cg, rfl, _, o1⟩ := hg.own (by decide)
  have HB3 := Lib.hid (HB2.out.trans (hb3.mono HB2.out.size))
  obtain ⟨⟨y0, y1⟩, -⟩ := (HX2.out.below hb3 hz2).two
  have HA := Lib.hid o1.at
  have hk3 := kbelow_box w3 (.cells #[.int .i64 1000, .int .i64 975] 3)
  have HSM := Lib.hid (same_yes g 0 cg w3.heap.size 0 2 [1000, 975] _ (by decide) (HA.out.below hk3 HA.out.1) (vat2 w3 1000 975))
  clear hb3 hg o1 hk3 hv HVL
  have hl2 : [(1000 : Int), 975].length = 2 := rfl
  rw [hl2] at HSM ⊢
  clear hl2
  go_wp2_with fail
  refine HSM.out.mono ?_
  rintro e w4 ⟨rfl, k, rfl⟩
  go_wp2_with fail
  go_ret
  exact ⟨rfl, kbelow_dN (HB3.out.alloc HB3.out.size _) _⟩
end Go.Proofs.YtmlpedgcpffpnaaGreatDoor
set_option linter.unusedSimpArgs false
namespace Go.Proofs.YtmlpedgcpffpnaaGreatDoor
open Go.RowKit Go.Maps Go.WideMaps
theorem lnsT_40 {T : List Tk} : ∀ (f c k : Nat) (l : List Ln), c ≤ 40 → lnsT T f c k = some l → c + l.length ≤ 40
 | 0, _, _, _, _, h => by cases h
 | f + 1, c, k, l, hc, h => by
   rw [lnsT] at h
   split at h
   ·injection h with h
    subst h
    simpa using hc
   ·split at h
    ·cases h
    ·rename_i h1 h2
     obtain ⟨⟨a, k1⟩, e1, h⟩ := Option.bind_eq_some_iff.1 h
     obtain ⟨q, e2, h⟩ := Option.bind_eq_some_iff.1 h
     injection h with h
     subst h
     have := lnsT_40 f (c + 1) k1 q (by omega) e2
     simp only [List.length_cons]
     omega
theorem same_0y (x1 x2 : Option Addr) (c1 c2 : Nat) (w : World) : Calls Tryz.prog 19 #[.slice x1 0 c1, .slice x2 0 c2] w fun e w' => e = .returned (.bool true) ∧ Below w.heap.size w w' := by
 go_enter Tryz.func19, Tryz.ntmps19
 go_wp2
 go_loop [5] (fun i => i = .int .i64 0) (fun _ => 0)
 case atStart => rfl
 case round =>
  subst hrel
  go_wp2
  go_ret
  exact ⟨rfl, Below.refl _ _⟩
theorem same_both {w : World} {b L B : Nat} {V : Nat → Int} {v : Value} {vs : List Int} (hL : vs.length = L) (hb : ∀ j, j < L → w.cell? ⟨b, j, none⟩ = some (.int .i64 (V j))) (hV : ∀ p, p < vs.length → V p = vs.getD p 0) (hg : Grow w B v vs) (h40 : L ≤ 40) :
 Calls Tryz.prog 19 #[v, .slice (some ⟨b, 0, none⟩) L L] w fun e w' => e = .returned (.bool true) ∧ Below w.heap.size w w' := by
 subst hL
 by_cases h0 : vs.length = 0
 ·obtain ⟨_, h2⟩ := hg
  rcases h2 with ⟨rfl, _⟩ | ⟨g, c, cur, rfl, _⟩
  ·rw [h0]; exact same_0y _ _ _ _ w
  ·rw [h0]; exact same_0y _ _ _ _ w
 ·obtain ⟨g, c, rfl, _, ho⟩ := hg.own (by omega)
  refine same_rows g b vs.length c vs.length V w (by omega) (fun j hj => ?_) hb
  rw [hV j hj]
  exact (ho.2 j hj).1
theorem fits_i64y {d z lines : Int} {n1 n2 n3 n at_ : Nat} (h : fitsB d z lines n1 n2 n3 n at_ = true) (hl : lines ≤ 40) (h1 : n1 ≤ 30) (h2 : n2 ≤ 30) (h3 : n3 ≤ 30) (hn : n ≤ 10000) : I64 z := by
 unfold I64
 unfold fitsB at h
 split at h
 ·have h' : 0 ≤ z ∧ z < (n : Int) - at_ := by simpa [jumpB, lowB] using h
  omega
 ·split at h
  ·have h' : (1 ≤ z.tmod 4 ∧ z.tmod 4 ≤ 3) ∧ 0 ≤ z.tdiv 4 ∧ z.tdiv 4 < (n : Int) - at_ := by simpa [testB, lowB] using h
   have := Int.mul_tdiv_add_tmod z 4
   omega
  ·unfold fitB at h
   (repeat' split at h) <;> simp [monB, lowB] at h <;> omega
theorem pass_i64y {P : List Bk} {lines : Int} {n1 n2 n3 : Nat} (hp : Pass P lines n1 n2 n3) (h1 : n1 ≤ 30) (h2 : n2 ≤ 30) (h3 : n3 ≤ 30) : ∀ j, j < P.length → I64 (bnth P j).rate := fun j hj =>
 fits_i64y (stpE_ok (firstE_zeroK2 hp.steps j hj)).2.1 hp.l40 h1 h2 h3 hp.many
theorem grow_form {w : World} {B : Nat} {v : Value} {vs : List Int} (h : Grow w B v vs) : ∃ a c, v = .slice a vs.length c := by
 obtain ⟨_, ⟨rfl, h2⟩ | ⟨g, c, cur, rfl, _⟩⟩ := h
 ·exact ⟨none, 0, by rw [h2]⟩
 ·exact ⟨_, c, rfl⟩
set_option maxRecDepth 100000 in
set_option maxHeartbeats 2000000 in
theorem walk_codeSame (s : ByteArray) (hs : s.size ≤ 140737488351232) (a1 : Option Addr) (n1 c1 : Nat) (a2 : Option Addr) (n2 c2 : Nat) (a3 : Option Addr) (n3 c3 : Nat) (k : Kn) {w : World} (hc : CameK w a1 a2 a3 k) (h1 : k.ins.length = n1) (h2 : k.tbs.length = n2) (h3 : k.yrs.length = n3) (hV : RVars w ∧ Doo w ∧ Eff w) :
 Calls Tryz.prog 4 #[.string s, .agg #[.slice a1 n1 c1, .slice a2 n2 c2, .slice a3 n3 c3]] w fun e w' => e = .returned (.bool true) ∧ Below w.heap.size w w' := by
 have HB0 := Lib.hid (kbelow_box w (.cells #[.slice a1 n1 c1, .slice a2 n2 c2, .slice a3 n3 c3] 26))
 have HKB := Lib.hid (Cbx.made w [.slice a1 n1 c1, .slice a2 n2 c2, .slice a3 n3 c3] 26)
 have HV := Lib.hid hV
 have HCK := Lib.hid (And.intro hc (And.intro h1 (And.intro h2 h3)))
 have HSZ := Lib.hid hs
 clear hc h1 h2 h3 hV hs
 go_enter Tryz.func4, Tryz.ntmps4
 go_wp2_with fail
 refine (codeBegun_any _ (HV.out.2.2.below HB0.out)).mono ?_
 rintro e w1 ⟨rfl, hb1⟩
 have HB1 := Lib.hid (HB0.out.trans (hb1.mono HB0.out.size))
 replace HKB := Lib.hid (HKB.out.below hb1 HKB.out.lt)
 clear hb1
 go_wp2_with fail
 refine (rulesBegun_any _ (HV.out.1.below HB1.out)).mono ?_
 rintro e w2 ⟨rfl, hb2⟩
 have HB2 := Lib.hid (HB1.out.trans (hb2.mono HB1.out.size))
 replace HKB := Lib.hid (HKB.out.below hb2 HKB.out.lt)
 clear hb2
 go_wp2_with fail
 refine (valueBegun_any _ (HV.out.1.pv.below HB2.out) (HV.out.1.sh.below HB2.out)).mono ?_
 rintro e w3 ⟨rfl, hb3⟩
 have HB3 := Lib.hid (HB2.out.trans (hb3.mono HB2.out.size))
 replace HKB := Lib.hid (HKB.out.below hb3 HKB.out.lt)
 clear hb3
 have HP := Lib.hid (Parse_any s w3 (by have := HSZ.out; omega) (HV.out.1.pv.below HB3.out))
 go_wp2_with fail
 refine HP.out.mono ?_
 rintro e w4 ⟨⟨Lt, l, x, n, c, hs4, -, hlt, rfl, hcf, hn⟩ | ⟨er, at', h0, rfl, -⟩, hb4⟩
 ·have HB4 := Lib.hid (HB3.out.trans (hb4.mono HB3.out.size))
  replace HKB := Lib.hid (HKB.out.below hb4 HKB.out.lt)
  have HL := Lib.hid hcf.came
  have HN := Lib.hid hn
  have hml : n ≤ maxLen := by
   have h1 := lnsT_40 _ 0 0 l (by omega) hlt
   unfold maxLen
   omega
  clear hb4 hcf hlt hn HP hs4
  have HM := Lib.hid hml
  have HBF := Lib.hid (kbelow_box w4 (.cells #[.int .i64 0, .int .i64 0] 42))
  have HB5 := Lib.hid (HB4.out.trans (HBF.out.mono HB4.out.size))
  replace HKB := Lib.hid (HKB.out.below HBF.out HKB.out.lt)
  have HMK := Lib.hid (Make_any x n c l a1 a2 a3 n1 n2 n3 c1 c2 c3 k _ (HV.out.1.sh.below HB5.out) (HV.out.2.1.below HB5.out) (HL.out.below HBF.out) HN.out HM.out (HCK.out.1.below HB5.out) HCK.out.2.1 HCK.out.2.2.1 HCK.out.2.2.2)
  have HVL := Lib.hid (fun w' (hb : Below w4.heap.size w4 w') => VLines_any x n c l a1 a2 a3 n1 n2 n3 c1 c2 c3 k w' (HV.out.1.sh.below (HB4.out.trans (hb.mono HB4.out.size))) (HL.out.below hb) HN.out HM.out (HCK.out.1.below (HB4.out.trans (hb.mono HB4.out.size))) HCK.out.2.1 HCK.out.2.2.1 HCK.out.2.2.2)
  have x0 := HKB.out.at 0 rfl
  have x1 := HKB.out.at 1 rfl
  have x2 := HKB.out.at 2 rfl
  clear hml
  go_wp2_with fail
  refine HMK.out.mono ?_
  clear HMK x0 x1 x2
  rintro e w6 ⟨hb6, ⟨i, er, h0, hbi, rfl⟩ | ⟨hok, v, B, hB, hg, rfl⟩⟩
  ·have HB6 := Lib.hid (HB5.out.trans (hb6.mono HB5.out.size))
   have HX6 := Lib.hid (HBF.out.trans (hb6.mono HBF.out.size))
   replace HKB := Lib.hid (HKB.out.below hb6 HKB.out.lt)
   have x0 := HKB.out.at 0 rfl
   have x1 := HKB.out.at 1 rfl
   have x2 := HKB.out.at 2 rfl
   have HBI := Lib.hid hbi
   have hB1 : (er != 0) = true := by simpa using h0
   have hB3 : (er == er) = true := by simp
   have HNE := Lib.hid h0
   clear h0 hbi hb6
   go_wp2_with fail
   refine (HVL.out _ HX6.out).mono ?_
   rintro e w7 ⟨hb7, ⟨i7, er7, h07, hbi7, rfl⟩ | ⟨hbi7, vs, hlv, rfl⟩ | ⟨hbi7, vs, u, B7, hlv, -, hg7, rfl⟩⟩
   ·obtain ⟨rfl, rfl⟩ := HBI.out.unique hbi7
    have HB7 := Lib.hid (HB6.out.trans (hb7.mono HB6.out.size))
    clear hb7 h07 hbi7 x0 x1 x2
    go_wp2_with fail
    go_ret
    exact ⟨rfl, HB7.out⟩
   ·exact absurd (HBI.out.unique hbi7).2 HNE.out
   ·exact absurd (HBI.out.unique hbi7).2 HNE.out
  ·have HOK := Lib.hid hok
   have HB6 := Lib.hid (HB5.out.trans (hb6.mono HB5.out.size))
   have HX6 := Lib.hid (HBF.out.trans (hb6.mono HBF.out.size))
   replace HKB := Lib.hid (HKB.out.below hb6 HKB.out.lt)
   have x0 := HKB.out.at 0 rfl
   have x1 := HKB.out.at 1 rfl
   have x2 := HKB.out.at 2 rfl
   have HCHK := Lib.hid (lines_check hok)
   have HLN : Hid (l.length = n ∧ n ≤ 40) := Lib.hid ⟨HN.out, by have := linesE_40 hok.err; have := HN.out; omega⟩
   have HB0' : Hid (BindIs l k 0 0) := Lib.hid (.inr (.inr ⟨hok.err, hok.known, .inl ⟨rfl, rfl, hok.ok⟩⟩))
   have h30 := knE_30 hok.known
   obtain ⟨hps, -⟩ := chk_pass (HCHK.out.1)
   have HI64 := Lib.hid (pass_i64y hps h30.1 h30.2.1 h30.2.2)
   obtain ⟨xv, cv, rfl, hcb⟩ := hg.slice
   have HFIN := Lib.hid (fun (s : MS) hr hf => lines_fin hok (s := s) hr hf)
   clear hok hB hg hps h30 hb6
   generalize hP : linesC l k l.length = P at *
   rw [HLN.out.1] at HCHK
   generalize hN : P.length = N at *
   have HNN := Lib.hid hN
   have HCB := Lib.hid hcb
   have HCF := Lib.hid (fun w' (hb : Below w6.heap.size w6 w') => CCheck_any xv N cv P (n : Int) a1 a2 a3 n1 n2 n3 c1 c2 c3 k w' (HCB.out.below hb) HNN.out (by have := HCHK.out.2.2; unfold maxLen; omega) (HCK.out.1.below (HB6.out.trans (hb.mono HB6.out.size))) HCK.out.2.1 HCK.out.2.2.1 HCK.out.2.2.2 (HV.out.2.2.below (HB6.out.trans (hb.mono HB6.out.size))) (fun j hj => HI64.out j hj))
   have HRP := Lib.hid (fun w' (hb : Below w6.heap.size w6 w') => CRun_any xv N cv P (n : Int) a1 a2 a3 n1 n2 n3 c1 c2 c3 k w' (HCB.out.below hb) HNN.out (by have := HCHK.out.2.2; unfold maxLen; omega) (HCK.out.1.below (HB6.out.trans (hb.mono HB6.out.size))) HCK.out.2.1 HCK.out.2.2.1 HCK.out.2.2.2 (HV.out.2.2.below (HB6.out.trans (hb.mono HB6.out.size))) (fun j hj => HI64.out j hj))
   clear hcb hP hN
   go_wp2_with fail
   refine (HVL.out _ HX6.out).mono ?_
   rintro e w7 ⟨hb7, ⟨i7, er7, h07, hbi7, rfl⟩ | ⟨-, vs, hlv, rfl⟩ | ⟨-, vs, u, B7, hlv, -, hg7, rfl⟩⟩
   ·exact absurd (HB0'.out.unique hbi7).2.symm h07
   ·have HLV := Lib.hid hlv
    have HB7 := Lib.hid (HB6.out.trans (hb7.mono HB6.out.size))
    have HS7 := Lib.hid hb7
    replace HKB := Lib.hid (HKB.out.below hb7 HKB.out.lt)
    clear hb7 hlv x0 x1 x2
    have x0 := HKB.out.at 0 rfl
    have x1 := HKB.out.at 1 rfl
    have x2 := HKB.out.at 2 rfl
    generalize (vs.length : Int) = i9 at *
    go_wp2_with fail
    refine (HCF.out _ HS7.out).mono ?_
    rintro e w8 ⟨rfl, hb8⟩
    rw [HCHK.out.1]
    have hcnB : decide ((20 : Int) < chkN k P (n : Int)) = false := decide_eq_false (by have := HCHK.out.2.1; omega)
    generalize hcn : chkN k P (n : Int) = cn at hcnB
    have HCN := Lib.hid hcn
    clear hcn
    have HB8 := Lib.hid (HB7.out.trans (hb8.mono HB7.out.size))
    have HS8 := Lib.hid hb8
    have HX8 := Lib.hid (HS7.out.trans (hb8.mono HS7.out.size))
    replace HKB := Lib.hid (HKB.out.below hb8 HKB.out.lt)
    clear hb8 x0 x1 x2
    have x0 := HKB.out.at 0 rfl
    have x1 := HKB.out.at 1 rfl
    have x2 := HKB.out.at 2 rfl
    go_wp2_with fail
    refine (HRP.out _ HX8.out).mono ?_
    rintro e w9 ⟨hb9, hend⟩
    have HS9 := Lib.hid hb9
    have HB9 := Lib.hid (HB8.out.trans (hb9.mono HB8.out.size))
    clear hb9 x0 x1 x2
    rcases hend with ⟨h9, -⟩ | ⟨-, t, hre, -, ⟨hat, vb, rfl, hv1, hv2, hv3⟩ | ⟨hat, hms, rfl⟩⟩
    ·exact absurd HCHK.out.1 h9
    ·rcases HFIN.out t hre (.inl hat) with ⟨-, ws, hw, -⟩ | ⟨hlt, -⟩
     ·rw [HLV.out] at hw; cases (Prod.mk.inj hw).2
     ·have := HNN.out; omega
    ·clear hre hms
     generalize t.at_ = ta at *
     go_wp2_with fail
     refine (same_0y none none 0 0 _).mono ?_
     rintro e w10 ⟨rfl, hb10⟩
     have HB10 := Lib.hid (HB9.out.trans (hb10.mono HB9.out.size))
     clear hb10
     go_wp2_with fail
     go_ret
     exact ⟨rfl, HB10.out⟩
   ·obtain ⟨xu, cu, hxu⟩ := grow_form hg7
    have HGU := Lib.hid hg7
    subst hxu
    have HLV := Lib.hid hlv
    have HB7 := Lib.hid (HB6.out.trans (hb7.mono HB6.out.size))
    have HS7 := Lib.hid hb7
    replace HKB := Lib.hid (HKB.out.below hb7 HKB.out.lt)
    clear hb7 hlv x0 x1 x2
    have x0 := HKB.out.at 0 rfl
    have x1 := HKB.out.at 1 rfl
    have x2 := HKB.out.at 2 rfl
    go_wp2_with fail
    refine (HCF.out _ HS7.out).mono ?_
    rintro e w8 ⟨rfl, hb8⟩
    rw [HCHK.out.1]
    have hcnB : decide ((20 : Int) < chkN k P (n : Int)) = false := decide_eq_false (by have := HCHK.out.2.1; omega)
    generalize hcn : chkN k P (n : Int) = cn at hcnB
    have HCN := Lib.hid hcn
    clear hcn
    have HB8 := Lib.hid (HB7.out.trans (hb8.mono HB7.out.size))
    have HS8 := Lib.hid hb8
    have HX8 := Lib.hid (HS7.out.trans (hb8.mono HS7.out.size))
    replace HKB := Lib.hid (HKB.out.below hb8 HKB.out.lt)
    clear hb8 x0 x1 x2
    have x0 := HKB.out.at 0 rfl
    have x1 := HKB.out.at 1 rfl
    have x2 := HKB.out.at 2 rfl
    go_wp2_with fail
    refine (HRP.out _ HX8.out).mono ?_
    rintro e w9 ⟨hb9, hend⟩
    have HS9 := Lib.hid hb9
    have HB9 := Lib.hid (HB8.out.trans (hb9.mono HB8.out.size))
    clear hb9 x0 x1 x2
    have HGU9 := Lib.hid (vgrow_below (vgrow_below HGU.out HS8.out) HS9.out)
    rcases hend with ⟨h9, -⟩ | ⟨-, t, hre, -, ⟨hat, vb, rfl, hv1, hv2, hv3⟩ | ⟨hat, hms, rfl⟩⟩
    ·exact absurd HCHK.out.1 h9
    ·rcases HFIN.out t hre (.inl hat) with ⟨-, ws, hw, hwl, hV9⟩ | ⟨hlt, -⟩
     ·rw [HLV.out] at hw
      obtain rfl := (Prod.mk.inj hw).1
      rw [Int.toNat_natCast] at hv3 ⊢
      have HSB := Lib.hid (same_both (b := vb) (V := t.V) (by have := HLN.out.1; omega) hv3 hV9 HGU9.out HLN.out.2)
      clear hv1 hv2 hv3 hV9 hw hwl hat hre
      go_wp2_with fail
      refine HSB.out.mono ?_
      rintro e w10 ⟨rfl, hb10⟩
      have HB10 := Lib.hid (HB9.out.trans (hb10.mono HB9.out.size))
      clear hb10
      go_wp2_with fail
      go_ret
      exact ⟨rfl, HB10.out⟩
     ·have := HNN.out; omega
    ·rcases HFIN.out t hre (.inr ⟨hat, hms⟩) with ⟨hlt, -⟩ | ⟨-, -, ws, hw⟩
     ·have := HNN.out; omega
     ·rw [HLV.out] at hw; cases (Prod.mk.inj hw).2
 ·have HB4 := Lib.hid (HB3.out.trans (hb4.mono HB3.out.size))
  have hB1 : (er != 0) = true := by simpa using h0
  have hB2 : (er == 0) = false := by simpa using h0
  clear hb4 h0 HP
  go_wp2_with fail
  go_ret
  exact ⟨rfl, HB4.out.trans ((kbelow_box w4 _).mono HB4.out.size)⟩
end Go.Proofs.YtmlpedgcpffpnaaGreatDoor
