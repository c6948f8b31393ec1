/-
  The walk of the law RestRules.
-/
import Derived.Test.YtmlpedgcpffpnaaGreatDoorKZ0
import Derived.Test.YtmlpedgcpffpnaaGreatDoorKR9
import Derived.Test.YtmlpedgcpffpnaaGreatDoorKQS
import Derived.Test.YtmlpedgcpffpnaaGreatDoorKQD
import Derived.Test.YtmlpedgcpffpnaaGreatDoorKR8
set_option linter.unusedSimpArgs false
set_option maxRecDepth 100000
set_option maxHeartbeats 8000000
namespace Go.Proofs.YtmlpedgcpffpnaaGreatDoor
open Go.RowKit Go.Maps Go.WideMaps
theorem parseLines_all (s : ByteArray) (L : List Tk) (l : List Ln) (w : World) (hTk : Toks s s.size L) (hs : s.size <= 4000) (hl : linesT (L ++ [endK s]) = some l) :
 Calls Tryz.prog 21 #[.string s] w fun e w' => RpR w l e w' := by
 by_cases h0 : 0 < L.length
 ·exact parseLines_ref s L l w hTk hs h0 hl
 ·have hL : L = [] := List.length_eq_zero_iff.1 (by omega);subst hL;have : l = [] := by
   have h1 : linesT [endK s] = some l := hl;rw [linesT, List.length_singleton, lnsT] at h1;have h2 : kdT [endK s] 0 = 0 := rfl;simp [h2] at h1
   first | exact h1 | exact h1.symm
  subst this;exact parseLines_none s w hTk hs
theorem walk_restRules (s : ByteArray) (hs : s.size <= 140737488351232) (a1 : Option Addr) (n1 c1 : Nat) (a2 : Option Addr) (n2 c2 : Nat) (a3 : Option Addr) (n3 c3 : Nat) (k : Kn) {w : World} (hc : CameK w a1 a2 a3 k) (h1 : k.ins.length = n1) (h2 : k.tbs.length = n2) (h3 : k.yrs.length = n3) (hV : RVars w /\ Doo w /\ Eff w) :
 Calls Tryz.prog 5 #[.string s, .agg #[.slice a1 n1 c1, .slice a2 n2 c2, .slice a3 n3 c3]] w fun e w' => e = .returned (.bool true) /\ Below w.heap.size w w' := by
 have HB0 := Hd (kbelow_box w (.cells #[.slice a1 n1 c1, .slice a2 n2 c2, .slice a3 n3 c3] 26));have HKB := Hd (Cbx.made w [.slice a1 n1 c1, .slice a2 n2 c2, .slice a3 n3 c3] 26);have HV := Hd hV;have HCK := Hd (And.intro hc (And.intro h1 (And.intro h2 h3)));have HSZ := Hd hs;have HZ0 : Hid (w.heap.size < (w.alloc (.cells #[.slice a1 n1 c1, .slice a2 n2 c2, .slice a3 n3 c3] 26)).heap.size) := Hd (by simp);clear hc h1 h2 h3 hV hs
 go_enter Tryz.func5, Tryz.ntmps5
 go_wp2_with fail
 refine (rulesBegun_any _ (HV.out.1.below HB0.out)).mono ?_;rintro e w1 ⟨rfl, hb1⟩;have HB1 := Hd (HB0.out.trans (hb1.mono HB0.out.size));replace HKB := Hd (HKB.out.below hb1 HKB.out.lt);replace HZ0 := Hd (Nat.lt_of_lt_of_le HZ0.out hb1.size);clear hb1;go_wp2_with fail
 refine (codeBegun_any _ (HV.out.2.2.below HB1.out)).mono ?_;rintro e w3 ⟨rfl, hb3⟩;have HB3 := Hd (HB1.out.trans (hb3.mono HB1.out.size));replace HKB := Hd (HKB.out.below hb3 HKB.out.lt);replace HZ0 := Hd (Nat.lt_of_lt_of_le HZ0.out hb3.size);clear hb3;have HP := Hd (Parse_any s w3 (by have := HSZ.out; omega) (HV.out.1.pv.below HB3.out));go_wp2_with fail
 refine HP.out.mono ?_;clear HP;rintro e w4 ⟨⟨Lt, l, x, n, c, hs4, hTk, hlt, rfl, hcf, hn⟩ | ⟨er, at', h0, rfl, -⟩, hb4⟩
 ·have HB4 := Hd (HB3.out.trans (hb4.mono HB3.out.size));replace HKB := Hd (HKB.out.below hb4 HKB.out.lt);have HCF := Hd hcf;have HN := Hd hn;have HPT := Hd (And.intro hs4 (And.intro hTk hlt));have hml : n <= 40 := by
   have h1 := lnsT_40q _ 0 0 l (by omega) hlt;omega
  have HM := Hd hml;have HBF := Hd (kbelow_box w4 (.cells #[.int .i64 0, .int .i64 0] 42));have HF := Hd (Cbx.made w4 [.int .i64 0, .int .i64 0] 42);have HB5 := Hd (HB4.out.trans (HBF.out.mono HB4.out.size));have HZ1 : Hid (w3.heap.size <= w4.heap.size /\ w4.heap.size < (w4.alloc (.cells #[.int .i64 0, .int .i64 0] 42)).heap.size) := Hd ⟨hb4.size, by simp⟩;replace HKB := Hd (HKB.out.below HBF.out HKB.out.lt);have HMK := Hd (Make_any x n c l a1 a2 a3 n1 n2 n3 c1 c2 c3 k _ (HV.out.1.sh.below HB5.out) (HV.out.2.1.below HB5.out) (HCF.out.came.below HBF.out) HN.out (by unfold maxLen; omega) (HCK.out.1.below HB5.out) HCK.out.2.1 HCK.out.2.2.1 HCK.out.2.2.2);have x0 := HKB.out.at 0 rfl;have x1 := HKB.out.at 1 rfl;have x2 := HKB.out.at 2 rfl;clear hb4 hcf hn hs4 hTk hlt hml;go_wp2_with fail
  refine HMK.out.mono ?_;clear HMK x0 x1 x2;rintro e w6 hmk;obtain ⟨hb6, i1, er, xv, cv, hbi, rfl, hrow, hlen⟩ := hmk.one;obtain ⟨g, hsp⟩ := SpL.start HCF.out HN.out (HBF.out.trans (hb6.mono HBF.out.size));have HB6 := Hd (HB5.out.trans (hb6.mono HB5.out.size));replace HKB := Hd (HKB.out.below hb6 HKB.out.lt);replace HF := Hd (HF.out.below hb6 HF.out.lt);have HBI := Hd hbi;have HSP0 := Hd hsp;have HROW := Hd (And.intro hrow (And.intro hlen hb6.size));clear hmk hb6 hbi hrow hlen hsp HCF HBF;generalize hNP : (mkP l k er).length = np at *;have HNP := Hd hNP;clear hNP;generalize hB0 : w3.heap.size = B0 at *;generalize hB1 : w4.heap.size = B1 at *;generalize hB5 : (w4.alloc (.cells #[.int .i64 0, .int .i64 0] 42)).heap.size = B5 at *;clear hB0 hB1 hB5 HB3 HB4 HB5;go_wp2_with fail
  go_loopw [9] (fun iv wr => ∃ i : Nat, i <= n /\ iv = .int .i64 (i : Int) /\ SpL w6 wr B0 B1 g n x l i) (fun iv _ => n - (intOf iv).toNat)
  case atStart => exact ⟨0, Nat.zero_le _, rfl, HSP0.out⟩
  case round =>
   clear HSP0;obtain ⟨i, hin, rfl, hsp⟩ := hrel;have HSP := Hd hsp;clear hsp
   by_cases hlt : i < n
   ·have hlt' : (i : Int) < (n : Int) := by omega
    obtain ⟨rfl, hg0, hg1, -⟩ := HSP.out.row (by omega);obtain ⟨aj, cj, y, ⟨-, -, y2, y3, y4, y5⟩, ⟨e1, e2, e3, e4⟩, hkj⟩ := HSP.out.ln i (Nat.le_refl _) hlt;have hPB : ∀ b, (B0 <= b /\ b < B1 /\ b ≠ g) -> b < wr.heap.size := fun b hb => by
     have h1 := HSP.out.size;have h2 := HZ1.out.2;have h3 := HROW.out.2.2;omega
    have HCJ := Hd (spoil_any (fun b => B0 <= b /\ b < B1 /\ b ≠ g) y.depth y aj cj wr (Nat.le_refl _) hPB hkj);have hv : exV y aj cj = .agg #[.int .i64 (lnth l i).ex.k, .int .i64 (lnth l i).ex.n, .string (lnth l i).ex.s, .slice aj (lnth l i).ex.m cj] := by
     unfold exV;rw [e1, e2, e3, e4]
    rw [hv] at HCJ;clear hv e1 e2 e3 e4 hkj hPB;have hwi : IntKind.i64.wrap ((i : Int) + 1) = (i : Int) + 1 := by have := HM.out; exact IntWalk.i64_in _ (by omega)
    go_wp2_with fail
    refine HCJ.out.mono ?_;clear HCJ y2 y3 y4 y5;rintro e w5 ⟨rfl, hs⟩;have hsp5 := HSP.out.spoilt (by have := HZ1.out.2; have := HROW.out.2.2; omega) hs;obtain ⟨-, -, -, hfr⟩ := hsp5.row (by omega);obtain ⟨aj, cj, y, ⟨z0, z1, z2, z3, z4, z5⟩, -, -⟩ := hsp5.ln i (Nat.le_refl _) hlt;have f0 := hfr (i * 6);have f1 := hfr (i * 6 + 1);have f2 := hfr (i * 6 + 2);have f3 := hfr (i * 6 + 3);have f4 := hfr (i * 6 + 4);have f5 := hfr (i * 6 + 5);have HST := Hd (hsp5.next (by omega));simp only [putL, Nat.add_assoc, Nat.reduceAdd] at HST;clear hs hsp5 hfr;go_wp2_with fail
    go_roundw
    case rel => exact ⟨i + 1, by omega, by go_num, HST.out⟩
    case measure => simp [intOf]; omega
   ·obtain rfl : i = n := by omega
    have hlt' : ¬ ((i : Nat) : Int) < (i : Int) := by omega
    have HBR := Hd (HSP.out.below HB6.out (by have := HZ0.out; omega));have hz6 : B1 < w6.heap.size := by have := HZ1.out.2; have := HROW.out.2.2; omega
    have HKR := Hd (HKB.out.to (HSP.out.blk w.heap.size HKB.out.lt (.inl HZ0.out)));have HFR := Hd (HF.out.to (HSP.out.blk B1 hz6 (.inr (Nat.le_refl _))));have hrr := HROW.out.1.to (w' := wr) (fun b hb hl => HSP.out.blk b hl (.inr (by have := HZ1.out.2; omega))) HSP.out.size;have HRR := Hd hrr;have HFL : Hid (B1 < wr.heap.size) := Hd (by have := HSP.out.size; omega);have HRN := Hd HROW.out.2.1;have HP2 := Hd (Parse_any s wr (by have := HPT.out.1; omega) (HV.out.1.pv.below HBR.out));clear hrr hz6 HROW HF HKB HSP HB6;go_wp2_with fail
    refine HP2.out.mono ?_;clear HP2;rintro e w7 ⟨hpr, hb7⟩;obtain ⟨x2, c2', rfl, hcf2⟩ := parse_right HPT.out.1 HPT.out.2.1 HPT.out.2.2 hpr;rw [HN.out];have HB7 := Hd (HBR.out.trans (hb7.mono HBR.out.size));replace HKR := Hd (HKR.out.below hb7 HKR.out.lt);replace HFR := Hd (HFR.out.below hb7 HFL.out);replace HRR := Hd (HRR.out.below hb7);have f0 := HFR.out.at 0 rfl;have f1 := HFR.out.at 1 rfl;have fr0 := HFR.out.fr 0 rfl;have fr1 := HFR.out.fr 1 rfl;have hbl : ∀ b, b ≠ B1 -> (putL w7 B1 0 [.int .i64 0, .int .i64 0]).heap[b]? = w7.heap[b]? := fun b hb => putL_block B1 hb _ 0 w7
    have hsz8 := putL_size B1 [.int .i64 0, .int .i64 0] 0 w7;have HW8 := Hd (And.intro (putL_below HB7.out (g := B1) (by have := HZ0.out; have := HZ1.out.1; omega) [.int .i64 0, .int .i64 0]) (And.intro (HKR.out.to (hbl _ (by have := HZ0.out; have := HZ1.out.1; omega))) (And.intro (show Cbx (putL w7 B1 0 [.int .i64 0, .int .i64 0]) B1 [.int .i64 0, .int .i64 0] from Bxs.put (show Bxs w7 B1 [.int .i64 0, .int .i64 0] from HFR.out) [.int .i64 0, .int .i64 0] rfl) (And.intro (HRR.out.to (w' := putL w7 B1 0 [.int .i64 0, .int .i64 0]) (fun b hb _ => hbl b (by have := HZ1.out.2; omega)) (by rw [hsz8]; exact Nat.le_refl _)) (And.intro ((hcf2.to (w' := putL w7 B1 0 [.int .i64 0, .int .i64 0]) (fun b hb _ => hbl b (by have := HFL.out; omega)) (by rw [hsz8]; exact Nat.le_refl _) (Nat.le_refl _)).came) (show B1 < (putL w7 B1 0 [.int .i64 0, .int .i64 0]).heap.size by rw [hsz8]; exact Nat.lt_of_lt_of_le HFL.out hb7.size))))));clear hpr hb7 hcf2 hbl hsz8 HKR HFR HRR;simp only [putL, Nat.zero_add, Nat.reduceAdd] at HW8;go_wp2_with fail
    obtain ⟨hb8, hk8, hf8, hr8, hc8, hl8⟩ := HW8.out;clear f0 f1 fr0 fr1 HW8;refine (parseLines_all s Lt l _ HPT.out.2.1 HPT.out.1 HPT.out.2.2).mono ?_;rintro e w9 ⟨x3, c3', rfl, hc9, hb9⟩;rw [HN.out];have hbx := kbelow_box w9 (.cells #[.int .i64 0, .int .i64 0] 42);have hbA := hb9.trans (hbx.mono hb9.size);have HB10 := Hd (hb8.trans (hbA.mono hb8.size));have HK10 := Hd (hk8.below hbA hk8.lt);have HF10 := Hd (hf8.below hbA hl8);have HR10 := Hd (hr8.below hbA);have HX10 := Hd (hc8.below hbA);have HY10 := Hd (hc9.below hbx);have HF10L := Hd (Nat.lt_of_lt_of_le hl8 hb9.size);clear hb8 hk8 hf8 hr8 hc8 hl8 hc9 hb9 hbx hbA;have f0 := HF10.out.at 0 rfl;have hB1 : B1 < w9.heap.size := HF10L.out;have HSL := Hd (sameLines_likes x2 x3 i c2' c3' l l _ HX10.out HY10.out (likes_self HX10.out) HN.out (by have := HM.out; unfold maxLen; omega));go_wp2_with fail
    refine HSL.out.mono ?_;clear HSL f0;rintro e w11 ⟨rfl, hb11⟩;have HB11 := Hd (HB10.out.trans (hb11.mono HB10.out.size));have HR11 := Hd (HR10.out.below hb11);have HX11 := Hd (HX10.out.below hb11);have HK11 := Hd (HK10.out.below hb11 HK10.out.lt);have HMK := Hd (Make_any x2 i c2' l a1 a2 a3 n1 n2 n3 c1 c2 c3 k w11 (HV.out.1.sh.below HB11.out) (HV.out.2.1.below HB11.out) HX11.out HN.out (by have := HM.out; unfold maxLen; omega) (HCK.out.1.below HB11.out) HCK.out.2.1 HCK.out.2.2.1 HCK.out.2.2.2);have x0 := HK11.out.at 0 rfl;have x1 := HK11.out.at 1 rfl;have x2 := HK11.out.at 2 rfl;clear hb11 hB1;go_wp2_with fail
    refine HMK.out.mono ?_;clear HMK x0 x1 x2;rintro e w12 hmk;obtain ⟨hb12, i2, er2, xw, cw, hbi2, rfl, hrow2, -⟩ := hmk.one;obtain ⟨-, rfl⟩ := HBI.out.unique hbi2;rw [HNP.out];have HB12 := Hd (HB11.out.trans (hb12.mono HB11.out.size));have HR12 := Hd (HR11.out.below hb12);have HRW := Hd hrow2;have hee : (er != er) = false := by simp
    have hnn : ((np : Int) != (np : Int)) = false := by simp
    have hnp : np <= 100000 := HRN.out;clear hmk hb12 hbi2 hrow2;go_wp2_with fail
    go_loopw [15] (fun iv wz => ∃ j : Nat, j <= np /\ iv = .int .i64 (j : Int) /\ ∃ q, wz = w12.drewN q) (fun iv _ => np - (intOf iv).toNat)
    case atStart => exact ⟨0, Nat.zero_le _, rfl, 0, rfl⟩
    case round =>
     obtain ⟨j, hj, rfl, q, rfl⟩ := hrel
     by_cases hlj : j < np
     ·have hlj' : (j : Int) < (np : Int) := by omega
      have hlP : j < (mkP l k er).length := by have := HNP.out; omega
      rcases HR12.out with h | ⟨g1, rfl, -, -, hq1⟩
      ·omega
      rcases HRW.out with h | ⟨g2, rfl, -, -, hq2⟩
      ·omega
      obtain ⟨u0, u1⟩ := hq1 j hlP;obtain ⟨v0, v1⟩ := hq2 j hlP;generalize bnth (mkP l k er) j = r at u0 u1 v0 v1;obtain ⟨rf, rr⟩ := r;clear hq1 hq2;go_wp2_with fail
      go_quiet (fail)
      go_wp2_with fail
      go_roundw
      case rel => exact ⟨j + 1, by omega, by go_num, _, rfl⟩
      case measure => simp [intOf]; omega
     ·obtain rfl : j = np := by omega
      go_wp2_with fail
      go_ret;exact ⟨rfl, HB12.out.trans (kbelow_dN (Below.refl _ _) _)⟩
 ·have HB4 := Hd (HB3.out.trans (hb4.mono HB3.out.size));have hB1 : (er != 0) = true := by simpa using h0
  have hB2 : (er == 0) = false := by simpa using h0
  clear hb4 h0;go_wp2_with fail
  go_ret;exact ⟨rfl, HB4.out.trans ((kbelow_box w4 _).mono HB4.out.size)⟩
end Go.Proofs.YtmlpedgcpffpnaaGreatDoor
