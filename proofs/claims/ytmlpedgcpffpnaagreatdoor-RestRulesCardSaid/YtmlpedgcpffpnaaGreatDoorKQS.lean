/-
  Promise F3: the walk of Print.
-/
import Derived.Test.YtmlpedgcpffpnaaGreatDoorKZ0
import Derived.Test.YtmlpedgcpffpnaaGreatDoorKQR
import Derived.Test.YtmlpedgcpffpnaaGreatDoorKQ3
import Derived.Test.YtmlpedgcpffpnaaGreatDoorKQP
import Derived.Laws.IdiomStrings
set_option linter.unusedSimpArgs false
set_option maxRecDepth 100000
set_option maxHeartbeats 8000000
namespace Go.Proofs.YtmlpedgcpffpnaaGreatDoor
open Go.RowKit
theorem sd_none (w : World) : (Builtin.unsafeSliceData_ #[89] 186 #[.slice none 0 0]).run Tryz.prog w = .ok (.pointer none) w := by kernel_rfl
theorem us_none (w : World) : (Builtin.unsafeString_ #[186, 3] 9 #[.pointer none, .int .i64 0]).run Tryz.prog w = .ok (.string ⟨#[]⟩) w := by kernel_rfl
theorem string_none (b : Nat) (w : World) (h : w.cell? ⟨b, 1, none⟩ = some (.slice none 0 0)) :
 Calls Tryz.prog 82 #[.pointer (some ⟨b, 0, none⟩)] w fun e w' => e = .returned (.string ⟨#[]⟩) /\ Below w.heap.size w w' := by
 have c1 : w.drew.cell? ⟨b, 1, none⟩ = some (.slice none 0 0) := h;have hSD := sd_none w.drew;have hUS := us_none w.drew;have HBF := Hd (kbelow_dN (Below.refl w.heap.size w) 1);clear h
 go_enter Tryz.func82, Tryz.ntmps82
 go_wp2
 go_region
 all_goals (go_wp2; go_ret; exact ⟨rfl, HBF.out⟩)
def lnTx (r : Ln) : List UInt8 := tksL [lwW r.kind.toNat, r.name, ⟨#[61]⟩] ++ (r.ex.txt ++ [59, 10])
def lnsTx (l : List Ln) : Nat -> List UInt8
 | 0 => []
 | j + 1 => lnsTx l j ++ lnTx (lnth l j)
def prnT (l : List Ln) : List UInt8 := if linesE l = 0 /\ (lnsTx l l.length).length <= 4000 then lnsTx l l.length else []
def prnE (l : List Ln) : Int := if linesE l = 0 then (if (lnsTx l l.length).length <= 4000 then 0 else 2) else linesE l
theorem line_okP {r : Ln} (h : lineE r = 0) : (1 <= r.kind /\ r.kind <= 4) /\ r.name.size <= 8 /\ r.ex.err = 0 := by
 unfold lineE at h
 by_cases h1 : r.kind < 1 \/ 4 < r.kind
 ·rw [if_pos h1] at h; omega
 rw [if_neg h1] at h
 by_cases h2 : NameP r.name
 ·rw [if_pos h2] at h; exact ⟨by omega, h2.2.1, h⟩
 ·rw [if_neg h2] at h; omega
theorem lines_okP {l : List Ln} (h : linesE l = 0) : l.length <= 40 /\ sumP l l.length <= 4000 /\ ∀ j, j < l.length -> lineE (lnth l j) = 0 := by
 unfold linesE at h
 by_cases h1 : 40 < l.length \/ ¬ (sumP l l.length <= 4000 /\ maxD l l.length <= 20)
 ·rw [if_pos h1] at h; omega
 rw [if_neg h1] at h;exact ⟨by omega, by omega, firstE_zeroP h⟩
theorem lw_len (t : Nat) : (lwW t).size <= 4 := by
 unfold lwW
 split <;> decide
theorem lnTx_len {r : Ln} (h : lineE r = 0) : (lnTx r).length <= 100 + 100 * r.ex.parts := by
 obtain ⟨_, h2, h3⟩ := line_okP h;have h4 := txt_len r.ex h3;have h5 := lw_len r.kind.toNat;have e0 : (⟨#[61]⟩ : ByteArray).size = 1 := rfl;simp only [lnTx, List.length_append, tksL_len, tksL_nil, List.length_cons, List.length_nil];omega
theorem lnsTx_len {l : List Ln} (h : ∀ j, j < l.length -> lineE (lnth l j) = 0) : ∀ j, j <= l.length -> (lnsTx l j).length <= 100 * j + 100 * sumP l j
 | 0, _ => Nat.zero_le _
 | j + 1, hj => by
   have h1 := lnsTx_len h j (by omega);have h2 := lnTx_len (h j (by omega));rw [lnsTx, List.length_append, sumP_succ];omega
theorem Obx.drew {w : World} {g : Nat} {vs : List Value} {T : TypeId} (h : Obx w g vs T) : Obx w.drew g vs T := h
theorem Print_any (a : Option Addr) (n cap : Nat) (l : List Ln) (w : World) (hS : Shp w) (hL : LWs w) (hT : TSs w) (ht : Mny.Tab w) (hc : CameL w a l) (hn : l.length = n) (hm : n <= maxLen) :
 Calls Tryz.prog 41 #[.slice a n cap] w fun e w' => e = .returned (.tuple #[.string ⟨(prnT l).toArray⟩, .int .i64 (prnE l)]) /\ Below w.heap.size w w' := by
 have hm' : n <= 9223372036854775807 := by unfold maxLen at hm; omega
 have HCK := Hd (check_lines a n cap l w hS hc hn hm);have HN := Hd hn;have HL := Hd hL;have HT := Hd hT;have HTB := Hd ht;have HC := Hd hc;clear hS hL hT ht hc hn hm
 go_enter Tryz.func41, Tryz.ntmps41
 go_wp2_with fail
 refine HCK.out.mono ?_;rintro e w1 ⟨rfl, hb1⟩;have HB1 := Hd hb1;clear hb1 HCK
 by_cases hz : linesE l = 0
 ·have HZ := Hd hz;rw [hz];obtain ⟨hl40, hsp, hle⟩ := lines_okP hz;have HLL := Hd (fun j (hj : j <= n) => lnsTx_len hle j (by rw [HN.out]; exact hj));have HSP := Hd (fun j (hj : j <= n) => Nat.le_trans (sumP_le (l := l) (m := l.length) (by rw [HN.out]; exact hj)) hsp);have HLE1 := Hd (fun j (hj : j < n) => line_okP (hle j (by rw [HN.out]; exact hj)));have hn40 : n <= 40 := by rw [<- HN.out]; exact hl40
  have HLS := Hd (fun j (hj : j <= n) => (by have h1 := HLL.out j hj; have h2 := HSP.out j hj; omega : (lnsTx l j).length <= 404000));have HO := Hd (fun h0 => HC.out.open HN.out h0);have HL1 : Hid (LWs w1) := fun j hj => (HB1.out.cell (p := ⟨1, j, none⟩) (blt_of_cell (HL.out j hj))).trans (HL.out j hj)
  have HT1 : Hid (TSs w1) := fun j hj => (HB1.out.cell (p := ⟨3, j, none⟩) (blt_of_cell (HT.out j hj))).trans (HT.out j hj)
  have HTB1 := Hd (HTB.out.below HB1.out);have HPA : Hid (PtS w1 (w1.alloc (.cells #[.pointer none, .slice none 0 0] 149)) w1.heap.size []) := ⟨kbelow_box _ _, Bld.fresh w1⟩;have HF0 : Hid ((w1.alloc (.cells #[.pointer none, .slice none 0 0] 149)).cell? ⟨w1.heap.size, 1, none⟩ = some (.slice none 0 0)) := by
   unfold Hid;rw [Lib.cell_of_heap (MapKept.heap_alloc w1 _).1];rfl
  clear hz hl40 hsp hle HL HT HTB;go_wp2_with fail
  go_loopw [15] (fun i wr => ∃ j : Nat, j <= n /\ i = .int .i64 j /\ PtS w1 wr w1.heap.size (lnsTx l j) /\ (j = 0 -> wr.cell? ⟨w1.heap.size, 1, none⟩ = some (.slice none 0 0))) (fun i _ => n - (intOf i).toNat)
  case atStart => exact ⟨0, Nat.zero_le _, rfl, HPA.out, fun _ => HF0.out⟩
  case round =>
   obtain ⟨j, hj, rfl, hp, hfr⟩ := hrel;have HP := Hd hp;have HFR := Hd hfr;clear hp hfr
   by_cases hlt : j < n
   ·have hlt' : (j : Int) < (n : Int) := by omega
    obtain ⟨kb, off, rfl, hcell⟩ := HO.out (by omega);obtain ⟨aj, cj, hli, hns, hkj⟩ := hcell w1 HB1.out j hlt;obtain ⟨⟨hk0, hk4⟩, hn8, hxe⟩ := HLE1.out j hlt;have HKJ := Hd hkj;have HEX := Hd (expr_all HT1.out HTB1.out w1.heap.size _ hxe);obtain ⟨x0, x1, x2, x3, x4, x5⟩ := hli.below HP.out.bel (blt_of_cell hli.1);obtain ⟨t, htk⟩ : ∃ t : Nat, (lnth l j).kind = (t : Int) := ⟨(lnth l j).kind.toNat, by omega⟩;have HTK : Hid (lnTx (lnth l j) = tksL [lwW t, (lnth l j).name, ⟨#[61]⟩] ++ ((lnth l j).ex.txt ++ [59, 10])) := by unfold Hid lnTx; rw [htk]; rfl
    have htb : 1 <= t /\ t <= 4 := by omega
    rw [htk] at x0;have hlw := HL1.out t (by omega);have HLW := Hd hlw;have hgl := blt_of_cell hlw;have ht5 : (t : Int) < 5 := by omega
    have ht0 : (0 : Int) <= (t : Int) := by omega
    have hwb : wr.heap.size ≠ w1.heap.size := by have := HP.out.bld.lt; omega
    have HLE : Hid ((lnsTx l j).length + (tksL [lwW t, (lnth l j).name, ⟨#[61]⟩] ++ ((lnth l j).ex.txt ++ [59, 10])).length <= 1000000000) := by
     have h1 := HLS.out (j + 1) hlt;rw [lnsTx, HTK.out, List.length_append] at h1;unfold Hid;omega
    have HNX : Hid (lnsTx l (j + 1) = lnsTx l j ++ (tksL [lwW t, (lnth l j).name, ⟨#[61]⟩] ++ ((lnth l j).ex.txt ++ [59, 10]))) := by unfold Hid; rw [lnsTx, HTK.out]
    clear hcell hkj hli hns hk0 hk4 hn8 hxe htk hlw;have HX2 := Hd (Obx.made wr [.int .i64 (t : Int), .string (lnth l j).name, .int .i64 (lnth l j).ex.k, .int .i64 (lnth l j).ex.n, .string (lnth l j).ex.s, .slice aj (lnth l j).ex.m cj] 52);have HP2 := Hd (HP.out.below (kbelow_box wr (.cells #[.int .i64 (t : Int), .string (lnth l j).name, .int .i64 (lnth l j).ex.k, .int .i64 (lnth l j).ex.n, .string (lnth l j).ex.s, .slice aj (lnth l j).ex.m cj] 52)));go_wp2_with fail
    clear x0 x1 x2 x3 x4 x5;have v0 := HX2.out.cell 0;have v1 := HX2.out.cell 1;have zt := (HP2.out.bel.cell (p := ⟨1, t, none⟩) hgl).trans HLW.out;simp only [List.getElem?_cons_zero, List.getElem?_cons_succ] at v0 v1
    go_region_held (fun w' => w'.cell? ⟨wr.heap.size, 0, none⟩ = some (.int .i64 (t : Int)) /\ w'.cell? ⟨wr.heap.size, 1, none⟩ = some (.string (lnth l j).name) /\ w'.cell? ⟨1, t, none⟩ = some (.string (lwW t))) (go_keep)
     (first
      | (go_at_call 78; refine (tokens_any w1 w1.heap.size _ 3 3 [lwW t, (lnth l j).name, ⟨#[61]⟩] _ _ rfl (HP2.out.below (kbelow_dN (kbelow_box _ _) 1)) (Obx.drew (Obx.made_at _ (by first | rfl | simp) _ 9)) (by have := HP2.out.bld.lt; first | omega | (simp at this; omega)) (by have := HLE.out; simp only [List.length_append] at this ⊢; omega)).mono ?_
         rintro e w3 ⟨⟨_, rfl⟩, hp, hk⟩;have HP3 := Hd hp;have HX3 := Hd ((HX2.out.below (kbelow_dN (kbelow_box _ _) 1)).kept hk hwb (by decide));clear hp hk;have r0 := HX3.out.cell 0;have r1 := HX3.out.cell 1;simp only [List.getElem?_cons_zero, List.getElem?_cons_succ] at r0 r1;have r2 := (HP3.out.bel.cell (p := ⟨1, t, none⟩) hgl).trans HLW.out))
    clear r0 r1 r2 v0 v1 zt;have r2 := HX3.out.cell 2;have r3 := HX3.out.cell 3;have r4 := HX3.out.cell 4;have r5 := HX3.out.cell 5;simp only [List.getElem?_cons_zero, List.getElem?_cons_succ] at r2 r3 r4 r5;go_wp2_with fail
    refine (HEX.out aj cj _ _ HKJ.out HP3.out (by have := HLE.out; simp only [List.length_append] at this ⊢; omega)).mono ?_;rintro e w4 ⟨⟨_, rfl⟩, hp, hk⟩;have HP4 := Hd hp;clear hp hk r2 r3 r4 r5;go_wp2_with fail
    refine (write_any w1.heap.size w1.heap.size _ ⟨#[59, 10]⟩ _ HP4.out.bld (by have := HLE.out; have e2 : (⟨#[59, 10]⟩ : ByteArray).size = 2 := rfl; simp only [List.length_append, List.length_cons, List.length_nil] at this ⊢; omega) HP4.out.bel.size).mono ?_;rintro e w5 ⟨rfl, hbl, hb, hk⟩;have HP5 : Hid (PtS w1 w5 w1.heap.size (lnsTx l (j + 1))) := ⟨HP4.out.bel.trans hb, by rw [HNX.out]; simpa only [List.append_assoc] using hbl⟩;clear hbl hb hk;go_wp2_with fail
    go_roundw
    case rel => exact ⟨j + 1, by omega, by go_num, HP5.out, fun h => absurd h (by omega)⟩
    case measure => simp [intOf]; omega
   ·have hjn : j = n := by omega
    subst hjn;have HBE := Hd (fun (w' : World) (hb : Below w1.heap.size wr w') => HB1.out.trans ((HP.out.bel.trans hb).mono HB1.out.size));go_wp2_with fail
    refine (len_any w1.heap.size w1.heap.size _ wr HP.out.bld).mono ?_;rintro e w2 ⟨rfl, hw⟩;subst w2
    by_cases h4 : (lnsTx l j).length <= 4000
    ·have HR : Hid (prnT l = lnsTx l j /\ prnE l = 0) := ⟨by unfold prnT; rw [HN.out, if_pos ⟨HZ.out, h4⟩], by unfold prnE; rw [HN.out, if_pos HZ.out, if_pos h4]⟩;have HST : Hid (Calls Tryz.prog 82 #[.pointer (some ⟨w1.heap.size, 0, none⟩)] wr fun e w' => e = .returned (.string ⟨(lnsTx l j).toArray⟩) /\ Below w1.heap.size wr w') := by
      by_cases h0 : j = 0
      ·subst h0;exact (string_none w1.heap.size wr (HFR.out rfl)).mono fun e w' h => ⟨h.1, h.2.mono HP.out.bel.size⟩
      ·refine string_some w1.heap.size w1.heap.size _ wr HP.out.bld fun h => ?_
       obtain ⟨q, rfl⟩ : ∃ q, j = q + 1 := ⟨j - 1, by omega⟩;rw [lnsTx, lnTx] at h;simp at h
     have h4' : ((lnsTx l j).length : Int) <= 4000 := by omega
     generalize (lnsTx l j).length = q at *;go_wp2_with fail
     refine HST.out.mono ?_;rintro e w3 ⟨rfl, hb⟩;have HB3 := Hd (HBE.out _ hb);clear hb;go_wp2_with fail
     exact ⟨rfl, .tuple #[.string ⟨(lnsTx l j).toArray⟩, .int .i64 0], by simp [results, Tryz.results41], by rw [HR.out.1, HR.out.2], HB3.out⟩
    ·have HR : Hid (prnT l = [] /\ prnE l = 2) := ⟨by unfold prnT; rw [HN.out, if_neg fun h => h4 h.2], by unfold prnE; rw [HN.out, if_pos HZ.out, if_neg h4]⟩;have h4' : (4000 : Int) < ((lnsTx l j).length : Int) := by omega
     have HB3 := Hd (HBE.out _ (Below.refl _ _));generalize (lnsTx l j).length = q at *;go_wp2_with fail
     exact ⟨rfl, .tuple #[.string ⟨#[]⟩, .int .i64 2], by simp [results, Tryz.results41], by rw [HR.out.1, HR.out.2], HB3.out⟩
 ·have hzN : (linesE l != 0) = true := by simpa using hz
  have HR : Hid (prnT l = [] /\ prnE l = linesE l) := ⟨by unfold prnT; rw [if_neg fun h => hz h.1], by unfold prnE; rw [if_neg hz]⟩;have hzB : (linesE l == 0) = false := by simpa using hz
  clear hz;generalize linesE l = y at *;go_wp2_with fail
  exact ⟨rfl, .tuple #[.string ⟨#[]⟩, .int .i64 y], by simp [results, Tryz.results41], by rw [HR.out.1, HR.out.2], HB1.out⟩
theorem parse_right {s : ByteArray} {L : List Tk} {l : List Ln} {w' : World} {B : Nat} {e : Ending} (hs : s.size <= 4000) (hT : Toks s s.size L) (hl : linesT (L ++ [endK s]) = some l) (h : ParseR s w' B e) : ∃ x c, e = .returned (.tuple #[.slice x l.length c, .agg #[.int .i64 0, .int .i64 0]]) /\ CameF w' B x l := by
 rcases h with ⟨L', l', x, n, c, _, hT', hl', rfl, hc, hn⟩ | ⟨er, at', h0, rfl, hno⟩
 ·rw [hT'.all hT, hl] at hl';injection hl' with hl'
  subst hl' hn;exact ⟨x, c, rfl, hc⟩
 ·rw [hno L hs hT] at hl
  cases hl
theorem rb_E : prnE rbX = 0 := by decide +kernel
theorem rb_T : prnT rbX = [108, 101, 116, 32, 97, 32, 61, 32, 49, 46, 48, 48, 32, 43, 32, 40, 32, 50, 46, 48, 48, 32, 42, 32, 51, 32, 41, 32, 59, 10] := by decide +kernel
structure RVars (w : World) : Prop where
 pv : PVars w
 sh : Shp w
 tb : Mny.Tab w
theorem RVars.below {w w' : World} (h : RVars w) (hb : Below w.heap.size w w') : RVars w' := ⟨h.pv.below hb, h.sh.below hb, h.tb.below hb⟩
theorem print_rv (a : Option Addr) (n cap : Nat) (l : List Ln) (w : World) (h : RVars w) (hc : CameL w a l) (hn : l.length = n) (hm : n <= maxLen) :
 Calls Tryz.prog 41 #[.slice a n cap] w fun e w' => e = .returned (.tuple #[.string ⟨(prnT l).toArray⟩, .int .i64 (prnE l)]) /\ Below w.heap.size w w' := Print_any a n cap l w h.sh h.pv.lw h.pv.ts h.tb hc hn hm
theorem rb_eq : (([108, 101, 116, 32, 97, 32, 61, 32, 49, 46, 48, 48, 32, 43, 32, 40, 32, 50, 46, 48, 48, 32, 42, 32, 51, 32, 41, 32, 59, 10] : List UInt8) == ((⟨#[108, 101, 116, 32, 97, 32, 61, 32, 49, 46, 48, 48, 32, 43, 32, 40, 32, 50, 46, 48, 48, 32, 42, 32, 51, 32, 41, 32, 59]⟩ : ByteArray) ++ (⟨#[10]⟩ : ByteArray)).toList) = true := by
 rw [ByteArray.toList_eq]
 decide +kernel
theorem cv10 (w : World) : (convert 89 9 (.slice (some ⟨w.heap.size, 0, none⟩) 1 1)).run Tryz.prog (w.alloc (.cells #[.int .u8 10] 5)) = .ok (.string ⟨#[10]⟩) (w.alloc (.cells #[.int .u8 10] 5)) := by
 refine run_convert_bytes_back (w.alloc (.cells #[.int .u8 10] 5)) 89 9 5 ⟨w.heap.size, 0, none⟩ 1 [10] Tryz.underlying89 Tryz.underlying5 Tryz.underlying9 fun j hj => ?_
 have : j = 0 := by simp at hj; omega
 subst this;simp [Addr.add]
theorem rulesBegun_any (w : World) (hV : RVars w) : Calls Tryz.prog 13 #[] w fun e w' => e = .returned (.bool true) /\ Below w.heap.size w w' := by
 have HP := Hd (Parse_any rbT w (by decide) hV.pv);have HV := Hd hV;clear hV
 go_enter Tryz.func13, Tryz.ntmps13
 go_wp2_with fail
 refine HP.out.mono ?_;rintro e w1 ⟨hp, hb⟩;obtain ⟨x, c, rfl, hc⟩ := parse_right (by decide) rb_toks rb_lines hp;have HB1 := Hd hb;have hbb := kbelow_box w1 (.cells #[.int .i64 0, .int .i64 0] 42);have HB2 := Hd (HB1.out.trans (hbb.mono HB1.out.size));have hcl := hc.came.below hbb;have HPR := Hd (print_rv x rbX.length c rbX _ (HV.out.below HB2.out) hcl rfl (by decide));obtain ⟨b, off, rfl, hcell⟩ := hcl.open (n := 1) rfl (by omega);obtain ⟨aj, cj, ⟨x0, x1, x2, x3, x4, x5⟩, -, -⟩ := hcell _ (Below.refl _ _) 0 (by omega);have hk7 : (lnth rbX 0).ex.k = 7 := rfl;simp only [Nat.zero_mul, Nat.add_zero] at x0 x1 x2 x3 x4 x5;rw [hk7] at x2;clear hb hc hp hbb HP hk7 hcl hcell;have hl2 : rbX.length = 1 := rfl;rw [hl2] at HPR ⊢;rw [rb_E, rb_T] at HPR;clear hl2;go_wp2_with fail
 refine HPR.out.mono ?_;rintro e w3 ⟨rfl, hb3⟩;have HB3 := Hd (HB2.out.trans (hb3.mono HB2.out.size));have hcv := cv10 w3;clear hb3 x0 x1 x2 x3 x4 x5;go_wp2_with fail
 go_ret;exact ⟨congrArg (fun x => Ending.returned (.bool x)) rb_eq, HB3.out.alloc HB3.out.size _⟩
end Go.Proofs.YtmlpedgcpffpnaaGreatDoor
