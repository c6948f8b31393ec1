/-
  Promise G2, plain mathematics: what a base owes by brackets, reckoned in two ways; how it goes with the base.
-/
import Derived.Test.YtmlpedgcpffpnaaGreatDoorKQ1
import Derived.Test.YtmlpedgcpffpnaaGreatDoorKZ0
import Derived.Deep.RegionHeld3
import Derived.Test.YtmlpedgcpffpnaaGreatDoorKQ2
import Derived.Recover
import Derived.Lib.Hide
import Derived.Defers
import Derived.Laws.Pointers
set_option linter.unusedSimpArgs false
set_option maxRecDepth 100000
set_option maxHeartbeats 8000000
namespace Go.Proofs.YtmlpedgcpffpnaaGreatDoor
def hb (l : List Bk) (base : Int) (j : Nat) : Int := if j < l.length then max 0 (base - (bnth l j).frm) else 0
def pP (l : List Bk) (base : Int) : Nat -> Int
 | 0 => 0
 | k + 1 => pP l base k + (hb l base k - hb l base (k + 1)) * (bnth l k).rate
def more (l : List Bk) (j : Nat) : Int := if j = 0 then (bnth l 0).rate else (bnth l j).rate - (bnth l (j - 1)).rate
theorem right_nth {l : List Bk} (h : Right l) {j : Nat} (hj : j < l.length) : 0 <= (bnth l j).frm /\ (bnth l j).frm <= 1000000000000 /\ 0 <= (bnth l j).rate /\ (bnth l j).rate <= 10000 := bkB_iff.1 (bksB_nth h.2.2.1 hj)
theorem right_up {l : List Bk} (h : Right l) {j : Nat} (hj : j + 1 < l.length) : (bnth l j).frm < (bnth l (j + 1)).frm := upB_iff.1 h.2.2.2.2 j hj
theorem hb_nonneg (l : List Bk) (base : Int) (j : Nat) : 0 <= hb l base j := by
 unfold hb
 split <;> omega
theorem hb_le {l : List Bk} (h : Right l) (base : Int) (j : Nat) : hb l base j <= max 0 base := by
 unfold hb
 split
 ·have := right_nth h ‹_›;omega
 ·omega
theorem hb_zero {l : List Bk} (h : Right l) (base : Int) : hb l base 0 = max 0 base := by
 unfold hb;rw [if_pos (by have := h.1; omega), h.2.2.2.1];omega
theorem hb_top {l : List Bk} (h : Right l) (base : Int) {j : Nat} (hj : j < l.length) : max 0 ((if j + 1 < l.length then min base (bnth l (j + 1)).frm else base) - (bnth l j).frm) = hb l base j - hb l base (j + 1) := by
 unfold hb;rw [if_pos hj]
 by_cases h1 : j + 1 < l.length
 ·rw [if_pos h1, if_pos h1];have := right_up h h1;omega
 ·rw [if_neg h1, if_neg h1];omega
theorem hb_falls {l : List Bk} (h : Right l) (base : Int) {j : Nat} (hj : j < l.length) : 0 <= hb l base j - hb l base (j + 1) := by
 rw [<- hb_top h base hj];omega
theorem pP_bd {l : List Bk} (h : Right l) {base : Int} : ∀ k, k <= l.length -> 0 <= pP l base k /\ pP l base k <= (hb l base 0 - hb l base k) * 10000
 | 0, _ => by simp [pP]
 | k + 1, hk => by
   have ih := pP_bd h (base := base) k (by omega);have hd := hb_falls h base (j := k) (by omega);have hr := right_nth h (j := k) (by omega);have e : pP l base (k + 1) = pP l base k + (hb l base k - hb l base (k + 1)) * (bnth l k).rate := rfl;have m1 : 0 <= (hb l base k - hb l base (k + 1)) * (bnth l k).rate := Int.mul_nonneg hd hr.2.2.1;have m2 : (hb l base k - hb l base (k + 1)) * (bnth l k).rate <= (hb l base k - hb l base (k + 1)) * 10000 := Int.mul_le_mul_of_nonneg_left hr.2.2.2 hd;rw [e];omega
theorem pP_bound {l : List Bk} (h : Right l) {base : Int} (hb' : base <= 1000000000000) {k : Nat} (hk : k <= l.length) : 0 <= pP l base k /\ pP l base k <= 10000000000000000 := by
 have h1 := pP_bd h (base := base) k hk;have h2 := hb_nonneg l base k;have h3 := hb_le h base 0;omega
def taxN (l : List Bk) (base : Int) : Int := rd (pP l base l.length) 10000 5
theorem pP_step {l : List Bk} (h : Right l) (base : Int) : ∀ k, k <= l.length -> 0 <= pP l (base + 1) k - pP l base k /\ pP l (base + 1) k - pP l base k <= ((hb l (base + 1) 0 - hb l (base + 1) k) - (hb l base 0 - hb l base k)) * 10000
 | 0, _ => by simp [pP]
 | k + 1, hk => by
   have ih := pP_step h base k (by omega);have hr := right_nth h (j := k) (by omega);have e : pP l base (k + 1) = pP l base k + (hb l base k - hb l base (k + 1)) * (bnth l k).rate := rfl;have e' : pP l (base + 1) (k + 1) = pP l (base + 1) k + (hb l (base + 1) k - hb l (base + 1) (k + 1)) * (bnth l k).rate := rfl;have hd : 0 <= (hb l (base + 1) k - hb l (base + 1) (k + 1)) - (hb l base k - hb l base (k + 1)) := by
    rw [<- hb_top h base (j := k) (by omega), <- hb_top h (base + 1) (j := k) (by omega)]
    split <;> omega
   have m1 : 0 <= ((hb l (base + 1) k - hb l (base + 1) (k + 1)) - (hb l base k - hb l base (k + 1))) * (bnth l k).rate := Int.mul_nonneg hd hr.2.2.1;have m2 : ((hb l (base + 1) k - hb l (base + 1) (k + 1)) - (hb l base k - hb l base (k + 1))) * (bnth l k).rate <= ((hb l (base + 1) k - hb l (base + 1) (k + 1)) - (hb l base k - hb l base (k + 1))) * 10000 := Int.mul_le_mul_of_nonneg_left hr.2.2.2 hd;rw [Int.sub_mul] at m1 m2;rw [e, e'];omega
theorem hb_end (l : List Bk) (base : Int) : hb l base l.length = 0 := by unfold hb; rw [if_neg (by omega)]
theorem rd_plus (n : Int) (h : 0 <= n) : rd (n + 10000) 10000 5 = rd n 10000 5 + 1 := by
 have h1 : (n + 10000) % 10000 = n % 10000 := by omega
 have h2 : (n + 10000) / 10000 = n / 10000 + 1 := by omega
 unfold rd goesUp;rw [h1, h2]
 by_cases h0 : n % 10000 = 0
 ·rw [if_pos h0, if_pos h0]
 ·rw [if_neg h0, if_neg h0];have hn : 0 < n := by omega
  have hn' : 0 < n + 10000 := by omega
  simp [hn, hn']
  split <;> rfl
theorem tax_step {l : List Bk} (h : Right l) (base : Int) : taxN l base <= taxN l (base + 1) /\ taxN l (base + 1) <= taxN l base + 1 := by
 have hs := pP_step h base l.length (Nat.le_refl _);rw [hb_end, hb_end, hb_zero h, hb_zero h] at hs;have hp := (pP_bd h (base := base) l.length (Nat.le_refl _)).1;have u1 : pP l base l.length <= pP l (base + 1) l.length := by omega
 have u2 : pP l (base + 1) l.length <= pP l base l.length + 10000 := by omega
 refine ⟨rd_mono _ _ 10000 5 (by omega) (by omega) (by omega) u1, ?_⟩;unfold taxN;rw [<- rd_plus _ hp];exact rd_mono _ _ 10000 5 (by omega) (by omega) (by omega) u2
theorem tax_neg {l : List Bk} (h : Right l) {base : Int} (hb' : base <= 0) : taxN l base = 0 := by
 have := pP_bd h (base := base) l.length (Nat.le_refl _);rw [hb_end, hb_zero h] at this;have e : pP l base l.length = 0 := by omega
 unfold taxN;rw [e]
 decide
theorem tax_far {l : List Bk} (h : Right l) (base : Int) : ∀ m : Nat, taxN l base <= taxN l (base + m) /\ taxN l (base + m) <= taxN l base + m
 | 0 => by simp
 | m + 1 => by
   have ih := tax_far h base m;have st := tax_step h (base + m);have e : base + ((m + 1 : Nat) : Int) = base + m + 1 := by omega
   rw [e];omega
theorem tax_le {l : List Bk} (h : Right l) (base : Int) : 0 <= taxN l base /\ taxN l base <= max 0 base := by
 by_cases hb' : base <= 0
 ·rw [tax_neg h hb']; omega
 ·obtain ⟨m, rfl⟩ : ∃ m : Nat, base = 0 + (m : Int) := ⟨base.toNat, by omega⟩;have := tax_far h 0 m;rw [tax_neg h (Int.le_refl 0)] at this;omega
open Go.RowKit
theorem taxOf_any (a : Option Addr) (n cap : Nat) (l : List Bk) (base : Int) (w : World) (hc : CameB w a l) (hn : l.length = n) (hl : Right l) (h1 : -1000000000000 <= base) (h2 : base <= 1000000000000) :
 Calls Tryz.prog 189 #[.slice a n cap, .int .i64 base] w fun e w' => e = .returned (.int .i64 (taxN l base)) /\ Below w.heap.size w w' := by
 have hn12 : n <= 12 := by rw [<- hn]; exact hl.2.1
 have HL := Hd hl;obtain ⟨b, off, rfl, hcell⟩ := hc.open hn (by rw [<- hn]; exact hl.1);have HO := Hd hcell;clear hcell hc hl
 go_enter Tryz.func189, Tryz.ntmps189
 go_wp2_with fail
 go_loopw [5, 13] (fun p i wr => ∃ k : Nat, k <= n /\ i = .int .i64 k /\ p = .int .i64 (pP l base k) /\ Below w.heap.size w wr) (fun _ i _ => n - (intOf i).toNat)
 case atStart => exact ⟨0, Nat.zero_le _, rfl, rfl, Below.refl _ _⟩
 case round =>
  obtain ⟨k, hk, rfl, rfl, hb⟩ := hrel;have HB := Hd hb;clear hb;have hpb := pP_bound HL.out h2 (k := k) (by omega)
  by_cases hlt : k < n
  ·have hlt' : (k : Int) < (n : Int) := by omega
   obtain ⟨x0, x1⟩ := HO.out wr HB.out k hlt;have hq := right_nth HL.out (j := k) (by omega);have HT0 := Hd (hb_top HL.out base (j := k) (by omega));have HM : (0 <= (hb l base k - hb l base (k + 1)) * (bnth l k).rate /\ (hb l base k - hb l base (k + 1)) * (bnth l k).rate <= 10000000000000000) := by
    have hd := hb_falls HL.out base (j := k) (by omega);have u1 := hb_le HL.out base k;have u2 := hb_nonneg l base (k + 1);refine ⟨Int.mul_nonneg hd hq.2.2.1, ?_⟩;have := Int.mul_le_mul_of_nonneg_left hq.2.2.2 hd;omega
   have HR : Hid ((bnth l k).rate = (bnth l k).rate) := rfl
   by_cases hk1 : k + 1 < n
   ·have hk1' : (k : Int) + 1 < (n : Int) := by omega
    obtain ⟨y0, _⟩ := HO.out wr HB.out (k + 1) hk1;have hq' := right_nth HL.out (j := k + 1) (by omega);have HTOP := HT0;rw [if_pos (by omega)] at HTOP;clear HT0;have htn : ((k : Int) + 1).toNat = k + 1 := by omega
    have y0' : (wr.alloc (.cells #[.int .i64 (bnth l k).frm, .int .i64 (bnth l k).rate] 144)).cell? ⟨b, off + (k + 1) * 2, none⟩ = some (.int .i64 (bnth l (k + 1)).frm) := ((HO.out _ (HB.out.alloc HB.out.size _)) (k + 1) hk1).1;generalize hf : (bnth l k).frm = f at *;generalize hr : (bnth l k).rate = r at *;generalize hg : (bnth l (k + 1)).frm = g at *;clear hf hg;have HR : Hid (r = (bnth l k).rate) := hr.symm;clear hr;have HS : Hid (pP l base k + (hb l base k - hb l base (k + 1)) * r = pP l base (k + 1)) := by
     unfold Hid;rw [HR.out];rfl
    have hq2 := pP_bound HL.out h2 (k := k + 1) (by omega);go_wp2_with fail
    go_roundw
    case rel =>
     refine ⟨k + 1, by omega, by go_num, ?_, HB.out.alloc HB.out.size _⟩;rw [show (if f < if g < base then g else base then (if g < base then g else base) - f else 0) = hb l base k - hb l base (k + 1) by rw [<- HTOP.out]; (repeat' split) <;> omega, IntWalk.wrap64_in ((hb l base k - hb l base (k + 1)) * r) (by omega), IntWalk.wrap64_in _ (by omega), HS.out]
    case measure => simp [intOf]; omega
   ·have hk1' : decide ((k : Int) + 1 < (n : Int)) = false := dEf (by omega);have HTOP := HT0;rw [if_neg (by omega)] at HTOP;clear HT0;generalize hf : (bnth l k).frm = f at *;generalize hr : (bnth l k).rate = r at *;clear hf;have HR : Hid (r = (bnth l k).rate) := hr.symm;clear hr;have HS : Hid (pP l base k + (hb l base k - hb l base (k + 1)) * r = pP l base (k + 1)) := by
     unfold Hid;rw [HR.out];rfl
    have hq2 := pP_bound HL.out h2 (k := k + 1) (by omega);go_wp2_with fail
    go_roundw
    case rel =>
     refine ⟨k + 1, by omega, by go_num, ?_, HB.out.alloc HB.out.size _⟩;rw [show (if f < base then base - f else 0) = hb l base k - hb l base (k + 1) by rw [<- HTOP.out]; (repeat' split) <;> omega, IntWalk.wrap64_in ((hb l base k - hb l base (k + 1)) * r) (by omega), IntWalk.wrap64_in _ (by omega), HS.out]
    case measure => simp [intOf]; omega
  ·have hkn : k = n := by omega
   subst hkn;have HE : Hid (rvN (pP l base k) 10000 5 = taxN l base) := by
    unfold Hid taxN;rw [hn];exact (rv_ok (n := pP l base k) (d := 10000) (way := 5) rfl (decide_eq_true ⟨by omega, by omega, by omega, by omega⟩)).1
   go_wp2_with fail
   refine (round_any _ _ _ _).mono ?_;rintro e w2 ⟨rfl, j, rfl⟩;go_wp2_with fail
   go_ret;exact ⟨kret_int HE.out, kbelow_dN HB.out _⟩

def baseE (s : ByteArray) (l : List Bk) (base : Int) : Int := if tblE s l ≠ 0 then tblE s l else if monB base = true then 0 else 3
theorem baseE_tbl {s : ByteArray} {l : List Bk} {base : Int} (h : tblE s l ≠ 0) : baseE s l base = tblE s l := by unfold baseE; rw [if_pos h]
theorem baseE_far {s : ByteArray} {l : List Bk} {base : Int} (h : tblE s l = 0) (h2 : monB base = false) : baseE s l base = 3 := by unfold baseE; rw [if_neg (by simpa using h), if_neg (by simp [h2])]
theorem baseE_yes {s : ByteArray} {l : List Bk} {base : Int} (h : tblE s l = 0) (h2 : monB base = true) : baseE s l base = 0 := by unfold baseE; rw [if_neg (by simpa using h), if_pos h2]
theorem baseE_ok {s : ByteArray} {l : List Bk} {base : Int} (h : baseE s l base = 0) : Right l /\ -1000000000000 <= base /\ base <= 1000000000000 /\ tblE s l = 0 := by
 unfold baseE at h
 split at h
 ·exact absurd h ‹_›
 ·split at h
  ·rename_i h1 h2
   have h2' : -1000000000000 <= base /\ base <= 1000000000000 := of_decide_eq_true h2;have h1' : tblE s l = 0 := by simpa using h1
   exact ⟨(tblE_ok h1').2, h2'.1, h2'.2, h1'⟩
  ·cases h
theorem checkBase_any (s : ByteArray) (a : Option Addr) (n cap : Nat) (l : List Bk) (base : Int) (w : World) (hc : CameB w a l) (hn : l.length = n) (hm : n <= maxLen) :
 Calls Tryz.prog 188 #[.agg #[.string s, .slice a n cap], .int .i64 base] w fun e w' => e = .returned (.int .i64 (baseE s l base)) /\ Below w.heap.size w w' := by
 have HC := Hd hc;have HM := Hd hm;clear hm hc;have HB0 := Hd (kbelow_box w (.cells #[.string s, .slice a n cap] 83))
 go_enter Tryz.func188, Tryz.ntmps188
 go_wp2_with fail
 refine (Check_any s a n cap l _ (HC.out.below HB0.out) hn HM.out).mono ?_;rintro e w1 ⟨rfl, hbel⟩;have HB1 := Hd (HB0.out.trans (hbel.mono HB0.out.size));clear hbel
 by_cases h0 : tblE s l = 0
 ·rw [h0];go_wp2_with fail
  refine (isMoney_any _ _).mono ?_;rintro e w' ⟨rfl, h'⟩;subst w'
  cases hb : monB base
  ·have HE : Hid (baseE s l base = 3) := baseE_far h0 hb;go_wp2_with fail
   go_ret;exact ⟨kret_int (HE.out.symm), HB1.out⟩
  ·have HE : Hid (baseE s l base = 0) := baseE_yes h0 hb;go_wp2_with fail
   go_ret;exact ⟨kret_int (HE.out.symm), HB1.out⟩
 ·have HE : Hid (baseE s l base = tblE s l) := baseE_tbl h0;have h0N : (tblE s l != 0) = true := by simp [h0]
  have h0B : decide (tblE s l = 0) = false := dEf h0;go_wp2_with fail
  go_ret;exact ⟨kret_int (HE.out.symm), HB1.out⟩
def taxR (s : ByteArray) (l : List Bk) (base : Int) : Int := if baseE s l base = 0 then taxN l base else 0
theorem kret2 {a b c d : Int} (h : a = b) (k : c = d) : Ending.returned (.tuple #[.int .i64 a, .int .i64 c]) = .returned (.tuple #[.int .i64 b, .int .i64 d]) := by rw [h, k]
theorem Tax_any (s : ByteArray) (a : Option Addr) (n cap : Nat) (l : List Bk) (base : Int) (w : World) (hc : CameB w a l) (hn : l.length = n) (hm : n <= maxLen) :
 Calls Tryz.prog 168 #[.agg #[.string s, .slice a n cap], .int .i64 base] w fun e w' => e = .returned (.tuple #[.int .i64 (taxR s l base), .int .i64 (baseE s l base)]) /\ Below w.heap.size w w' := by
 have HC := Hd hc;have HM := Hd hm;clear hm hc;have HB0 := Hd (kbelow_box w (.cells #[.string s, .slice a n cap] 83));have HT0 := Hd (TIs.made w s a n cap 83)
 go_enter Tryz.func168, Tryz.ntmps168
 go_wp2_with fail
 refine (checkBase_any s a n cap l base _ (HC.out.below HB0.out) hn HM.out).mono ?_;rintro e w1 ⟨rfl, hbel⟩;have HB1 := Hd (HB0.out.trans (hbel.mono HB0.out.size));have HT1 := Hd (HT0.out.below hbel HT0.out.1);clear hbel;obtain ⟨_, x0, x1⟩ := HT1.out
 by_cases h0 : baseE s l base = 0
 ·have HR : Hid (taxR s l base = taxN l base) := by unfold Hid taxR; rw [if_pos h0]
  obtain ⟨hl, hb1, hb2, _⟩ := baseE_ok h0;have HL := Hd hl;have HE := Hd h0;rw [h0];clear hl h0;go_wp2_with fail
  refine (taxOf_any a n cap l base _ (HC.out.below HB1.out) hn HL.out hb1 hb2).mono ?_;rintro e w2 ⟨rfl, hb⟩;have HB2 := Hd (HB1.out.trans (hb.mono HB1.out.size));clear hb;go_wp2_with fail
  go_ret2
  exact ⟨kret2 HR.out.symm HE.out.symm, HB2.out⟩
 ·have HR : Hid (taxR s l base = 0) := by unfold Hid taxR; rw [if_neg h0]
  have h0N : (baseE s l base != 0) = true := by simp [h0]
  have h0B : decide (baseE s l base = 0) = false := dEf h0;go_wp2_with fail
  go_ret2
  exact ⟨kret2 HR.out.symm rfl, HB1.out⟩
theorem vret_int {k : IntKind} {a b : Int} (h : a = b) : Ending.returned (.int k a) = .returned (.int k b) := by rw [h]
theorem vret_bool {a b : Bool} (h : a = b) : Ending.returned (.bool a) = .returned (.bool b) := by rw [h]
def gaveU (e : Int) : List PanicEntry := [{ v := .iface 163 (.int .i64 e), recovered := false }]
def vEnd : Option Int -> Ending
 | some n => .returned (.int .i64 n)
 | none => .panicked (gaveU 3)
def monO (n : Int) : Option Int := if monB n = true then some n else none
theorem rMoney_any (n : Int) (w : World) : Calls Tryz.prog 130 #[.int .i64 n] w fun e w' => e = vEnd (monO n) /\ w' = w := by
 cases hm : monB n
 ·have H : Hid (monO n = none) := Hd (by unfold monO; rw [hm]; rfl);rw [H.out]
  go_enter Tryz.func130, Tryz.ntmps130
  go_wp2_with (first | (go_at_call 138; refine (isMoney_any _ _).mono ?_; rintro e w' ⟨rfl, h'⟩; subst w'; rw [hm]))
  exact ⟨rfl, rfl, rfl⟩
 ·have H : Hid (monO n = some n) := Hd (by unfold monO; rw [hm]; rfl);rw [H.out]
  go_enter Tryz.func130, Tryz.ntmps130
  go_wp2_with (first | (go_at_call 138; refine (isMoney_any _ _).mono ?_; rintro e w' ⟨rfl, h'⟩; subst w'; rw [hm]))
  go_ret;exact ⟨rfl, rfl⟩
theorem sure_ok (n : Int) (w : World) : Calls Tryz.prog 166 #[.int .i64 n, .int .i64 0] w fun e w' => e = vEnd (monO n) /\ w' = w := by
 have HK := Hd (fun w => rMoney_any n w)
 cases ho : monO n with
 | none =>
   rw [ho] at HK;simp only [vEnd] at HK
   go_enter Tryz.func166, Tryz.ntmps166
   go_wp2_with fail
   refine (HK.out _).mono ?_;rintro e w1 ⟨rfl, h'⟩;subst w1;go_wp2_with fail
   exact ⟨rfl, rfl, rfl⟩
 | some m =>
   rw [ho] at HK;simp only [vEnd] at HK
   go_enter Tryz.func166, Tryz.ntmps166
   go_wp2_with fail
   refine (HK.out _).mono ?_;rintro e w1 ⟨rfl, h'⟩;subst w1;go_wp2_with fail
   go_ret;exact ⟨rfl, rfl⟩
theorem vbelow_dN {B : Nat} {a w : World} (h : Below B a w) (k : Nat) : Below B a (w.drewN k) := h.trans ⟨rfl, rfl, rfl, Nat.le_refl _, fun _ _ => rfl⟩
theorem rRate_any (n r : Int) (w : World) (hn : monB n = true) (hr : ratB r = true) : Calls Tryz.prog 131 #[.int .i64 n, .int .i64 r] w fun e w' => e = vEnd (monO (rd (n * r) 10000 5)) /\ Below w.heap.size w w' := by
 have HP : Hid (∀ w, Calls Tryz.prog 167 #[.int .i64 n, .int .i64 r, .int .i64 5] w fun e w' => e = .returned (.tuple #[.int .i64 (rd (n * r) 10000 5), .int .i64 0]) /\ ∃ k, w' = w.drewN k) := fun w => by
  have h := part_any n r 5 w;have e1 : paN n r 5 = rd (n * r) 10000 5 := by unfold paN; rw [if_pos ⟨rfl, hn, hr⟩]
  have e2 : paE n r 5 = 0 := by unfold paE; rw [if_pos (show wayB 5 = true from rfl), if_pos ⟨hn, hr⟩]
  rw [e1, e2] at h;exact h
 clear hn hr;generalize rd (n * r) 10000 5 = v at *;have HS := Hd (fun w => sure_ok v w)
 cases ho : monO v with
 | none =>
   rw [ho] at HS;simp only [vEnd] at HS
   go_enter Tryz.func131, Tryz.ntmps131
   go_wp2_with fail
   refine (HP.out _).mono ?_;rintro e w1 ⟨rfl, k, rfl⟩;go_wp2_with fail
   refine (HS.out _).mono ?_;rintro e w2 ⟨rfl, h'⟩;subst w2;go_wp2_with fail
   exact ⟨rfl, rfl, vbelow_dN (Below.refl _ _) k⟩
 | some m =>
   rw [ho] at HS;simp only [vEnd] at HS
   go_enter Tryz.func131, Tryz.ntmps131
   go_wp2_with fail
   refine (HP.out _).mono ?_;rintro e w1 ⟨rfl, k, rfl⟩;go_wp2_with fail
   refine (HS.out _).mono ?_;rintro e w2 ⟨rfl, h'⟩;subst w2;go_wp2_with fail
   go_ret;exact ⟨rfl, vbelow_dN (Below.refl _ _) k⟩
theorem rOver_any (n d : Int) (w : World) (hn : monB n = true) (h1 : 1 <= d) (h2 : d <= 1000000) : Calls Tryz.prog 133 #[.int .i64 n, .int .i64 d] w fun e w' => e = vEnd (monO (rd n d 5)) /\ Below w.heap.size w w' := by
 have HP : Hid (∀ w, Calls Tryz.prog 169 #[.int .i64 n, .int .i64 d, .int .i64 5] w fun e w' => e = .returned (.tuple #[.int .i64 (rd n d 5), .int .i64 0]) /\ ∃ k, w' = w.drewN k) := fun w => by
  have h := round_any n d 5 w;have hm := of_decide_eq_true hn;obtain ⟨e1, e2⟩ := rv_ok (n := n) (d := d) (way := 5) rfl (decide_eq_true (by omega));rw [e1, e2] at h;exact h
 clear hn h1 h2;generalize rd n d 5 = v at *;have HS := Hd (fun w => sure_ok v w)
 cases ho : monO v with
 | none =>
   rw [ho] at HS;simp only [vEnd] at HS
   go_enter Tryz.func133, Tryz.ntmps133
   go_wp2_with fail
   refine (HP.out _).mono ?_;rintro e w1 ⟨rfl, k, rfl⟩;go_wp2_with fail
   refine (HS.out _).mono ?_;rintro e w2 ⟨rfl, h'⟩;subst w2;go_wp2_with fail
   exact ⟨rfl, rfl, vbelow_dN (Below.refl _ _) k⟩
 | some m =>
   rw [ho] at HS;simp only [vEnd] at HS
   go_enter Tryz.func133, Tryz.ntmps133
   go_wp2_with fail
   refine (HP.out _).mono ?_;rintro e w1 ⟨rfl, k, rfl⟩;go_wp2_with fail
   refine (HS.out _).mono ?_;rintro e w2 ⟨rfl, h'⟩;subst w2;go_wp2_with fail
   go_ret;exact ⟨rfl, vbelow_dN (Below.refl _ _) k⟩
def holdB (t a b : Int) : Bool := if t = 1 then decide (a < b) else if t = 2 then decide (a <= b) else a == b
theorem rHolds_any (t a b : Int) (w : World) : Calls Tryz.prog 99 #[.int .i64 t, .int .i64 a, .int .i64 b] w fun e w' => e = .returned (.bool (holdB t a b)) /\ w' = w := by
 by_cases h1 : t = 1
 ·have H : Hid (holdB t a b = decide (a < b)) := Hd (by unfold holdB; rw [if_pos h1]);have h1' : (t == 1) = true := by simp [h1]
  clear h1
  go_enter Tryz.func99, Tryz.ntmps99
  go_wp2_with fail
  go_ret;exact ⟨vret_bool H.out.symm, rfl⟩
 ·have h1' : (t == 1) = false := by simp [h1]
  by_cases h2 : t = 2
  ·have H : Hid (holdB t a b = decide (a <= b)) := Hd (by unfold holdB; rw [if_neg h1, if_pos h2]);have h2' : (t == 2) = true := by simp [h2]
   clear h1 h2
   go_enter Tryz.func99, Tryz.ntmps99
   go_wp2_with fail
   go_ret;exact ⟨vret_bool H.out.symm, rfl⟩
  ·have H : Hid (holdB t a b = (a == b)) := Hd (by unfold holdB; rw [if_neg h1, if_neg h2]);have h2' : (t == 2) = false := by simp [h2]
   clear h1 h2
   go_enter Tryz.func99, Tryz.ntmps99
   go_wp2_with fail
   go_ret;exact ⟨vret_bool (by rw [H.out]), rfl⟩
theorem rTax_any (s : ByteArray) (a : Option Addr) (n cap : Nat) (l : List Bk) (base : Int) (w : World) (hc : CameB w a l) (hn : l.length = n) (hm : n <= maxLen) (ht : tblE s l = 0) (hb : monB base = true) :
 Calls Tryz.prog 132 #[.agg #[.string s, .slice a n cap], .int .i64 base] w fun e w' => e = .returned (.int .i64 (taxN l base)) /\ Below w.heap.size w w' := by
 have HB0 := Hd (kbelow_box w (.cells #[.string s, .slice a n cap] 83));have h0 := baseE_yes (s := s) (l := l) (base := base) ht hb;have hR : taxR s l base = taxN l base := by unfold taxR; rw [if_pos h0]
 have HT := Hd (fun w (hc : CameB w a l) => Tax_any s a n cap l base w hc hn hm);rw [h0, hR] at HT;have hmo : monO (taxN l base) = some (taxN l base) := by
  have hl := tax_le (tblE_ok ht).2 base;have hm' := of_decide_eq_true hb;unfold monO;rw [if_pos (show monB (taxN l base) = true from decide_eq_true (by omega))]
 have HS := Hd (fun w => sure_ok (taxN l base) w);rw [hmo] at HS;simp only [vEnd] at HS;have HC := Hd hc;clear hc h0 hR hmo hm hn ht hb;generalize taxN l base = v at *
 go_enter Tryz.func132, Tryz.ntmps132
 go_wp2_with fail
 refine (HT.out _ (HC.out.below HB0.out)).mono ?_;rintro e w1 ⟨rfl, hb1⟩;have HB1 := Hd (HB0.out.trans (hb1.mono HB0.out.size));clear hb1;go_wp2_with fail
 refine (HS.out _).mono ?_;rintro e w2 ⟨rfl, h'⟩;subst w2;go_wp2_with fail
 go_ret;exact ⟨rfl, HB1.out⟩
theorem try_idle (p : Addr) (w : World) :
 CallsD Tryz.prog 86 #[.pointer (some p)] .returning w fun e u' w' => e = .returned (.tuple #[]) /\ u' = .returning /\ w' = w := by
 refine callsD_of_wpS Tryz.func86 rfl fun c₀ cs hu => ?_
 apply wpS_seq
 apply wpS_region
 simp [wpOpsS, go_sem, recoverD, hu, Tryz.ntmps86, Exit.thenS]
 apply wpS_seq
 apply wpS_region
 simp [wpOpsS, go_sem, Exit.thenS, Array.replicate];refine wpS_cond (t := false) (by simp [Act.eval]) ?_;simp only [Bool.false_eq_true, if_false];refine wpS_of_wp (wp_skip ?_)
 cases c₀
 simp_all [bodyPostS, results, Tryz.results86]
theorem assert_gave (v : Value) (w : World) : (Instr.typeAssert (.iface 163 v) 20 163 false).run Tryz.prog w = .ok v w := by kernel_rfl
theorem try_gone (p : Nat) (e : Int) (w : World) (v : Value) (hp : w.cell? ⟨p, 0, none⟩ = some v) (hz : w.frozen? ⟨p, 0, none⟩ = false) :
 CallsD Tryz.prog 86 #[.pointer (some ⟨p, 0, none⟩)] (.panicking (gaveU e)) w fun x u' w' => x = .returned (.tuple #[]) /\ u' = .panicking [{ v := .iface 163 (.int .i64 e), recovered := true }] /\ w' = w.setCell ⟨p, 0, none⟩ (.int .i64 e) := by
 refine callsD_of_wpS Tryz.func86 rfl fun c₀ cs hu => ?_
 apply wpS_seq
 apply wpS_region
 simp [wpOpsS, go_sem, recoverD, hu, gaveU, Tryz.ntmps86, Exit.thenS]
 apply wpS_seq
 apply wpS_region
 simp [wpOpsS, go_sem, Exit.thenS, Array.replicate];refine wpS_cond (t := true) (by simp [Act.eval]) ?_;simp only [if_true];refine wpS_of_wp ?_;have has := assert_gave (.int .i64 e);go_wp2_with fail
 simp [bodyPostS, results, Tryz.results86]
theorem Try_any (F : FuncId) (caps : Array Value) (w : World) (A B : World -> Prop) (hF : ∀ w, (callFunc F caps).run Tryz.prog w = .ok (.enter F caps) w) (hdo : Calls Tryz.prog F caps (w.alloc (.cells #[.int .i64 0] 28)) fun e w1 => ((e = .returned (.tuple #[]) /\ A w1) \/ (e = .panicked (gaveU 3) /\ B w1)) /\ w1.cell? ⟨w.heap.size, 0, none⟩ = some (.int .i64 0) /\ w1.frozen? ⟨w.heap.size, 0, none⟩ = false) :
 Calls Tryz.prog 44 #[.func (.func F) #[] caps] w fun e w' => (e = .returned (.int .i64 0) /\ ∃ w1, A w1 /\ w' = w1.setCell ⟨w.heap.size, 0, none⟩ (.int .i64 0)) \/ (e = .returned (.int .i64 3) /\ ∃ w1, B w1 /\ w' = w1.setCell ⟨w.heap.size, 0, none⟩ (.int .i64 3)) := by
 have HD := Hd hdo;have HF := Hd hF;clear hdo hF;have hmf : ∀ (fn : Fn) (first cap : Array Value) (w : World), (Instr.makeFunc fn first cap).run Tryz.prog w = .ok (.func fn first cap) w := fun _ _ _ _ => rfl
 go_enter_defers Tryz.func44, Tryz.ntmps44
 go_wp2_with fail
 rw [HF.out, Oper.upon_enter];refine HD.out.mono ?_;rintro e w1 ⟨⟨rfl, ha⟩ | ⟨rfl, hb⟩, hc, hf⟩
 ·have HA := Hd ha;clear ha;go_wp2_with fail
  refine leaves_cons (f := 86) (args := #[.pointer (some ⟨w.heap.size, 0, none⟩)]) (by simp) (by simp [go_sem]) ?_;refine (try_idle ⟨w.heap.size, 0, none⟩ _).mono ?_;rintro e1 u' w'' ⟨rfl, rfl, rfl⟩;have e0 : (w1.setCell ⟨w.heap.size, 0, none⟩ (.int .i64 0)).cell? ⟨w.heap.size, 0, none⟩ = some (.int .i64 0) := World.cell?_setCell_same _ _ _ hc;simp [Leaves, settle, results, Tryz.results44, go_sem, e0];exact ⟨w1, HA.out, rfl⟩
 ·have HB := Hd hb;clear hb;go_wp2_with fail
  refine leaves_cons (f := 86) (args := #[.pointer (some ⟨w.heap.size, 0, none⟩)]) (by simp) (by simp [go_sem]) ?_;refine (try_gone w.heap.size 3 w1 _ hc hf).mono ?_;rintro e1 u' w'' ⟨rfl, rfl, rfl⟩;have e0 : (w1.setCell ⟨w.heap.size, 0, none⟩ (.int .i64 3)).cell? ⟨w.heap.size, 0, none⟩ = some (.int .i64 3) := World.cell?_setCell_same _ _ _ hc;simp [Leaves, settle, results, Tryz.results44, go_sem, e0];exact ⟨w1, HB.out, rfl⟩
end Go.Proofs.YtmlpedgcpffpnaaGreatDoor
