/-
  Promise J2: what Check comes to, step by step; how deep, and what is kept.
-/
import Derived.Test.YtmlpedgcpffpnaaGreatDoorKQ7
import Derived.Laws.MakeOwn
import Derived.Test.YtmlpedgcpffpnaaGreatDoorKZ0
import Derived.Lib.QuietBelow
import Derived.BigQuiet
set_option linter.unusedSimpArgs false
set_option maxRecDepth 100000
set_option maxHeartbeats 8000000
namespace Go.Proofs.YtmlpedgcpffpnaaGreatDoor
open Go.RowKit
def noS : Nat -> Sp := fun _ => ⟨0, 0, false, false⟩
def ckS (l : List Bk) : Nat -> (Nat -> Sp)
 | 0 => rchS noS 0 0 0
 | j + 1 => stpS (ckS l j) (bnth l j) j
def ckM (l : List Bk) : Nat -> Int
 | 0 => 0
 | j + 1 => stpM (ckM l j) (ckS l j) (bnth l j) j
def ckE (l : List Bk) (lines : Int) (n1 n2 n3 : Nat) (j : Nat) : Int := stpE (ckS l j) (bnth l j) lines n1 n2 n3 l.length j
def ckEnd (l : List Bk) (lines : Int) : Bool := !(ckS l l.length l.length).h && (decide ((ckS l l.length l.length).d = 0) && decide (((ckS l l.length l.length).k : Int) = ((2 ^ lines.toNat - 1 : Nat) : Int)))
def chkE (k : Kn) (l : List Bk) (lines : Int) : Int :=
 if 10000 < l.length \/ lines < 0 \/ 40 < lines then 2 else if knE k ≠ 0 then knE k else if firstE (ckE l lines k.ins.length k.tbs.length k.yrs.length) l.length ≠ 0 then firstE (ckE l lines k.ins.length k.tbs.length k.yrs.length) l.length else if ckEnd l lines = true then 0 else 4
def chkN (k : Kn) (l : List Bk) (lines : Int) : Int := if chkE k l lines = 0 then ckM l l.length else 0
def Bnd (S : Nat -> Sp) : Prop := ∀ j, (S j).r = true -> (0 <= (S j).d /\ (S j).d <= j) /\ (S j).k < 1099511627776
theorem Bnd.rch {S : Nat -> Sp} (h : Bnd S) (t : Nat) (d : Int) (k : Nat) (hd : 0 <= d /\ d <= t) (hk : k < 1099511627776) : Bnd (rchS S t d k) := by
 intro j hj;unfold rchS at hj ⊢
 by_cases hjt : j = t
 ·subst hjt;rw [if_pos rfl] at hj ⊢;exact ⟨hd, hk⟩
 ·rw [if_neg hjt] at hj ⊢;exact h j hj
theorem takes_le {d : Int} {k q : Nat} {z : Int} (h : allowB d k q z = true) : takesOf q <= d := by
 unfold allowB at h
 by_cases h1 : d < takesOf q
 ·rw [if_pos h1] at h; cases h
 ·omega
theorem nxK_lt {k q : Nat} {z : Int} (hk : k < 1099511627776) (hz : q = 16 -> 0 <= z /\ z < 40) : nxK k q z < 1099511627776 := by
 unfold nxK
 by_cases hq : q = 16
 ·rw [if_pos hq];have hz' := hz hq;have h2 : 2 ^ z.toNat < 2 ^ 40 := Nat.pow_lt_pow_right (by omega) (by omega);exact Nat.or_lt_two_pow (n := 40) hk h2
 ·rw [if_neg hq]; exact hk
theorem stpE_ok {S : Nat -> Sp} {o : Bk} {lines : Int} {n1 n2 n3 n at_ : Nat} (h : stpE S o lines n1 n2 n3 n at_ = 0) :
 (1 <= o.frm /\ o.frm <= 16) /\ fitsB o.frm o.rate lines n1 n2 n3 n at_ = true /\ ((S at_).r = true -> (S at_).h = false /\ allowB (S at_).d (S at_).k o.frm.toNat o.rate = true) := by
 unfold stpE at h
 by_cases h1 : o.frm < 1 \/ 16 < o.frm
 ·rw [if_pos h1] at h; omega
 rw [if_neg h1] at h
 by_cases h2 : fitsB o.frm o.rate lines n1 n2 n3 n at_ = false
 ·rw [if_pos h2] at h; omega
 rw [if_neg h2] at h;refine ⟨by omega, by simpa using h2, fun hr => ?_⟩;rw [if_neg (by rw [hr]; decide)] at h
 by_cases h3 : (S at_).h = true
 ·rw [if_pos h3] at h; omega
 rw [if_neg h3] at h
 by_cases h4 : allowB (S at_).d (S at_).k o.frm.toNat o.rate = false
 ·rw [if_pos h4] at h; omega
 exact ⟨by simpa using h3, by simpa using h4⟩
theorem nxD_bd {S : Nat -> Sp} {o : Bk} {lines : Int} {n1 n2 n3 n at_ : Nat} (h : stpE S o lines n1 n2 n3 n at_ = 0) (hb : Bnd S) (hr : (S at_).r = true) (hl : lines <= 40) :
 (0 <= nxD (S at_).d o.frm.toNat /\ nxD (S at_).d o.frm.toNat <= at_ + 1) /\ nxK (S at_).k o.frm.toNat o.rate < 1099511627776 := by
 obtain ⟨hrg, hf, ha⟩ := stpE_ok h;have h1 := hb at_ hr;have h2 := takes_le (ha hr).2;have h3 := lays_bd (o.frm.toNat : Int);have h4 := takes_bd (o.frm.toNat : Int);refine ⟨by unfold nxD; omega, nxK_lt h1.2 fun hq => ?_⟩;have := fits_line hf (by omega);omega
theorem Bnd.stp {S : Nat -> Sp} {o : Bk} {lines : Int} {n1 n2 n3 n at_ : Nat} (h : stpE S o lines n1 n2 n3 n at_ = 0) (hb : Bnd S) (hl : lines <= 40) : Bnd (stpS S o at_) := by
 unfold stpS
 by_cases hr : (S at_).r = false
 ·rw [if_pos hr]; exact hb
 rw [if_neg hr];have hr' : (S at_).r = true := by simpa using hr
 obtain ⟨⟨d0, d1⟩, hk⟩ := nxD_bd h hb hr' hl;have hx : Bnd (nxS S o at_) := hb.rch _ _ _ ⟨d0, by unfold toN; omega⟩ hk
 split
 ·exact hx.rch _ _ _ ⟨d0, by omega⟩ hk
 ·exact hx
theorem ckS_bnd {l : List Bk} {lines : Int} {n1 n2 n3 : Nat} (hl : lines <= 40) : ∀ j, j <= l.length -> firstE (ckE l lines n1 n2 n3) j = 0 -> Bnd (ckS l j)
 | 0, _, _ => by
   intro j hj;unfold ckS rchS noS at hj ⊢
   by_cases h0 : j = 0
   ·subst h0;rw [if_pos rfl];exact ⟨⟨by decide, by decide⟩, by decide⟩
   ·rw [if_neg h0] at hj; cases hj
 | j + 1, hj, h => by
   have h0 : firstE (ckE l lines n1 n2 n3) j = 0 := by
    by_cases e : firstE (ckE l lines n1 n2 n3) j = 0
    ·exact e
    ·simp [firstE, e] at h
   have h1 : ckE l lines n1 n2 n3 j = 0 := by rw [<- h, firstE_ok h0]
   exact (ckS_bnd hl j (by omega) h0).stp h1 hl
theorem info_spot : (Tryz.prog.info? 109).map (fun i => (i.zero, i.size, i.bytes)) = some (some (.agg #[.int .i64 0, .int .u64 0, .bool false, .bool false]), 4, 24) := by kernel_rfl
theorem make_spots (n : Nat) (h : n <= 10000) (w : World) : (Instr.makeSlice 102 (.int .i64 ((n : Int) + 1)) (.int .i64 ((n : Int) + 1))).run Tryz.prog w = .ok (.slice (some ⟨w.heap.size, 0, none⟩) (n + 1) (n + 1)) (w.alloc (.cells (madeCells #[.int .i64 0, .int .u64 0, .bool false, .bool false] ((n + 1) * 4)) 109)) := by
 obtain ⟨i0, hi, hz0, hz1, hz2⟩ := info_parts info_spot;have := run_make (P := Tryz.prog) w 102 109 i0 _ Tryz.underlying102 hi hz0 .i64 .i64 ((n : Int) + 1) ((n : Int) + 1) (by omega) (by omega) (by rw [hz2]; omega) (by omega);rw [hz1, show ((n : Int) + 1).toNat = n + 1 by omega] at this;exact this
theorem made_spots (w : World) (n : Nat) (T : TypeId) : Spots (w.alloc (.cells (madeCells #[.int .i64 0, .int .u64 0, .bool false, .bool false] ((n + 1) * 4)) T)) w.heap.size n noS := by
 intro j hj;have hc : ∀ r, r < 4 -> (madeCells #[.int .i64 0, .int .u64 0, .bool false, .bool false] ((n + 1) * 4))[j * 4 + r]? = (#[.int .i64 0, .int .u64 0, .bool false, .bool false] : Array Value)[r]? := by
  intro r hr;have h1 : j * 4 + r < (n + 1) * 4 := by omega
  have h2 : (j * 4 + r) % 4 = r := by omega
  have h3 : (madeCells #[.int .i64 0, .int .u64 0, .bool false, .bool false] ((n + 1) * 4))[j * 4 + r]? = some ((#[.int .i64 0, .int .u64 0, .bool false, .bool false] : Array Value)[(j * 4 + r) % 4]!) := by
   simp only [madeCells, Array.getElem?_map];rw [Array.getElem?_eq_getElem (by simpa using h1)];simp
  rw [h3, h2];have : r = 0 \/ r = 1 \/ r = 2 \/ r = 3 := by omega
  rcases this with rfl | rfl | rfl | rfl <;> rfl
 have c0 := hc 0 (by omega);have c1 := hc 1 (by omega);have c2 := hc 2 (by omega);have c3 := hc 3 (by omega);simp only [Nat.add_zero] at c0;unfold SpotIs noS;generalize (madeCells #[.int .i64 0, .int .u64 0, .bool false, .bool false] ((n + 1) * 4)) = M at *;refine ⟨⟨?_, ?_, ?_, ?_⟩, ?_, ?_, ?_, ?_⟩
 ·simp [c0]
 ·simp [c1]
 ·simp [c2]
 ·simp [c3]
 ·simp
 ·simp
 ·simp
 ·simp
theorem made_ck (w1 : World) (a : Option Addr) (b off n cap : Nat) (lines : Int) (a1 a2 a3 : Option Addr) (n1 c1 n2 c2 n3 c3 : Nat) (ha : 0 < n -> a = some ⟨b, off, none⟩) :
 CkAt (((w1.alloc (.cells (madeCells #[.int .i64 0, .int .u64 0, .bool false, .bool false] ((n + 1) * 4)) 109)).alloc (.cells #[.slice a n cap, .int .i64 lines, .slice a1 n1 c1, .slice a2 n2 c2, .slice a3 n3 c3, .slice (some ⟨w1.heap.size, 0, none⟩) (n + 1 : Nat) (n + 1), .int .i64 0] 104)).drew) w1.heap.size (w1.heap.size + 1) w1.heap.size b off n cap lines a1 a2 a3 n1 c1 n2 c2 n3 c3 (n + 1) noS 0 := by
 have s1 : (w1.alloc (.cells (madeCells #[.int .i64 0, .int .u64 0, .bool false, .bool false] ((n + 1) * 4)) 109)).heap.size = w1.heap.size + 1 := by simp
 have hsp := made_spots w1 n 109;have hbx := Cbx.made (w1.alloc (.cells (madeCells #[.int .i64 0, .int .u64 0, .bool false, .bool false] ((n + 1) * 4)) 109)) [.slice a n cap, .int .i64 lines, .slice a1 n1 c1, .slice a2 n2 c2, .slice a3 n3 c3, .slice (some ⟨w1.heap.size, 0, none⟩) (n + 1 : Nat) (n + 1), .int .i64 0] 104;have hbb := kbelow_box (w1.alloc (.cells (madeCells #[.int .i64 0, .int .u64 0, .bool false, .bool false] ((n + 1) * 4)) 109)) (.cells #[.slice a n cap, .int .i64 lines, .slice a1 n1 c1, .slice a2 n2 c2, .slice a3 n3 c3, .slice (some ⟨w1.heap.size, 0, none⟩) (n + 1 : Nat) (n + 1), .int .i64 0] 104);rw [s1] at hbx;refine CkAt.below (w := (w1.alloc (.cells (madeCells #[.int .i64 0, .int .u64 0, .bool false, .bool false] ((n + 1) * 4)) 109)).alloc (.cells #[.slice a n cap, .int .i64 lines, .slice a1 n1 c1, .slice a2 n2 c2, .slice a3 n3 c3, .slice (some ⟨w1.heap.size, 0, none⟩) (n + 1 : Nat) (n + 1), .int .i64 0] 104)) ?_ (kbelow_dN (Below.refl _ _) 1);refine ⟨fun h0 => ⟨hbx.lt, ?_, hbx.at 1 rfl, hbx.at 2 rfl, hbx.at 3 rfl, hbx.at 4 rfl⟩, hbx.lt, hbx.at 5 rfl, hbx.at 6 rfl, hbx.fr 6 rfl, hsp.below hbb, by omega, by omega, by omega⟩;exact (hbx.at 0 rfl).trans (by rw [ha h0])
theorem bit41 : ∀ n : Nat, n < 41 -> IntKind.u64.wrap ((2 : Int) ^ n) = ((2 ^ n : Nat) : Int) := by decide
theorem bit41m : ∀ n : Nat, n < 41 -> IntKind.u64.wrap (((2 ^ n : Nat) : Int) - 1) = ((2 ^ n - 1 : Nat) : Int) := by decide
theorem CCheck_any (a : Option Addr) (n cap : Nat) (l : List Bk) (lines : Int) (a1 a2 a3 : Option Addr) (n1 n2 n3 c1 c2 c3 : Nat) (k : Kn) (w : World) (hl : CameB w a l) (hn : l.length = n) (hm : n <= maxLen) (hk : CameK w a1 a2 a3 k) (h1 : k.ins.length = n1) (h2 : k.tbs.length = n2) (h3 : k.yrs.length = n3) (hE : Eff w) (hz : ∀ j, j < n -> I64 (bnth l j).rate) :
 Calls Tryz.prog 17 #[.slice a n cap, .int .i64 lines, .agg #[.slice a1 n1 c1, .slice a2 n2 c2, .slice a3 n3 c3]] w fun e w' => e = .returned (.tuple #[.int .i64 (chkN k l lines), .int .i64 (chkE k l lines)]) /\ Below w.heap.size w w' := by
 have hm' : n <= 9223372036854775807 := by unfold maxLen at hm; omega
 have HCE : Hid (chkE k l lines = if 10000 < n \/ lines < 0 \/ 40 < lines then 2 else if knE k ≠ 0 then knE k else if firstE (ckE l lines n1 n2 n3) n ≠ 0 then firstE (ckE l lines n1 n2 n3) n else if ckEnd l lines = true then 0 else 4) := by unfold Hid chkE; rw [hn, h1, h2, h3]
 have HCN : Hid (chkN k l lines = if chkE k l lines = 0 then ckM l n else 0) := by unfold Hid chkN; rw [hn]
 have HL := Hd hl;have HN := Hd hn;have HK := Hd hk;have HLN := Hd (And.intro h1 (And.intro h2 h3));have HE := Hd hE;have HZ := Hd hz;have HB0 := Hd (kbelow_box w (.cells #[.slice a1 n1 c1, .slice a2 n2 c2, .slice a3 n3 c3] 26));clear hl hn hm hk h1 h2 h3 hE hz
 by_cases hbad : 10000 < n \/ lines < 0 \/ 40 < lines
 ·have HR : Hid (chkE k l lines = 2 /\ chkN k l lines = 0) := by
   have e : chkE k l lines = 2 := by rw [HCE.out, if_pos hbad]
   exact ⟨e, by rw [HCN.out, e]; rfl⟩
  clear HCE HCN
  by_cases b1 : (10000 : Int) < (n : Int)
  ·have b1B : decide ((10000 : Int) < (n : Int)) = true := decide_eq_true b1
   go_enter Tryz.func17, Tryz.ntmps17
   go_wp2_with fail
   refine bodyPost_ret (v := .tuple #[.int .i64 0, .int .i64 2]) (by simp [results, Tryz.results17, go_sem] <;> rfl) rfl ?_;exact ⟨by rw [HR.out.1, HR.out.2], HB0.out⟩
  ·have b1B : decide ((10000 : Int) < (n : Int)) = false := dEf b1;have b1N : decide (10000 < n) = false := dEf (by omega)
   by_cases b2 : lines < 0
   ·have b2B : decide (lines < 0) = true := decide_eq_true b2
    go_enter Tryz.func17, Tryz.ntmps17
    go_wp2_with fail
    refine bodyPost_ret (v := .tuple #[.int .i64 0, .int .i64 2]) (by simp [results, Tryz.results17, go_sem] <;> rfl) rfl ?_;exact ⟨by rw [HR.out.1, HR.out.2], HB0.out⟩
   ·have b2B : decide (lines < 0) = false := dEf b2;have b3 : 40 < lines := by omega
    have b3B : decide (40 < lines) = true := decide_eq_true b3
    go_enter Tryz.func17, Tryz.ntmps17
    go_wp2_with fail
    refine bodyPost_ret (v := .tuple #[.int .i64 0, .int .i64 2]) (by simp [results, Tryz.results17, go_sem] <;> rfl) rfl ?_;exact ⟨by rw [HR.out.1, HR.out.2], HB0.out⟩
 ·rw [if_neg hbad] at HCE;have hn1 : n <= 10000 := by omega
  have hl0 : 0 <= lines := by omega
  have hl40 : lines <= 40 := by omega
  have b1B : decide ((10000 : Int) < (n : Int)) = false := dEf (by omega);have b1N : decide (10000 < n) = false := dEf (by omega);have b2B : decide (lines < 0) = false := dEf (by omega);have b3B : decide (40 < lines) = false := dEf (by omega);clear hbad
  go_enter Tryz.func17, Tryz.ntmps17
  go_wp2_with fail
  refine (Known_any a1 a2 a3 n1 n2 n3 c1 c2 c3 k _ (HK.out.below HB0.out) HLN.out.1 HLN.out.2.1 HLN.out.2.2).mono ?_;rintro e w1 ⟨rfl, hb1⟩;have HB1 := Hd (HB0.out.trans (hb1.mono HB0.out.size));have x0 : w1.drew.cell? ⟨w.heap.size, 0, none⟩ = some (.slice a1 n1 c1) := (hb1.cell (p := ⟨w.heap.size, 0, none⟩) (by simp)).trans (by simp);have x1 : w1.drew.cell? ⟨w.heap.size, 1, none⟩ = some (.slice a2 n2 c2) := (hb1.cell (p := ⟨w.heap.size, 1, none⟩) (by simp)).trans (by simp);have x2 : w1.drew.cell? ⟨w.heap.size, 2, none⟩ = some (.slice a3 n3 c3) := (hb1.cell (p := ⟨w.heap.size, 2, none⟩) (by simp)).trans (by simp);clear hb1
  by_cases hke : knE k = 0
  ·rw [hke] at HCE ⊢;simp only [ne_eq, not_true_eq_false, if_false] at HCE;clear hke;have hmk := make_spots n hn1 w1.drew;have hwn : IntKind.i64.wrap ((n : Int) + 1) = (n : Int) + 1 := IntWalk.i64_in _ (by omega);have hbA := kbelow_box w1 (.cells (madeCells #[.int .i64 0, .int .u64 0, .bool false, .bool false] ((n + 1) * 4)) 109);have y0 : (w1.alloc (.cells (madeCells #[.int .i64 0, .int .u64 0, .bool false, .bool false] ((n + 1) * 4)) 109)).drew.cell? ⟨w.heap.size, 0, none⟩ = some (.slice a1 n1 c1) := (hbA.cell (p := ⟨w.heap.size, 0, none⟩) (blt_of_cell x0)).trans x0;have y1 : (w1.alloc (.cells (madeCells #[.int .i64 0, .int .u64 0, .bool false, .bool false] ((n + 1) * 4)) 109)).drew.cell? ⟨w.heap.size, 1, none⟩ = some (.slice a2 n2 c2) := (hbA.cell (p := ⟨w.heap.size, 1, none⟩) (blt_of_cell x1)).trans x1;have y2 : (w1.alloc (.cells (madeCells #[.int .i64 0, .int .u64 0, .bool false, .bool false] ((n + 1) * 4)) 109)).drew.cell? ⟨w.heap.size, 2, none⟩ = some (.slice a3 n3 c3) := (hbA.cell (p := ⟨w.heap.size, 2, none⟩) (blt_of_cell x2)).trans x2;have HW2 : Hid (Below w1.heap.size w1 (((w1.alloc (.cells (madeCells #[.int .i64 0, .int .u64 0, .bool false, .bool false] ((n + 1) * 4)) 109)).alloc (.cells #[.slice a n cap, .int .i64 lines, .slice a1 n1 c1, .slice a2 n2 c2, .slice a3 n3 c3, .slice (some ⟨w1.heap.size, 0, none⟩) (n + 1 : Nat) (n + 1), .int .i64 0] 104)).drew)) := (hbA.alloc hbA.size _).drew;clear hbA;obtain ⟨b, off, HAO⟩ : ∃ b off, Hid (0 < n -> a = some ⟨b, off, none⟩ /\ ∀ w', Below w.heap.size w w' -> ∀ k, k < n -> BkIs w' b (off + k * 2) (bnth l k)) := by
    by_cases h0 : 0 < n
    ·obtain ⟨b, off, h1, h2⟩ := HL.out.open HN.out h0;exact ⟨b, off, fun _ => ⟨h1, h2⟩⟩
    ·exact ⟨0, 0, fun h => absurd h h0⟩
   have HCK := Hd (made_ck w1 a b off n cap lines a1 a2 a3 n1 c1 n2 c2 n3 c3 fun h0 => (HAO.out h0).1);go_wp2_with fail
   go_region
   clear x0 x1 x2 y0 y1 y2 hmk hwn;generalize (((w1.alloc (.cells (madeCells #[.int .i64 0, .int .u64 0, .bool false, .bool false] ((n + 1) * 4)) 109)).alloc (.cells #[.slice a n cap, .int .i64 lines, .slice a1 n1 c1, .slice a2 n2 c2, .slice a3 n3 c3, .slice (some ⟨w1.heap.size, 0, none⟩) (n + 1 : Nat) (n + 1), .int .i64 0] 104)).drew) = W2 at HW2 HCK ⊢;generalize hsb : w1.heap.size = sb at HCK ⊢;have HSB := Hd hsb;clear hsb;have HW2' : Hid (Below sb w1 W2) := by rw [<- HSB.out]; exact HW2.out
   have z5 := HCK.out.sl;have hn0 : (0 : Int) < (n : Int) + 1 := by omega
   go_wp2_with fail
   refine (reachBy_any sb 0 0 0 0 0 false false W2 (HCK.out.sp 0 (Nat.zero_le _))).mono ?_;rintro e w3 hr;have HCK3 : Hid (CkAt w3 sb (sb + 1) sb b off n cap lines a1 a2 a3 n1 c1 n2 c2 n3 c3 (n + 1) (ckS l 0) (ckM l 0)) := HCK.out.reach (t := 0) (d := 0) (k := 0) hr;have HB3 : Hid (Below sb w1 w3) := HW2'.out.grown hr.2.2.2 (by have := HW2'.out.size; have := HSB.out; omega) fun k hk => by injection hk with hk; omega
   obtain ⟨⟨v, rfl⟩, -, -, -⟩ := hr;clear HW2 HW2' HCK z5;go_wp2_with fail
   go_loopw [47] (fun i wr => ∃ j : Nat, j <= n /\ i = .int .i64 j /\ CkAt wr sb (sb + 1) sb b off n cap lines a1 a2 a3 n1 c1 n2 c2 n3 c3 (n + 1) (ckS l j) (ckM l j) /\ firstE (ckE l lines n1 n2 n3) j = 0 /\ Below sb w1 wr) (fun i _ => n - (intOf i).toNat)
   case atStart => exact ⟨0, Nat.zero_le _, rfl, HCK3.out, rfl, HB3.out⟩
   case round =>
    clear HCK3 HB3;obtain ⟨j, hj, rfl, hck, hfe, hb⟩ := hrel;have HCK := Hd hck;have HFE := Hd hfe;have HBR := Hd hb;have HBW : Hid (Below w.heap.size w wr) := HB1.out.trans (hb.mono (by have := HB1.out.size; have := HSB.out; omega));clear hck hfe hb
    by_cases hlt : j < n
    ·have hlt' : (j : Int) < (n : Int) := by omega
     obtain ⟨ha, hcell⟩ := HAO.out (by omega);obtain ⟨k0, k1⟩ := hcell wr HBW.out j hlt
     have HST := Hd (step_any sb (sb + 1) sb b off n cap j lines a1 a2 a3 n1 c1 n2 c2 n3 c3 (n + 1) (ckS l j) (ckM l j) (bnth l j) wr HCK.out (HE.out.below HBW.out) hlt hn1 (HZ.out j hlt) k0 k1 hl40 (fun hr => by
      have := ckS_bnd hl40 j (by rw [HN.out]; exact hj) HFE.out j hr;exact ⟨⟨this.1.1, by omega⟩, this.2⟩))
     have HEQ : Hid (stpE (ckS l j) (bnth l j) lines n1 n2 n3 n j = ckE l lines n1 n2 n3 j) := by unfold Hid ckE; rw [HN.out]
     rw [HEQ.out] at HST;clear ha hcell k0 k1;go_wp2_with fail
     refine HST.out.mono ?_;rintro e w4 ⟨rfl, hb4, hck4⟩;have HB4 := Hd (HBR.out.trans hb4);have HBW4 : Hid (Below w.heap.size w w4) := HB1.out.trans (HB4.out.mono (by have := HB1.out.size; have := HSB.out; omega));have HCK4 := Hd hck4;clear hb4 hck4 HST
     by_cases he : ckE l lines n1 n2 n3 j = 0
     ·have HF1 : Hid (firstE (ckE l lines n1 n2 n3) (j + 1) = 0) := by unfold Hid; rw [firstE_ok HFE.out]; exact he
      have HC5 := Hd (HCK4.out he);rw [he];clear he;go_wp2_with fail
      go_roundw
      case rel => exact ⟨j + 1, by omega, by go_num, HC5.out, HF1.out, HB4.out⟩
      case measure => simp [intOf]; omega
     ·have HF1 : Hid (firstE (ckE l lines n1 n2 n3) n = ckE l lines n1 n2 n3 j) := firstE_err hlt HFE.out he;have HEN : Hid (ckE l lines n1 n2 n3 j ≠ 0) := he;have heB : (ckE l lines n1 n2 n3 j == 0) = false := by simpa using he
      have heN : (ckE l lines n1 n2 n3 j != 0) = true := by simpa using he
      have HR : Hid (chkE k l lines = ckE l lines n1 n2 n3 j /\ chkN k l lines = 0) := by
       have e1 : chkE k l lines = ckE l lines n1 n2 n3 j := by rw [HCE.out, HF1.out, if_pos HEN.out]
       exact ⟨e1, by rw [HCN.out, e1, if_neg HEN.out]⟩
      clear he;generalize ckE l lines n1 n2 n3 j = ee at *;go_wp2_with fail
      refine bodyPost_ret (v := .tuple #[.int .i64 0, .int .i64 ee]) (by simp [results, Tryz.results17, go_sem] <;> rfl) rfl ?_;exact ⟨by rw [HR.out.1, HR.out.2], HBW4.out⟩
    ·obtain rfl : j = n := by omega
     have hge : ¬ (j : Int) < (j : Int) := by omega
     rw [HFE.out] at HCE;simp only [ne_eq, not_true_eq_false, if_false] at HCE;obtain ⟨L, rfl⟩ : ∃ L : Nat, lines = (L : Int) := ⟨lines.toNat, by omega⟩;have hL41 : L < 41 := by omega
     have hs1 := bit41 L hL41;have hs2 := bit41m L hL41;have hL0 : (0 : Int) <= (L : Int) := by omega
     have hP : Hid (((2 ^ L - 1 : Nat) : Int) = ((2 ^ ((L : Int).toNat) - 1 : Nat) : Int)) := by unfold Hid; rw [Int.toNat_natCast]
     generalize ((2 ^ L - 1 : Nat) : Int) = P1 at hs2 hP;generalize ((2 ^ L : Nat) : Int) = P0 at hs1 hs2;have HAL := Hd (fun w' => isAlways_any (ckS l j j).d (ckS l j j).k 0 P1 (ckS l j j).r (ckS l j j).h w');have HEN : Hid (ckEnd l (L : Int) = (!(ckS l j j).h && (decide ((ckS l j j).d = 0) && decide (((ckS l j j).k : Int) = P1)))) := by unfold Hid ckEnd; rw [HN.out, hP.out]
     go_wp2_with fail
     have hbP := kbelow_box wr (.cells #[.int .i64 0, .int .u64 P1] 107);have HCK5 := Hd (HCK.out.below hbP);have HBW5 := Hd (HBW.out.trans (hbP.mono HBW.out.size));have b0 : (wr.alloc (.cells #[.int .i64 0, .int .u64 P1] 107)).cell? ⟨wr.heap.size, 0, none⟩ = some (.int .i64 0) := by simp
     have b1 : (wr.alloc (.cells #[.int .i64 0, .int .u64 P1] 107)).cell? ⟨wr.heap.size, 1, none⟩ = some (.int .u64 P1) := by simp
     clear hbP;obtain ⟨W5, hW5⟩ : ∃ W5, W5 = (wr.alloc (.cells #[.int .i64 0, .int .u64 P1] 107)) := ⟨_, rfl⟩;rw [<- hW5] at HCK5 HBW5 b0 b1 ⊢;clear hW5;have u5 := cell_regrown HCK5.out.sl;have u6 := cell_regrown HCK5.out.mo;obtain ⟨s0, s1, s2, s3⟩ := HCK5.out.spot (j := j) (Nat.le_refl _);have v0 := cell_regrown s0;have v1 := cell_regrown s1;have v2 := cell_regrown s2;have v3 := cell_regrown s3;have d0 := cell_regrown b0;have d1 := cell_regrown b1;clear s0 s1 s2 s3 b0 b1;have hjj : (j : Int) < (j : Int) + 1 := by omega
     generalize (!(ckS l j j).h && (decide ((ckS l j j).d = 0) && decide (((ckS l j j).k : Int) = P1))) = X at HAL HEN;rw [HEN.out] at HCE;refine wp_region_quiet_below (by kernel_rfl) (by kernel_rfl) ?_
     repeat (go_big_quiet_step (exact Calls.regrown_of (HAL.out _)))
     refine wpQuiet_nil ?_;intro _ hw';obtain ⟨⟨dq, osq⟩, hw''⟩ := hw';subst hw'';have HB6 := Hd (HBW5.out.trans ((below_regrown W5 dq osq).mono HBW5.out.size))
     cases X
     ·have HR : Hid (chkE k l (L : Int) = 4 /\ chkN k l (L : Int) = 0) := by
       have e1 : chkE k l (L : Int) = 4 := by rw [HCE.out]; rfl
       exact ⟨e1, by rw [HCN.out, e1]; rfl⟩
      go_wp2_with fail
      refine bodyPost_ret (v := .tuple #[.int .i64 0, .int .i64 4]) (by simp [results, Tryz.results17, go_sem] <;> rfl) rfl ?_;exact ⟨by rw [HR.out.1, HR.out.2], HB6.out⟩
     ·have HR : Hid (chkE k l (L : Int) = 0 /\ chkN k l (L : Int) = ckM l j) := by
       have e1 : chkE k l (L : Int) = 0 := by rw [HCE.out]; rfl
       exact ⟨e1, by rw [HCN.out, e1]; rfl⟩
      go_wp2_with fail
      refine bodyPost_ret (v := .tuple #[.int .i64 (ckM l j), .int .i64 0]) (by simp [results, Tryz.results17, go_sem] <;> rfl) rfl ?_;exact ⟨by rw [HR.out.1, HR.out.2], HB6.out⟩
  ·rw [if_pos hke] at HCE;have hkB : (knE k == 0) = false := by simpa using hke
   have hkN : (knE k != 0) = true := by simpa using hke
   have HR : Hid (chkN k l lines = 0) := by unfold Hid; rw [HCN.out, HCE.out, if_neg hke]
   clear hke;go_wp2_with fail
   refine bodyPost_ret (v := .tuple #[.int .i64 0, .int .i64 (knE k)]) (by simp [results, Tryz.results17, go_sem] <;> rfl) rfl ?_;exact ⟨by rw [HR.out, HCE.out], HB1.out⟩
end Go.Proofs.YtmlpedgcpffpnaaGreatDoor
