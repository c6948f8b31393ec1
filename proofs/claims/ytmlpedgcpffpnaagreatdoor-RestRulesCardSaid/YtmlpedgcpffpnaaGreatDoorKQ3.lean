/-
  Promise F2: the walk of partsLeft, over whatever expression.
-/
import Derived.Test.YtmlpedgcpffpnaaGreatDoorKZ0
import Derived.Test.YtmlpedgcpffpnaaGreatDoorKQ2
set_option linter.unusedSimpArgs false
set_option maxRecDepth 100000
set_option maxHeartbeats 8000000
namespace Go.Proofs.YtmlpedgcpffpnaaGreatDoor
open Go.RowKit
theorem left_bd (x : Ex) {d l : Int} (hd : 0 <= d) (hl : 0 <= l) : -1 <= x.left d l /\ x.left d l <= l := by
 have h := left_eq x d.toNat l.toNat;rw [show ((d.toNat : Nat) : Int) = d by omega, show ((l.toNat : Nat) : Int) = l by omega] at h;rw [h]
 split <;> omega
theorem left_mk (k n : Int) (s : ByteArray) (m : Nat) (kid : Nat -> Ex) (d l : Int) : (Ex.mk k n s m kid).left d l = if d = 0 \/ l = 0 then -1 else kidsI (fun j r => (kid j).left (d - 1) r) m (l - 1) := by rw [Ex.left]
theorem partsLeft_any (x : Ex) : ∀ (a : Option Addr) (c : Nat) (d l : Int) (w : World), 0 <= d -> d <= 20 -> 0 <= l -> l <= 4000 -> KidsAt w x a →
 Calls Tryz.prog 148 #[.agg #[.int .i64 x.k, .int .i64 x.n, .string x.s, .slice a x.m c], .int .i64 d, .int .i64 l] w fun e w' => e = .returned (.int .i64 (x.left d l)) /\ Below w.heap.size w w' := by
 induction x with
 | no => intro a c d l w _ _ _ _ h; exact h.elim
 | mk k n s m kid ih =>
   intro a c d l w hd hd' hl hl' hk
   show Calls Tryz.prog 148 #[.agg #[.int .i64 k, .int .i64 n, .string s, .slice a m c], .int .i64 d, .int .i64 l] w _
   have hm : m <= 9223372036854775807 := by have := hk.many; unfold maxLen at this; exact this
   have HK := Hd hk;have HB0 := Hd (kbelow_box w (.cells #[.int .i64 k, .int .i64 n, .string s, .slice a m c] 50));have HM := Hd (left_mk k n s m kid d l);have HIH := Hd ih;clear hk ih
   by_cases hd0 : d = 0
   ·have HE : Hid ((Ex.mk k n s m kid).left d l = -1) := by unfold Hid; rw [HM.out, if_pos (.inl hd0)]
    clear HM;generalize (Ex.mk k n s m kid).left d l = z at *;subst hd0
    go_enter Tryz.func148, Tryz.ntmps148
    go_wp2_with fail
    go_ret;exact ⟨kret_int HE.out.symm, HB0.out⟩
   ·have hdB : decide (d = 0) = false := dEf hd0;have hdE : (d == 0) = false := by simpa using hd0
    by_cases hl0 : l = 0
    ·have HE : Hid ((Ex.mk k n s m kid).left d l = -1) := by unfold Hid; rw [HM.out, if_pos (.inr hl0)]
     clear HM;generalize (Ex.mk k n s m kid).left d l = z at *;subst hl0
     go_enter Tryz.func148, Tryz.ntmps148
     go_wp2_with fail
     go_ret;exact ⟨kret_int HE.out.symm, HB0.out⟩
    ·have hlB : decide (l = 0) = false := dEf hl0;have hlE : (l == 0) = false := by simpa using hl0
     have HE : Hid ((Ex.mk k n s m kid).left d l = kidsI (fun j r => (kid j).left (d - 1) r) m (l - 1)) := by unfold Hid; rw [HM.out, if_neg (by omega)]
     clear HM;generalize (Ex.mk k n s m kid).left d l = z at *
     go_enter Tryz.func148, Tryz.ntmps148
     go_wp2_with fail
     go_loopw [2, 20] (fun lv i wr => ∃ (j : Nat) (r : Int), j <= m /\ i = .int .i64 j /\ lv = .int .i64 r /\ 0 <= r /\ r <= 4000 /\ kidsI (fun j r => (kid j).left (d - 1) r) j (l - 1) = r /\ Below w.heap.size w wr) (fun _ i _ => m - (intOf i).toNat)
     case atStart => exact ⟨0, l - 1, Nat.zero_le _, rfl, by go_num, by omega, by omega, rfl, HB0.out⟩
     case round =>
      obtain ⟨j, r, hj, rfl, rfl, hr0, hr1, hf, hb⟩ := hrel;have HF := Hd hf;have HB := Hd hb;clear hf hb
      by_cases hlt : j < m
      ·have hlt' : (j : Int) < (m : Int) := by omega
       obtain ⟨b, off, rfl, hcell⟩ := HK.out.open (show 0 < m by omega);obtain ⟨aj, cj, ⟨x0, x1, x2, x3⟩, hkj⟩ := hcell wr HB.out j hlt;have HKJ := Hd hkj;clear hcell hkj;have x0' : wr.cell? ⟨b, off + j * 4, none⟩ = some (.int .i64 (kid j).k) := x0;have x1' : wr.cell? ⟨b, off + j * 4 + 1, none⟩ = some (.int .i64 (kid j).n) := x1;have x2' : wr.cell? ⟨b, off + j * 4 + 2, none⟩ = some (.string (kid j).s) := x2;have x3' : wr.cell? ⟨b, off + j * 4 + 3, none⟩ = some (.slice aj (kid j).m cj) := x3;clear x0 x1 x2 x3;have HBJ := Hd (kbelow_box wr (.cells #[.int .i64 (kid j).k, .int .i64 (kid j).n, .string (kid j).s, .slice aj (kid j).m cj] 50));go_wp2_with fail
       refine (HIH.out j aj cj (d - 1) r _ (by omega) (by omega) hr0 hr1 (HKJ.out.below HBJ.out)).mono ?_;rintro e w1 ⟨rfl, hb1⟩;have HB1 := Hd (HB.out.trans ((HBJ.out.trans (hb1.mono HBJ.out.size)).mono HB.out.size));have hbd := left_bd (kid j) (d := d - 1) (l := r) (by omega) hr0;clear hb1 x0' x1' x2' x3'
       by_cases hneg : (kid j).left (d - 1) r < 0
       ·have HR : Hid (z = (kid j).left (d - 1) r) := by
         unfold Hid;rw [HE.out, kidsI_neg (f := fun j r => (kid j).left (d - 1) r) hlt (by rw [HF.out]; omega) (by rw [HF.out]; exact hneg), HF.out]
        generalize (kid j).left (d - 1) r = y at *;go_wp2_with fail
        go_ret;exact ⟨kret_int HR.out.symm, HB1.out⟩
       ·have hnB : decide ((kid j).left (d - 1) r < 0) = false := dEf hneg;have HN : Hid (kidsI (fun j r => (kid j).left (d - 1) r) (j + 1) (l - 1) = (kid j).left (d - 1) r) := by
         unfold Hid
         show (if kidsI (fun j r => (kid j).left (d - 1) r) j (l - 1) < 0 then _ else _) = _
         rw [HF.out, if_neg (by omega)]
        generalize (kid j).left (d - 1) r = y at *;go_wp2_with fail
        go_roundw
        case rel => exact ⟨j + 1, y, by omega, by go_num, rfl, by omega, by omega, HN.out, HB1.out⟩
        case measure => simp [intOf]; omega
      ·have hkn : j = m := by omega
       subst hkn;have HR : Hid (z = r) := by unfold Hid; rw [HE.out, HF.out]
       go_wp2_with fail
       go_ret;exact ⟨kret_int HR.out.symm, HB.out⟩
def cutN (n q : Nat) : Nat := min n (q + 1)
def XBox (w : World) (b : Nat) (k n : Int) (s : ByteArray) (a : Option Addr) (m c : Nat) : Prop := b < w.heap.size /\ w.cell? ⟨b, 0, none⟩ = some (.int .i64 k) /\ w.cell? ⟨b, 1, none⟩ = some (.int .i64 n) /\ w.cell? ⟨b, 2, none⟩ = some (.string s) /\ w.cell? ⟨b, 3, none⟩ = some (.slice a m c)
theorem XBox.made (w : World) (k n : Int) (s : ByteArray) (a : Option Addr) (m c : Nat) (T : TypeId) : XBox (w.alloc (.cells #[.int .i64 k, .int .i64 n, .string s, .slice a m c] T)) w.heap.size k n s a m c := by
 refine ⟨?_, ?_, ?_, ?_, ?_⟩ <;> simp
theorem XBox.below {w w' : World} {b : Nat} {k n : Int} {s : ByteArray} {a : Option Addr} {m c : Nat} (h : XBox w b k n s a m c) (hb : Below w.heap.size w w') : XBox w' b k n s a m c :=
 ⟨Nat.lt_of_lt_of_le h.1 hb.size, (hb.cell (p := ⟨b, 0, none⟩) h.1).trans h.2.1, (hb.cell (p := ⟨b, 1, none⟩) h.1).trans h.2.2.1, (hb.cell (p := ⟨b, 2, none⟩) h.1).trans h.2.2.2.1, (hb.cell (p := ⟨b, 3, none⟩) h.1).trans h.2.2.2.2⟩
theorem depth_mk (k n : Int) (s : ByteArray) (m : Nat) (kid : Nat -> Ex) : (Ex.mk k n s m kid).depth = 1 + maxN (fun j => (kid j).depth) m := by rw [Ex.depth]
theorem depth_ref (x : Ex) : ∀ (a : Option Addr) (c q : Nat) (w : World), q <= 20 -> KidsAt w x a →
 Calls Tryz.prog 59 #[.agg #[.int .i64 x.k, .int .i64 x.n, .string x.s, .slice a x.m c], .int .i64 q] w fun e w' => e = .returned (.int .i64 ((cutN x.depth q : Nat) : Int)) /\ Below w.heap.size w w' := by
 induction x with
 | no => intro a c q w _ h; exact h.elim
 | mk k n s m kid ih =>
   intro a c q w hq hk
   show Calls Tryz.prog 59 #[.agg #[.int .i64 k, .int .i64 n, .string s, .slice a m c], .int .i64 q] w _
   have hm : m <= 9223372036854775807 := by have := hk.many; unfold maxLen at this; exact this
   have HK := Hd hk;have HB0 := Hd (kbelow_box w (.cells #[.int .i64 k, .int .i64 n, .string s, .slice a m c] 50));have HX0 := Hd (XBox.made w k n s a m c 50);have HM := Hd (depth_mk k n s m kid);have HP := Hd (Ex.depth_pos (Ex.mk k n s m kid));have HIH := Hd ih;clear hk ih;generalize (Ex.mk k n s m kid).depth = z at *
   by_cases hq0 : q = 0
   ·have HZ : Hid (cutN z q = 1) := by have := HP.out; unfold Hid cutN; omega
    subst hq0
    go_enter Tryz.func59, Tryz.ntmps59
    go_wp2_with fail
    go_ret;exact ⟨kret_int (by rw [HZ.out]; rfl), HB0.out⟩
   ·have hqB : decide ((q : Int) = 0) = false := dEf (by omega);have hqE : ((q : Int) == 0) = false := by simp; omega
    go_enter Tryz.func59, Tryz.ntmps59
    go_wp2_with fail
    generalize (w.alloc (.cells #[.int .i64 k, .int .i64 n, .string s, .slice a m c] 50)) = W at *
    go_loopw [5, 6] (fun dv i wr => ∃ (j r : Nat), j <= m /\ i = .int .i64 j /\ dv = .int .i64 r /\ r = min (maxN (fun j => (kid j).depth) j) q /\ Below W.heap.size W wr) (fun _ i _ => m - (intOf i).toNat)
    case atStart => exact ⟨0, 0, Nat.zero_le _, rfl, rfl, by simp [maxN], Below.refl _ _⟩
    case round =>
     obtain ⟨j, r, hj, rfl, rfl, hr, hb⟩ := hrel;have HR := Hd hr;have HB := Hd hb;have HBW := Hd (HB0.out.trans (hb.mono HB0.out.size));obtain ⟨_, y0, y1, y2, y3⟩ := HX0.out.below hb;have hrq : r <= q := by rw [hr]; omega
     clear hr hb
     by_cases hlt : j < m
     ·have hlt' : (j : Int) < (m : Int) := by omega
      obtain ⟨b, off, rfl, hcell⟩ := HK.out.open (show 0 < m by omega);obtain ⟨aj, cj, ⟨x0, x1, x2, x3⟩, hkj⟩ := hcell wr HBW.out j hlt;have HKJ := Hd hkj;clear hcell hkj;have x0' : wr.cell? ⟨b, off + j * 4, none⟩ = some (.int .i64 (kid j).k) := x0;have x1' : wr.cell? ⟨b, off + j * 4 + 1, none⟩ = some (.int .i64 (kid j).n) := x1;have x2' : wr.cell? ⟨b, off + j * 4 + 2, none⟩ = some (.string (kid j).s) := x2;have x3' : wr.cell? ⟨b, off + j * 4 + 3, none⟩ = some (.slice aj (kid j).m cj) := x3;clear x0 x1 x2 x3;go_wp2_with fail
      rw [show (q : Int) - 1 = ((q - 1 : Nat) : Int) by omega];refine (HIH.out j aj cj (q - 1) _ (by omega) HKJ.out).mono ?_;rintro e w1 ⟨rfl, hb1⟩;have HB1 := Hd (HB.out.trans (hb1.mono HB.out.size));have HN : Hid (max r (cutN (kid j).depth (q - 1)) = min (maxN (fun j => (kid j).depth) (j + 1)) q) := by
       have h := HR.out;have e2 : maxN (fun j => (kid j).depth) (j + 1) = max (maxN (fun j => (kid j).depth) j) (kid j).depth := rfl;unfold Hid;unfold cutN at *;omega
      have hcq : cutN (kid j).depth (q - 1) <= q := by unfold cutN; omega
      clear hb1 x0' x1' x2' x3' y0 y1 y2 y3;generalize cutN (kid j).depth (q - 1) = u at *
      by_cases hgt : r < u
      ·have hgt' : (r : Int) < (u : Int) := by omega
       have HN2 : Hid (u = min (maxN (fun j => (kid j).depth) (j + 1)) q) := by have := HN.out; unfold Hid; omega
       go_wp2_with fail
       go_roundw
       case rel => exact ⟨j + 1, u, by omega, by go_num, rfl, HN2.out, HB1.out⟩
       case measure => simp [intOf]; omega
      ·have hgtB : decide ((r : Int) < (u : Int)) = false := dEf (by omega);have HN2 : Hid (r = min (maxN (fun j => (kid j).depth) (j + 1)) q) := by have := HN.out; unfold Hid; omega
       go_wp2_with fail
       go_roundw
       case rel => exact ⟨j + 1, r, by omega, by go_num, rfl, HN2.out, HB1.out⟩
       case measure => simp [intOf]; omega
     ·have hltB : decide ((j : Int) < (m : Int)) = false := dEf (by omega);have HZ : Hid (((cutN z q : Nat) : Int) = (r : Int) + 1) := by
       have h := HR.out;have hjm : j = m := by omega
       subst hjm;have h3 := HM.out;unfold Hid;unfold cutN at *;omega
      go_wp2_with fail
      go_ret;exact ⟨kret_int HZ.out.symm, HBW.out⟩
def Shp (w : World) : Prop := ∀ q : Nat, 1 <= q -> q <= 13 -> w.cell? ⟨4, q * 4, none⟩ = some (.int .i64 (kidsOf q)) /\ w.cell? ⟨4, q * 4 + 1, none⟩ = some (.bool (namedB q)) /\ w.cell? ⟨4, q * 4 + 2, none⟩ = some (.int .i64 (leastOf q)) /\ w.cell? ⟨4, q * 4 + 3, none⟩ = some (.int .i64 (mostOf q))
theorem Shp.lt {w : World} (h : Shp w) : 4 < w.heap.size := blt_of_cell (h 1 (by omega) (by omega)).1
theorem Shp.below {w w' : World} (h : Shp w) (hb : Below w.heap.size w w') : Shp w' := fun q h1 h2 => by
 have hB := h.lt;obtain ⟨c0, c1, c2, c3⟩ := h q h1 h2;exact ⟨(hb.cell (p := ⟨_, q * 4, none⟩) hB).trans c0, (hb.cell (p := ⟨_, q * 4 + 1, none⟩) hB).trans c1, (hb.cell (p := ⟨_, q * 4 + 2, none⟩) hB).trans c2, (hb.cell (p := ⟨_, q * 4 + 3, none⟩) hB).trans c3⟩
theorem err_mk (k n : Int) (s : ByteArray) (m : Nat) (kid : Nat -> Ex) : (Ex.mk k n s m kid).err = if ownE k n s m = 0 then firstE (fun j => (kid j).err) m else ownE k n s m := by rw [Ex.err]
theorem ownE_kind {k n : Int} {s : ByteArray} {m : Nat} (h : k < 1 \/ 13 < k) : ownE k n s m = 7 := by unfold ownE; rw [if_pos h]
theorem ownE_kids {k n : Int} {s : ByteArray} {m : Nat} (h : ¬ (k < 1 \/ 13 < k)) (h1 : (m : Int) ≠ kidsOf k) : ownE k n s m = 1 := by unfold ownE; rw [if_neg h, if_pos h1]
theorem ownE_noname {k n : Int} {s : ByteArray} {m : Nat} (h : ¬ (k < 1 \/ 13 < k)) (h1 : (m : Int) = kidsOf k) (h2 : namedB k = true) (h3 : ¬ NameP s) : ownE k n s m = 1 := by unfold ownE; rw [if_neg h, if_neg (by simpa using h1), if_pos ⟨h2, h3⟩]
theorem ownE_text {k n : Int} {s : ByteArray} {m : Nat} (h : ¬ (k < 1 \/ 13 < k)) (h1 : (m : Int) = kidsOf k) (h2 : namedB k = false) (h3 : s.size ≠ 0) : ownE k n s m = 1 := by unfold ownE; rw [if_neg h, if_neg (by simpa using h1), if_neg (by simp [h2]), if_pos ⟨h2, h3⟩]
def NameFits (k : Int) (s : ByteArray) : Prop := (namedB k = true /\ NameP s) \/ (namedB k = false /\ s.size = 0)
theorem ownE_num {k n : Int} {s : ByteArray} {m : Nat} (h : ¬ (k < 1 \/ 13 < k)) (h1 : (m : Int) = kidsOf k) (h2 : NameFits k s) : ownE k n s m = if n < leastOf k \/ mostOf k < n then 3 else 0 := by
 unfold ownE
 rcases h2 with ⟨a, b⟩ | ⟨a, b⟩
 ·rw [if_neg h, if_neg (by simpa using h1), if_neg (fun h => h.2 b), if_neg (by simp [a])]
 ·rw [if_neg h, if_neg (by simpa using h1), if_neg (by simp [a]), if_neg (fun h => h.2 b)]
theorem empty_not {s : ByteArray} (h0 : s.size ≠ 0) : s.toList.isEmpty = false := by
 cases h : s.toList with
 | nil => exact absurd ((toList_nil_iff_emptyBytes s).1 h) (fun e => h0 (by rw [e]; rfl))
 | cons x l => rfl
def SBox (w : World) (b : Nat) (k : Int) (nm : Bool) (l m : Int) : Prop := b < w.heap.size /\ w.cell? ⟨b, 0, none⟩ = some (.int .i64 k) /\ w.cell? ⟨b, 1, none⟩ = some (.bool nm) /\ w.cell? ⟨b, 2, none⟩ = some (.int .i64 l) /\ w.cell? ⟨b, 3, none⟩ = some (.int .i64 m)
theorem SBox.made (w : World) (o : Obj) (k : Int) (nm : Bool) (l m : Int) (T : TypeId) : SBox ((w.alloc o).alloc (.cells #[.int .i64 k, .bool nm, .int .i64 l, .int .i64 m] T)) (w.heap.size + 1) k nm l m := by
 refine ⟨?_, ?_, ?_, ?_, ?_⟩ <;> simp
theorem SBox.below {w w' : World} {b : Nat} {k : Int} {nm : Bool} {l m : Int} (h : SBox w b k nm l m) (hb : Below w.heap.size w w') : SBox w' b k nm l m :=
 ⟨Nat.lt_of_lt_of_le h.1 hb.size, (hb.cell (p := ⟨b, 0, none⟩) h.1).trans h.2.1, (hb.cell (p := ⟨b, 1, none⟩) h.1).trans h.2.2.1, (hb.cell (p := ⟨b, 2, none⟩) h.1).trans h.2.2.2.1, (hb.cell (p := ⟨b, 3, none⟩) h.1).trans h.2.2.2.2⟩
theorem checkExpr_any (x : Ex) : ∀ (a : Option Addr) (c : Nat) (w : World), Shp w -> KidsAt w x a →
 Calls Tryz.prog 149 #[.agg #[.int .i64 x.k, .int .i64 x.n, .string x.s, .slice a x.m c]] w fun e w' => e = .returned (.int .i64 x.err) /\ Below w.heap.size w w' := by
 induction x with
 | no => intro a c w _ h; exact h.elim
 | mk k n s m kid ih =>
   intro a c w hS hk
   show Calls Tryz.prog 149 #[.agg #[.int .i64 k, .int .i64 n, .string s, .slice a m c]] w _
   have hm : m <= 9223372036854775807 := by have := hk.many; unfold maxLen at this; exact this
   have HK := Hd hk;have HS := Hd hS;have HB0 := Hd (kbelow_box w (.cells #[.int .i64 k, .int .i64 n, .string s, .slice a m c] 50));have HX0 := Hd (XBox.made w k n s a m c 50);have HM := Hd (err_mk k n s m kid);have HIH := Hd ih;clear hk ih hS;generalize (Ex.mk k n s m kid).err = z at *
   by_cases hk1 : k < 1
   ·have HR : Hid (z = 7) := by unfold Hid; rw [HM.out, ownE_kind (.inl hk1)]; rfl
    go_enter Tryz.func149, Tryz.ntmps149
    go_wp2_with fail
    go_ret;exact ⟨kret_int HR.out.symm, HB0.out⟩
   ·have hk1B : decide (k < 1) = false := dEf hk1
    by_cases hk2 : 13 < k
    ·have HR : Hid (z = 7) := by unfold Hid; rw [HM.out, ownE_kind (.inr hk2)]; rfl
     go_enter Tryz.func149, Tryz.ntmps149
     go_wp2_with fail
     go_ret;exact ⟨kret_int HR.out.symm, HB0.out⟩
    ·have hk2B : decide (13 < k) = false := dEf hk2;obtain ⟨q, rfl⟩ : ∃ q : Nat, k = (q : Int) := ⟨k.toNat, by omega⟩;have HKD : Hid (¬ ((q : Int) < 1 \/ 13 < (q : Int))) := by unfold Hid; omega
     have hG := HS.out.lt;have hq14 : (q : Int) < 14 := by omega
     obtain ⟨s0, s1, s2, s3⟩ := HS.out.below HB0.out q (by omega) (by omega);obtain ⟨_, y0, y1, y2, y3⟩ := HX0.out
     by_cases hmk : (m : Int) = kidsOf q
     ·have hmkB : decide ((m : Int) = kidsOf q) = true := decide_eq_true hmk;have hmkN : ((m : Int) != kidsOf q) = false := by simpa using hmk
      have HMK := Hd hmk;clear hmk
      cases hnm : namedB q
      ·rw [hnm] at s1;have HB2 := Hd (HB0.out.alloc HB0.out.size (.cells #[.int .i64 (kidsOf q), .bool false, .int .i64 (leastOf q), .int .i64 (mostOf q)] 217))
       by_cases hs0 : s.size = 0
       ·have HNUM := Hd (ownE_num (n := n) HKD.out HMK.out (.inr ⟨hnm, hs0⟩));have hs : s = ByteArray.empty := ByteArray.size_eq_zero_iff.1 hs0;subst hs
        go_enter Tryz.func149, Tryz.ntmps149
        by_cases c1 : n < leastOf q
        ·have HR : Hid (z = 3) := by unfold Hid; have h := HNUM.out; rw [if_pos (.inl c1)] at h; rw [HM.out, h]; rfl
         go_wp2_with fail
         go_ret;exact ⟨kret_int HR.out.symm, HB2.out⟩
        ·have c1B : decide (n < leastOf q) = false := dEf c1
         by_cases c2 : mostOf q < n
         ·have HR : Hid (z = 3) := by unfold Hid; have h := HNUM.out; rw [if_pos (.inr c2)] at h; rw [HM.out, h]; rfl
          go_wp2_with fail
          go_ret;exact ⟨kret_int HR.out.symm, HB2.out⟩
         ·have c2B : decide (mostOf q < n) = false := dEf c2;have HEK : Hid (z = firstE (fun j => (kid j).err) m) := by unfold Hid; have h := HNUM.out; rw [if_neg (by omega)] at h; rw [HM.out, h]; rfl
          clear HM HNUM;go_wp2_with fail
          go_loopw [59] (fun i wr => ∃ j : Nat, j <= m /\ i = .int .i64 j /\ firstE (fun j => (kid j).err) j = 0 /\ Below w.heap.size w wr) (fun i _ => m - (intOf i).toNat)
          case atStart => exact ⟨0, Nat.zero_le _, rfl, rfl, HB2.out⟩
          case round =>
           obtain ⟨j, hj, rfl, hf, hb⟩ := hrel;have HF := Hd hf;have HB := Hd hb;clear hf hb
           by_cases hlt : j < m
           ·have hlt' : (j : Int) < (m : Int) := by omega
            obtain ⟨b, off, rfl, hcell⟩ := HK.out.open (show 0 < m by omega);obtain ⟨aj, cj, ⟨x0, x1, x2, x3⟩, hkj⟩ := hcell wr HB.out j hlt;have HKJ := Hd hkj;clear hcell hkj;have x0' : wr.cell? ⟨b, off + j * 4, none⟩ = some (.int .i64 (kid j).k) := x0;have x1' : wr.cell? ⟨b, off + j * 4 + 1, none⟩ = some (.int .i64 (kid j).n) := x1;have x2' : wr.cell? ⟨b, off + j * 4 + 2, none⟩ = some (.string (kid j).s) := x2;have x3' : wr.cell? ⟨b, off + j * 4 + 3, none⟩ = some (.slice aj (kid j).m cj) := x3;clear x0 x1 x2 x3;have HBJ := Hd (kbelow_box wr (.cells #[.int .i64 (kid j).k, .int .i64 (kid j).n, .string (kid j).s, .slice aj (kid j).m cj] 50));go_wp2_with fail
            refine (HIH.out j aj cj _ ((HS.out.below HB.out).below HBJ.out) (HKJ.out.below HBJ.out)).mono ?_;rintro e w9 ⟨rfl, hb9⟩;have HB9 := Hd (HB.out.trans ((HBJ.out.trans (hb9.mono HBJ.out.size)).mono HB.out.size));clear hb9 x0' x1' x2' x3'
            by_cases hz : (kid j).err = 0
            ·have HF1 : Hid (firstE (fun j => (kid j).err) (j + 1) = 0) := by unfold Hid; rw [firstE_ok HF.out]; exact hz
             rw [hz];go_wp2_with fail
             go_roundw
             case rel => exact ⟨j + 1, by omega, by go_num, HF1.out, HB9.out⟩
             case measure => simp [intOf]; omega
            ·have hzB : decide ((kid j).err = 0) = false := dEf hz;have hzN : ((kid j).err != 0) = true := by simpa using hz
             have HR : Hid (z = (kid j).err) := by unfold Hid; rw [HEK.out, firstE_err (f := fun j => (kid j).err) hlt HF.out hz]
             generalize (kid j).err = y at *;go_wp2_with fail
             go_ret;exact ⟨kret_int HR.out.symm, HB9.out⟩
           ·have hjm : j = m := by omega
            subst hjm;have HR : Hid (z = 0) := by unfold Hid; rw [HEK.out, HF.out]
            go_wp2_with fail
            go_ret;exact ⟨kret_int HR.out.symm, HB.out⟩
       ·have hie := empty_not hs0;have HR : Hid (z = 1) := by unfold Hid; rw [HM.out, ownE_text HKD.out HMK.out hnm hs0]; rfl
        go_enter Tryz.func149, Tryz.ntmps149
        go_wp2_with fail
        go_ret;exact ⟨kret_int HR.out.symm, HB2.out⟩
      ·rw [hnm] at s1;have HB1 := Hd (HB0.out.alloc HB0.out.size (.cells #[.int .i64 (kidsOf q), .bool true, .int .i64 (leastOf q), .int .i64 (mostOf q)] 217));have HXB := Hd (HX0.out.below (kbelow_box _ (.cells #[.int .i64 (kidsOf q), .bool true, .int .i64 (leastOf q), .int .i64 (mostOf q)] 217)));have HSB := Hd (SBox.made w (.cells #[.int .i64 q, .int .i64 n, .string s, .slice a m c] 50) (kidsOf q) true (leastOf q) (mostOf q) 217)
       go_enter Tryz.func149, Tryz.ntmps149
       go_wp2_with fail
       refine (IsName_any s _).mono ?_;rintro e w1 ⟨b, rfl, hb, hbel⟩;have HB2 := Hd (HB1.out.trans (hbel.mono HB1.out.size));clear y0 y1 y2 y3 s0 s1 s2 s3;obtain ⟨_, y0, y1, y2, y3⟩ := HXB.out.below hbel;obtain ⟨_, s0, s1, s2, s3⟩ := HSB.out.below hbel;clear hbel HXB HSB HB1 HX0 HB0
       cases b
       ·have HR : Hid (z = 1) := by unfold Hid; rw [HM.out, ownE_noname HKD.out HMK.out hnm (fun h => by have := hb.2 h; cases this)]; rfl
        clear hb;go_wp2_with fail
        go_ret;exact ⟨kret_int HR.out.symm, HB2.out⟩
       ·have HNUM := Hd (ownE_num (n := n) HKD.out HMK.out (.inl ⟨hnm, hb.1 rfl⟩));clear hb
        by_cases c1 : n < leastOf q
        ·have HR : Hid (z = 3) := by unfold Hid; have h := HNUM.out; rw [if_pos (.inl c1)] at h; rw [HM.out, h]; rfl
         go_wp2_with fail
         go_ret;exact ⟨kret_int HR.out.symm, HB2.out⟩
        ·have c1B : decide (n < leastOf q) = false := dEf c1
         by_cases c2 : mostOf q < n
         ·have HR : Hid (z = 3) := by unfold Hid; have h := HNUM.out; rw [if_pos (.inr c2)] at h; rw [HM.out, h]; rfl
          go_wp2_with fail
          go_ret;exact ⟨kret_int HR.out.symm, HB2.out⟩
         ·have c2B : decide (mostOf q < n) = false := dEf c2;have HEK : Hid (z = firstE (fun j => (kid j).err) m) := by unfold Hid; have h := HNUM.out; rw [if_neg (by omega)] at h; rw [HM.out, h]; rfl
          clear HM HNUM;go_wp2_with fail
          go_loopw [59] (fun i wr => ∃ j : Nat, j <= m /\ i = .int .i64 j /\ firstE (fun j => (kid j).err) j = 0 /\ Below w.heap.size w wr) (fun i _ => m - (intOf i).toNat)
          case atStart => exact ⟨0, Nat.zero_le _, rfl, rfl, HB2.out⟩
          case round =>
           obtain ⟨j, hj, rfl, hf, hb⟩ := hrel;have HF := Hd hf;have HB := Hd hb;clear hf hb
           by_cases hlt : j < m
           ·have hlt' : (j : Int) < (m : Int) := by omega
            obtain ⟨b, off, rfl, hcell⟩ := HK.out.open (show 0 < m by omega);obtain ⟨aj, cj, ⟨x0, x1, x2, x3⟩, hkj⟩ := hcell wr HB.out j hlt;have HKJ := Hd hkj;clear hcell hkj;have x0' : wr.cell? ⟨b, off + j * 4, none⟩ = some (.int .i64 (kid j).k) := x0;have x1' : wr.cell? ⟨b, off + j * 4 + 1, none⟩ = some (.int .i64 (kid j).n) := x1;have x2' : wr.cell? ⟨b, off + j * 4 + 2, none⟩ = some (.string (kid j).s) := x2;have x3' : wr.cell? ⟨b, off + j * 4 + 3, none⟩ = some (.slice aj (kid j).m cj) := x3;clear x0 x1 x2 x3;have HBJ := Hd (kbelow_box wr (.cells #[.int .i64 (kid j).k, .int .i64 (kid j).n, .string (kid j).s, .slice aj (kid j).m cj] 50));go_wp2_with fail
            refine (HIH.out j aj cj _ ((HS.out.below HB.out).below HBJ.out) (HKJ.out.below HBJ.out)).mono ?_;rintro e w9 ⟨rfl, hb9⟩;have HB9 := Hd (HB.out.trans ((HBJ.out.trans (hb9.mono HBJ.out.size)).mono HB.out.size));clear hb9 x0' x1' x2' x3'
            by_cases hz : (kid j).err = 0
            ·have HF1 : Hid (firstE (fun j => (kid j).err) (j + 1) = 0) := by unfold Hid; rw [firstE_ok HF.out]; exact hz
             rw [hz];go_wp2_with fail
             go_roundw
             case rel => exact ⟨j + 1, by omega, by go_num, HF1.out, HB9.out⟩
             case measure => simp [intOf]; omega
            ·have hzB : decide ((kid j).err = 0) = false := dEf hz;have hzN : ((kid j).err != 0) = true := by simpa using hz
             have HR : Hid (z = (kid j).err) := by unfold Hid; rw [HEK.out, firstE_err (f := fun j => (kid j).err) hlt HF.out hz]
             generalize (kid j).err = y at *;go_wp2_with fail
             go_ret;exact ⟨kret_int HR.out.symm, HB9.out⟩
           ·have hjm : j = m := by omega
            subst hjm;have HR : Hid (z = 0) := by unfold Hid; rw [HEK.out, HF.out]
            go_wp2_with fail
            go_ret;exact ⟨kret_int HR.out.symm, HB.out⟩
     ·have hmkB : decide ((m : Int) = kidsOf q) = false := dEf hmk;have hmkN : ((m : Int) != kidsOf q) = true := by simpa using hmk
      have HB2 := Hd (HB0.out.alloc HB0.out.size (.cells #[.int .i64 (kidsOf q), .bool (namedB q), .int .i64 (leastOf q), .int .i64 (mostOf q)] 217));have HR : Hid (z = 1) := by unfold Hid; rw [HM.out, ownE_kids HKD.out hmk]; rfl
      go_enter Tryz.func149, Tryz.ntmps149
      go_wp2_with fail
      go_ret;exact ⟨kret_int HR.out.symm, HB2.out⟩
def sumP (l : List Ln) (k : Nat) : Nat := sumN (fun j => (lnth l j).ex.parts) k
def maxD (l : List Ln) (k : Nat) : Nat := maxN (fun j => (lnth l j).ex.depth) k
def lineE (r : Ln) : Int := if r.kind < 1 \/ 4 < r.kind then 7 else if NameP r.name then r.ex.err else 1
def linesE (l : List Ln) : Int := if 40 < l.length \/ ¬ (sumP l l.length <= 4000 /\ maxD l l.length <= 20) then 2 else firstE (fun j => lineE (lnth l j)) l.length
theorem left20 (x : Ex) (r : Nat) : x.left 20 (r : Int) = if x.depth <= 20 /\ x.parts <= r then (r : Int) - x.parts else -1 := left_eq x 20 r
theorem sumP_succ (l : List Ln) (k : Nat) : sumP l (k + 1) = sumP l k + (lnth l k).ex.parts := rfl
theorem maxD_succ (l : List Ln) (k : Nat) : maxD l (k + 1) = max (maxD l k) (lnth l k).ex.depth := rfl
theorem sumP_le {l : List Ln} {j m : Nat} (h : j <= m) : sumP l j <= sumP l m := sumN_le h
theorem maxD_le {l : List Ln} {j m : Nat} (h : j <= m) : maxD l j <= maxD l m := maxN_le h
theorem tooMany_any (a : Option Addr) (n cap : Nat) (l : List Ln) (w : World) (hc : CameL w a l) (hn : l.length = n) (hm : n <= maxLen) :
 Calls Tryz.prog 107 #[.slice a n cap] w fun e w' => e = .returned (.bool (decide (40 < n \/ ¬ (sumP l n <= 4000 /\ maxD l n <= 20)))) /\ Below w.heap.size w w' := by
 have hm' : n <= 9223372036854775807 := by unfold maxLen at hm; omega
 have HO := Hd (fun h0 => hc.open hn h0);clear hm hc
 by_cases h40 : 40 < n
 ·have HR : Hid (decide (40 < n \/ ¬ (sumP l n <= 4000 /\ maxD l n <= 20)) = true) := decide_eq_true (.inl h40);have h40' : (40 : Int) < (n : Int) := by omega
  have HB := Hd (Below.refl w.heap.size w)
  go_enter Tryz.func107, Tryz.ntmps107
  go_wp2_with fail
  go_ret;exact ⟨kret_bool HR.out.symm, HB.out⟩
 ·have h40' : decide ((40 : Int) < (n : Int)) = false := dEf (by omega)
  go_enter Tryz.func107, Tryz.ntmps107
  go_wp2_with fail
  go_loopw [3, 11] (fun lv i wr => ∃ j r : Nat, j <= n /\ i = .int .i64 j /\ lv = .int .i64 r /\ r + sumP l j = 4000 /\ maxD l j <= 20 /\ Below w.heap.size w wr) (fun _ i _ => n - (intOf i).toNat)
  case atStart => exact ⟨0, 4000, Nat.zero_le _, rfl, rfl, rfl, by simp [maxD, maxN], Below.refl _ _⟩
  case round =>
   obtain ⟨j, r, hj, rfl, rfl, hs, hd, hb⟩ := hrel;have HSD := Hd (And.intro hs hd);have hr4 : r <= 4000 := by omega
   have HB := Hd hb;clear hs hd hb
   by_cases hlt : j < n
   ·have hlt' : (j : Int) < (n : Int) := by omega
    obtain ⟨b, off, rfl, hcell⟩ := HO.out (by omega);obtain ⟨aj, cj, ⟨x0, x1, x2, x3, x4, x5⟩, hns, hkj⟩ := hcell wr HB.out j hlt;have HKJ := Hd hkj;have HNS := Hd hns;clear hcell hkj hns;have HBJ := Hd (kbelow_box wr (.cells #[.int .i64 (lnth l j).kind, .string (lnth l j).name, .int .i64 (lnth l j).ex.k, .int .i64 (lnth l j).ex.n, .string (lnth l j).ex.s, .slice aj (lnth l j).ex.m cj] 52));go_wp2_with fail
    refine (partsLeft_any (lnth l j).ex aj cj 20 r _ (by omega) (by omega) (by omega) (by omega) (HKJ.out.below HBJ.out)).mono ?_;rintro e w1 ⟨rfl, hb1⟩;have HB1 := Hd (HB.out.trans ((HBJ.out.trans (hb1.mono HBJ.out.size)).mono HB.out.size));clear hb1 x0 x1 x2 x3 x4 x5;rw [left20]
    by_cases hfit : (lnth l j).ex.depth <= 20 /\ (lnth l j).ex.parts <= r
    ·rw [if_pos hfit];have HN : Hid (r - (lnth l j).ex.parts + sumP l (j + 1) = 4000 /\ maxD l (j + 1) <= 20) := by
      have := HSD.out;unfold Hid;rw [sumP_succ, maxD_succ];omega
     obtain ⟨u, hu⟩ : ∃ u : Nat, u = r - (lnth l j).ex.parts := ⟨_, rfl⟩;rw [show (r : Int) - ((lnth l j).ex.parts : Int) = (u : Int) by omega];rw [<- hu] at HN;clear hu hfit HSD;go_wp2_with fail
     go_roundw
     case rel => exact ⟨j + 1, u, by omega, by go_num, rfl, HN.out.1, HN.out.2, HB1.out⟩
     case measure => simp [intOf]; omega
    ·rw [if_neg hfit]
     have HR : Hid (decide (40 < n \/ ¬ (sumP l n <= 4000 /\ maxD l n <= 20)) = true) := decide_eq_true (.inr (fun h => hfit (by
      have h1 := HSD.out;have h2 := sumP_le (l := l) (show j + 1 <= n by omega);have h3 := maxD_le (l := l) (show j + 1 <= n by omega);rw [sumP_succ] at h2;rw [maxD_succ] at h3;omega)))
     clear hfit;go_wp2_with fail
     go_ret;exact ⟨kret_bool HR.out.symm, HB1.out⟩
   ·have hjn : j = n := by omega
    subst hjn;have HR : Hid (decide (40 < j \/ ¬ (sumP l j <= 4000 /\ maxD l j <= 20)) = false) := dEf (by have := HSD.out; omega);go_wp2_with fail
    go_ret;exact ⟨kret_bool HR.out.symm, HB.out⟩
theorem LBox.made (w : World) (v0 v1 v2 v3 v4 v5 : Value) (T : TypeId) : w.heap.size < (w.alloc (.cells #[v0, v1, v2, v3, v4, v5] T)).heap.size /\ (w.alloc (.cells #[v0, v1, v2, v3, v4, v5] T)).cell? ⟨w.heap.size, 2, none⟩ = some v2 /\ (w.alloc (.cells #[v0, v1, v2, v3, v4, v5] T)).cell? ⟨w.heap.size, 3, none⟩ = some v3 /\ (w.alloc (.cells #[v0, v1, v2, v3, v4, v5] T)).cell? ⟨w.heap.size, 4, none⟩ = some v4 /\ (w.alloc (.cells #[v0, v1, v2, v3, v4, v5] T)).cell? ⟨w.heap.size, 5, none⟩ = some v5 := by
 refine ⟨?_, ?_, ?_, ?_, ?_⟩ <;> simp
theorem checkLine_any (r : Ln) (a : Option Addr) (c : Nat) (w : World) (hS : Shp w) (hk : KidsAt w r.ex a) :
 Calls Tryz.prog 108 #[.agg #[.int .i64 r.kind, .string r.name, .int .i64 r.ex.k, .int .i64 r.ex.n, .string r.ex.s, .slice a r.ex.m c]] w fun e w' => e = .returned (.int .i64 (lineE r)) /\ Below w.heap.size w w' := by
 obtain ⟨k, s, x⟩ := r
 show Calls Tryz.prog 108 #[.agg #[.int .i64 k, .string s, .int .i64 x.k, .int .i64 x.n, .string x.s, .slice a x.m c]] w _
 have HE : Hid (lineE ⟨k, s, x⟩ = if k < 1 \/ 4 < k then 7 else if NameP s then x.err else 1) := rfl;have hk' : KidsAt w x a := hk;have HK := Hd hk';have HS := Hd hS;clear hk hk' hS;generalize lineE ⟨k, s, x⟩ = z at *;have HB0 := Hd (kbelow_box w (.cells #[.int .i64 k, .string s, .int .i64 x.k, .int .i64 x.n, .string x.s, .slice a x.m c] 52));have HL := Hd (LBox.made w (.int .i64 k) (.string s) (.int .i64 x.k) (.int .i64 x.n) (.string x.s) (.slice a x.m c) 52)
 by_cases h1 : k < 1
 ·have HR : Hid (z = 7) := by unfold Hid; rw [HE.out, if_pos (.inl h1)]
  go_enter Tryz.func108, Tryz.ntmps108
  go_wp2_with fail
  go_ret;exact ⟨kret_int HR.out.symm, HB0.out⟩
 ·have h1B : decide (k < 1) = false := dEf h1
  by_cases h2 : 4 < k
  ·have HR : Hid (z = 7) := by unfold Hid; rw [HE.out, if_pos (.inr h2)]
   go_enter Tryz.func108, Tryz.ntmps108
   go_wp2_with fail
   go_ret;exact ⟨kret_int HR.out.symm, HB0.out⟩
  ·have h2B : decide (4 < k) = false := dEf h2;have HN : Hid (z = if NameP s then x.err else 1) := by unfold Hid; rw [HE.out, if_neg (by omega)]
   go_enter Tryz.func108, Tryz.ntmps108
   go_wp2_with fail
   refine (IsName_any s _).mono ?_;rintro e w1 ⟨b, rfl, hb, hbel⟩;have HB1 := Hd (HB0.out.trans (hbel.mono HB0.out.size));obtain ⟨hg, l2, l3, l4, l5⟩ := HL.out;have y2 := (hbel.cell (p := ⟨w.heap.size, 2, none⟩) hg).trans l2;have y3 := (hbel.cell (p := ⟨w.heap.size, 3, none⟩) hg).trans l3;have y4 := (hbel.cell (p := ⟨w.heap.size, 4, none⟩) hg).trans l4;have y5 := (hbel.cell (p := ⟨w.heap.size, 5, none⟩) hg).trans l5;clear hbel l2 l3 l4 l5 HL HB0
   cases b
   ·have HR : Hid (z = 1) := by unfold Hid; rw [HN.out, if_neg (fun h => by have := hb.2 h; cases this)]
    clear hb;go_wp2_with fail
    go_ret;exact ⟨kret_int HR.out.symm, HB1.out⟩
   ·have HR : Hid (z = x.err) := by unfold Hid; rw [HN.out, if_pos (hb.1 rfl)]
    clear hb HN;go_wp2_with fail
    refine (checkExpr_any x a c _ (HS.out.below HB1.out) (HK.out.below HB1.out)).mono ?_;rintro e w2 ⟨rfl, hb2⟩;have HB2 := Hd (HB1.out.trans (hb2.mono HB1.out.size));clear hb2;go_wp2_with fail
    go_ret;exact ⟨kret_int HR.out.symm, HB2.out⟩
theorem check_lines (a : Option Addr) (n cap : Nat) (l : List Ln) (w : World) (hS : Shp w) (hc : CameL w a l) (hn : l.length = n) (hm : n <= maxLen) :
 Calls Tryz.prog 61 #[.slice a n cap] w fun e w' => e = .returned (.int .i64 (linesE l)) /\ Below w.heap.size w w' := by
 have hm' : n <= 9223372036854775807 := by unfold maxLen at hm; omega
 have HM := Hd hm;have HN := Hd hn;have HS := Hd hS;have HC := Hd hc;have HE : Hid (linesE l = if 40 < n \/ ¬ (sumP l n <= 4000 /\ maxD l n <= 20) then 2 else firstE (fun j => lineE (lnth l j)) n) := by unfold Hid linesE; rw [hn]
 clear hm hc hS hn
 go_enter Tryz.func61, Tryz.ntmps61
 go_wp2_with fail
 refine (tooMany_any a n cap l _ HC.out HN.out HM.out).mono ?_;rintro e w1 ⟨rfl, hb1⟩;have HB1 := Hd hb1;clear hb1
 by_cases hmany : 40 < n \/ ¬ (sumP l n <= 4000 /\ maxD l n <= 20)
 ·rw [decide_eq_true hmany];have HR : Hid (linesE l = 2) := by unfold Hid; rw [HE.out, if_pos hmany]
  clear hmany;go_wp2_with fail
  go_ret;exact ⟨kret_int HR.out.symm, HB1.out⟩
 ·rw [dEf hmany];have HF0 : Hid (linesE l = firstE (fun j => lineE (lnth l j)) n) := by unfold Hid; rw [HE.out, if_neg hmany]
  clear hmany HE;have HO := Hd (fun h0 => HC.out.open HN.out h0);go_wp2_with fail
  go_loopw [10] (fun i wr => ∃ j : Nat, j <= n /\ i = .int .i64 j /\ firstE (fun j => lineE (lnth l j)) j = 0 /\ Below w.heap.size w wr) (fun i _ => n - (intOf i).toNat)
  case atStart => exact ⟨0, Nat.zero_le _, rfl, rfl, HB1.out⟩
  case round =>
   obtain ⟨j, hj, rfl, hf, hb⟩ := hrel;have HF := Hd hf;have HB := Hd hb;clear hf hb
   by_cases hlt : j < n
   ·have hlt' : (j : Int) < (n : Int) := by omega
    obtain ⟨b, off, rfl, hcell⟩ := HO.out (by omega);obtain ⟨aj, cj, ⟨x0, x1, x2, x3, x4, x5⟩, hns, hkj⟩ := hcell wr HB.out j hlt;have HKJ := Hd hkj;have HNS := Hd hns;clear hcell hkj hns;have HBJ := Hd (kbelow_box wr (.cells #[.int .i64 (lnth l j).kind, .string (lnth l j).name, .int .i64 (lnth l j).ex.k, .int .i64 (lnth l j).ex.n, .string (lnth l j).ex.s, .slice aj (lnth l j).ex.m cj] 52));go_wp2_with fail
    refine (checkLine_any (lnth l j) aj cj _ ((HS.out.below HB.out).below HBJ.out) (HKJ.out.below HBJ.out)).mono ?_;rintro e w2 ⟨rfl, hb2⟩;have HB2 := Hd (HB.out.trans ((HBJ.out.trans (hb2.mono HBJ.out.size)).mono HB.out.size));clear hb2 x0 x1 x2 x3 x4 x5
    by_cases hz : lineE (lnth l j) = 0
    ·have HF1 : Hid (firstE (fun j => lineE (lnth l j)) (j + 1) = 0) := by unfold Hid; rw [firstE_ok HF.out]; exact hz
     rw [hz];go_wp2_with fail
     go_roundw
     case rel => exact ⟨j + 1, by omega, by go_num, HF1.out, HB2.out⟩
     case measure => simp [intOf]; omega
    ·have hzB : decide (lineE (lnth l j) = 0) = false := dEf hz;have hzN : (lineE (lnth l j) != 0) = true := by simpa using hz
     have HR : Hid (linesE l = lineE (lnth l j)) := by unfold Hid; rw [HF0.out, firstE_err (f := fun j => lineE (lnth l j)) hlt HF.out hz]
     generalize lineE (lnth l j) = y at *;go_wp2_with fail
     go_ret;exact ⟨kret_int HR.out.symm, HB2.out⟩
   ·have hjn : j = n := by omega
    subst hjn;have HR : Hid (linesE l = 0) := by unfold Hid; rw [HF0.out, HF.out]
    go_wp2_with fail
    go_ret;exact ⟨kret_int HR.out.symm, HB.out⟩
end Go.Proofs.YtmlpedgcpffpnaaGreatDoor
