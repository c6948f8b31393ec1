/-
  Promise F2: the walk of partsLeft, over whatever expression.
  Promise F2: the walks of the reference's Parts and Depth, over whatever expression.
  Promise F2: what is wrong with an expression: the walk of checkExpr, over whatever one.
  Promise F2: the walk of the reference's WrongExpr, over whatever expression (written by xerrgen.py, kind by kind).
  Promise F2: the walk of the reference's WrongExpr, over whatever expression (written by xerrgen.py, kind by kind).
  Promise F2: the walk of the reference's WrongExpr, over whatever expression (written by xerrgen.py, kind by kind).
-/
import Derived.Test.YtkalfdjmklakdaaGreatDoorKB
namespace Go.Proofs.YtkalfdjmklakdaaGreatDoor
open Go.RowKit
theorem left_bd (x : Ex) {d l : Int} (hd : 0 ≤ d) (hl : 0 ≤ l) : -1 ≤ x.left d l ∧ x.left d l ≤ l := by
 have h := left_eq x d.toNat l.toNat
 rw [show ((d.toNat : Nat) : Int) = d by omega, show ((l.toNat : Nat) : Int) = l by omega] at h
 rw [h]
 split <;> omega
theorem left_mk (k n : Int) (s : ByteArray) (m : Nat) (kid : Nat → Ex) (d l : Int) : (Ex.mk k n s m kid).left d l = if d = 0 ∨ l = 0 then -1 else kidsI (fun j r => (kid j).left (d - 1) r) m (l - 1) := by rw [Ex.left]
set_option maxRecDepth 100000 in
set_option maxHeartbeats 2000000 in
theorem partsLeft_any (x : Ex) : ∀ (a : Option Addr) (c : Nat) (d l : Int) (w : World), 0 ≤ d → d ≤ 20 → 0 ≤ l → l ≤ 4000 → KidsAt w x a →
 Calls Tryz.prog 139 #[.agg #[.int .i64 x.k, .int .i64 x.n, .string x.s, .slice a x.m c], .int .i64 d, .int .i64 l] w fun e w' => e = .returned (.int .i64 (x.left d l)) ∧ Below w.heap.size w w' := by
 induction x with
 | no => intro a c d l w _ _ _ _ h; exact h.elim
 | mk k n s m kid ih =>
   intro a c d l w hd hd' hl hl' hk
   show Calls Tryz.prog 139 #[.agg #[.int .i64 k, .int .i64 n, .string s, .slice a m c], .int .i64 d, .int .i64 l] w _
   have hm : m ≤ 9223372036854775807 := by have := hk.many; unfold maxLen at this; exact this
   have HK := Lib.hid hk
   have HB0 := Lib.hid (kbelow_box w (.cells #[.int .i64 k, .int .i64 n, .string s, .slice a m c] 71))
   have HM := Lib.hid (left_mk k n s m kid d l)
   have HIH := Lib.hid ih
   clear hk ih
   by_cases hd0 : d = 0
   ·have HE : Hid ((Ex.mk k n s m kid).left d l = -1) := by unfold Hid; rw [HM.out, if_pos (.inl hd0)]
    clear HM
    generalize (Ex.mk k n s m kid).left d l = z at *
    subst hd0
    go_enter Tryz.func139, Tryz.ntmps139
    go_wp2_with fail
    go_ret
    exact ⟨kret_int HE.out.symm, HB0.out⟩
   ·have hdB : decide (d = 0) = false := decide_eq_false hd0
    have hdE : (d == 0) = false := by simpa using hd0
    by_cases hl0 : l = 0
    ·have HE : Hid ((Ex.mk k n s m kid).left d l = -1) := by unfold Hid; rw [HM.out, if_pos (.inr hl0)]
     clear HM
     generalize (Ex.mk k n s m kid).left d l = z at *
     subst hl0
     go_enter Tryz.func139, Tryz.ntmps139
     go_wp2_with fail
     go_ret
     exact ⟨kret_int HE.out.symm, HB0.out⟩
    ·have hlB : decide (l = 0) = false := decide_eq_false hl0
     have hlE : (l == 0) = false := by simpa using hl0
     have HE : Hid ((Ex.mk k n s m kid).left d l = kidsI (fun j r => (kid j).left (d - 1) r) m (l - 1)) := by unfold Hid; rw [HM.out, if_neg (by omega)]
     clear HM
     generalize (Ex.mk k n s m kid).left d l = z at *
     go_enter Tryz.func139, Tryz.ntmps139
     go_wp2_with fail
     go_loopw [2, 20] (fun lv i wr => ∃ (j : Nat) (r : Int), j ≤ m ∧ i = .int .i64 j ∧ lv = .int .i64 r ∧ 0 ≤ r ∧ r ≤ 4000 ∧ kidsI (fun j r => (kid j).left (d - 1) r) j (l - 1) = r ∧ Below w.heap.size w wr) (fun _ i _ => m - (intOf i).toNat)
     case atStart => exact ⟨0, l - 1, Nat.zero_le _, rfl, by go_num, by omega, by omega, rfl, HB0.out⟩
     case round =>
      obtain ⟨j, r, hj, rfl, rfl, hr0, hr1, hf, hb⟩ := hrel
      have HF := Lib.hid hf
      have HB := Lib.hid hb
      clear hf hb
      by_cases hlt : j < m
      ·have hlt' : (j : Int) < (m : Int) := by omega
       obtain ⟨b, off, rfl, hcell⟩ := HK.out.open (show 0 < m by omega)
       obtain ⟨aj, cj, ⟨x0, x1, x2, x3⟩, hkj⟩ := hcell wr HB.out j hlt
       have HKJ := Lib.hid hkj
       clear hcell hkj
       have x0' : wr.cell? ⟨b, off + j * 4, none⟩ = some (.int .i64 (kid j).k) := x0
       have x1' : wr.cell? ⟨b, off + j * 4 + 1, none⟩ = some (.int .i64 (kid j).n) := x1
       have x2' : wr.cell? ⟨b, off + j * 4 + 2, none⟩ = some (.string (kid j).s) := x2
       have x3' : wr.cell? ⟨b, off + j * 4 + 3, none⟩ = some (.slice aj (kid j).m cj) := x3
       clear x0 x1 x2 x3
       have HBJ := Lib.hid (kbelow_box wr (.cells #[.int .i64 (kid j).k, .int .i64 (kid j).n, .string (kid j).s, .slice aj (kid j).m cj] 71))
       go_wp2_with fail
       refine (HIH.out j aj cj (d - 1) r _ (by omega) (by omega) hr0 hr1 (HKJ.out.below HBJ.out)).mono ?_
       rintro e w1 ⟨rfl, hb1⟩
       have HB1 := Lib.hid (HB.out.trans ((HBJ.out.trans (hb1.mono HBJ.out.size)).mono HB.out.size))
       have hbd := left_bd (kid j) (d := d - 1) (l := r) (by omega) hr0
       clear hb1 x0' x1' x2' x3'
       by_cases hneg : (kid j).left (d - 1) r < 0
       ·have HR : Hid (z = (kid j).left (d - 1) r) := by
         unfold Hid
         rw [HE.out, kidsI_neg (f := fun j r => (kid j).left (d - 1) r) hlt (by rw [HF.out]; omega) (by rw [HF.out]; exact hneg), HF.out]
        generalize (kid j).left (d - 1) r = y at *
        go_wp2_with fail
        go_ret
        exact ⟨kret_int HR.out.symm, HB1.out⟩
       ·have hnB : decide ((kid j).left (d - 1) r < 0) = false := decide_eq_false hneg
        have HN : Hid (kidsI (fun j r => (kid j).left (d - 1) r) (j + 1) (l - 1) = (kid j).left (d - 1) r) := by
         unfold Hid
         show (if kidsI (fun j r => (kid j).left (d - 1) r) j (l - 1) < 0 then _ else _) = _
         rw [HF.out, if_neg (by omega)]
        generalize (kid j).left (d - 1) r = y at *
        go_wp2_with fail
        go_roundw
        case rel => exact ⟨j + 1, y, by omega, by go_num, rfl, by omega, by omega, HN.out, HB1.out⟩
        case measure => simp [intOf]; omega
      ·have hkn : j = m := by omega
       subst hkn
       have HR : Hid (z = r) := by unfold Hid; rw [HE.out, HF.out]
       go_wp2_with fail
       go_ret
       exact ⟨kret_int HR.out.symm, HB.out⟩
end Go.Proofs.YtkalfdjmklakdaaGreatDoor
namespace Go.Proofs.YtkalfdjmklakdaaGreatDoor
open Go.RowKit
def cutN (n q : Nat) : Nat := min n (q + 1)
def XBox (w : World) (b : Nat) (k n : Int) (s : ByteArray) (a : Option Addr) (m c : Nat) : Prop := b < w.heap.size ∧ w.cell? ⟨b, 0, none⟩ = some (.int .i64 k) ∧ w.cell? ⟨b, 1, none⟩ = some (.int .i64 n) ∧ w.cell? ⟨b, 2, none⟩ = some (.string s) ∧ w.cell? ⟨b, 3, none⟩ = some (.slice a m c)
theorem XBox.made (w : World) (k n : Int) (s : ByteArray) (a : Option Addr) (m c : Nat) (T : TypeId) : XBox (w.alloc (.cells #[.int .i64 k, .int .i64 n, .string s, .slice a m c] T)) w.heap.size k n s a m c := by
 refine ⟨?_, ?_, ?_, ?_, ?_⟩ <;> simp
theorem XBox.below {w w' : World} {b : Nat} {k n : Int} {s : ByteArray} {a : Option Addr} {m c : Nat} (h : XBox w b k n s a m c) (hb : Below w.heap.size w w') : XBox w' b k n s a m c :=
 ⟨Nat.lt_of_lt_of_le h.1 hb.size, (hb.cell (p := ⟨b, 0, none⟩) h.1).trans h.2.1, (hb.cell (p := ⟨b, 1, none⟩) h.1).trans h.2.2.1, (hb.cell (p := ⟨b, 2, none⟩) h.1).trans h.2.2.2.1, (hb.cell (p := ⟨b, 3, none⟩) h.1).trans h.2.2.2.2⟩
theorem parts_mk (k n : Int) (s : ByteArray) (m : Nat) (kid : Nat → Ex) : (Ex.mk k n s m kid).parts = 1 + sumN (fun j => (kid j).parts) m := by rw [Ex.parts]
theorem depth_mk (k n : Int) (s : ByteArray) (m : Nat) (kid : Nat → Ex) : (Ex.mk k n s m kid).depth = 1 + maxN (fun j => (kid j).depth) m := by rw [Ex.depth]
set_option maxRecDepth 100000 in
set_option maxHeartbeats 2000000 in
theorem parts_ref (x : Ex) : ∀ (a : Option Addr) (c q : Nat) (w : World), q ≤ 4000 → KidsAt w x a →
 Calls Tryz.prog 99 #[.agg #[.int .i64 x.k, .int .i64 x.n, .string x.s, .slice a x.m c], .int .i64 q] w fun e w' => e = .returned (.int .i64 ((cutN x.parts q : Nat) : Int)) ∧ Below w.heap.size w w' := by
 induction x with
 | no => intro a c q w _ h; exact h.elim
 | mk k n s m kid ih =>
   intro a c q w hq hk
   show Calls Tryz.prog 99 #[.agg #[.int .i64 k, .int .i64 n, .string s, .slice a m c], .int .i64 q] w _
   have hm : m ≤ 9223372036854775807 := by have := hk.many; unfold maxLen at this; exact this
   have HK := Lib.hid hk
   have HB0 := Lib.hid (kbelow_box w (.cells #[.int .i64 k, .int .i64 n, .string s, .slice a m c] 71))
   have HX0 := Lib.hid (XBox.made w k n s a m c 71)
   have HM := Lib.hid (parts_mk k n s m kid)
   have HIH := Lib.hid ih
   clear hk ih
   generalize (Ex.mk k n s m kid).parts = z at *
   go_enter Tryz.func99, Tryz.ntmps99
   go_wp2_with fail
   generalize (w.alloc (.cells #[.int .i64 k, .int .i64 n, .string s, .slice a m c] 71)) = W at *
   go_loopw [5, 6] (fun nv i wr => ∃ (j r : Nat), j ≤ m ∧ i = .int .i64 j ∧ nv = .int .i64 r ∧ r = cutN (1 + sumN (fun j => (kid j).parts) j) q ∧ Below W.heap.size W wr) (fun _ i _ => m - (intOf i).toNat)
   case atStart => exact ⟨0, 1, Nat.zero_le _, rfl, rfl, by simp [cutN, sumN], Below.refl _ _⟩
   case round =>
    obtain ⟨j, r, hj, rfl, rfl, hr, hb⟩ := hrel
    have HR := Lib.hid hr
    have HB := Lib.hid hb
    have HBW := Lib.hid (HB0.out.trans (hb.mono HB0.out.size))
    obtain ⟨_, y0, y1, y2, y3⟩ := HX0.out.below hb
    have hrq : r ≤ q + 1 := by rw [hr]; unfold cutN; omega
    clear hr hb
    by_cases hlt : j < m
    ·have hlt' : (j : Int) < (m : Int) := by omega
     by_cases hle : r ≤ q
     ·have hle' : (r : Int) ≤ (q : Int) := by omega
      obtain ⟨b, off, rfl, hcell⟩ := HK.out.open (show 0 < m by omega)
      obtain ⟨aj, cj, ⟨x0, x1, x2, x3⟩, hkj⟩ := hcell wr HBW.out j hlt
      have HKJ := Lib.hid hkj
      clear hcell hkj
      have x0' : wr.cell? ⟨b, off + j * 4, none⟩ = some (.int .i64 (kid j).k) := x0
      have x1' : wr.cell? ⟨b, off + j * 4 + 1, none⟩ = some (.int .i64 (kid j).n) := x1
      have x2' : wr.cell? ⟨b, off + j * 4 + 2, none⟩ = some (.string (kid j).s) := x2
      have x3' : wr.cell? ⟨b, off + j * 4 + 3, none⟩ = some (.slice aj (kid j).m cj) := x3
      clear x0 x1 x2 x3
      go_wp2_with fail
      rw [show (q : Int) - (r : Int) = ((q - r : Nat) : Int) by omega]
      refine (HIH.out j aj cj (q - r) _ (by omega) HKJ.out).mono ?_
      rintro e w1 ⟨rfl, hb1⟩
      have HB1 := Lib.hid (HB.out.trans (hb1.mono HB.out.size))
      have HN : Hid (r + cutN (kid j).parts (q - r) = cutN (1 + sumN (fun j => (kid j).parts) (j + 1)) q) := by
       have h := HR.out
       have e2 : sumN (fun j => (kid j).parts) (j + 1) = sumN (fun j => (kid j).parts) j + (kid j).parts := rfl
       unfold Hid
       unfold cutN at *
       omega
      have hcq : cutN (kid j).parts (q - r) ≤ q - r + 1 := by unfold cutN; omega
      clear hb1 x0' x1' x2' x3' y0 y1 y2 y3
      generalize cutN (kid j).parts (q - r) = u at *
      go_wp2_with fail
      go_roundw
      case rel => exact ⟨j + 1, r + u, by omega, by go_num, by go_num, HN.out, HB1.out⟩
      case measure => simp [intOf]; omega
     ·have hleB : decide ((r : Int) ≤ (q : Int)) = false := decide_eq_false (by omega)
      have HZ : Hid (cutN z q = r) := by
       have h := HR.out
       have h2 := sumN_le (f := fun j => (kid j).parts) hj
       have h3 := HM.out
       unfold Hid
       unfold cutN at *
       omega
      go_wp2_with fail
      go_ret
      exact ⟨kret_int (by rw [HZ.out]), HBW.out⟩
    ·have hltB : decide ((j : Int) < (m : Int)) = false := decide_eq_false (by omega)
     have HZ : Hid (cutN z q = r) := by
      have h := HR.out
      have hjm : j = m := by omega
      subst hjm
      have h3 := HM.out
      unfold Hid
      unfold cutN at *
      omega
     go_wp2_with fail
     go_ret
     exact ⟨kret_int (by rw [HZ.out]), HBW.out⟩
set_option maxRecDepth 100000 in
set_option maxHeartbeats 2000000 in
theorem depth_ref (x : Ex) : ∀ (a : Option Addr) (c q : Nat) (w : World), q ≤ 20 → KidsAt w x a →
 Calls Tryz.prog 100 #[.agg #[.int .i64 x.k, .int .i64 x.n, .string x.s, .slice a x.m c], .int .i64 q] w fun e w' => e = .returned (.int .i64 ((cutN x.depth q : Nat) : Int)) ∧ Below w.heap.size w w' := by
 induction x with
 | no => intro a c q w _ h; exact h.elim
 | mk k n s m kid ih =>
   intro a c q w hq hk
   show Calls Tryz.prog 100 #[.agg #[.int .i64 k, .int .i64 n, .string s, .slice a m c], .int .i64 q] w _
   have hm : m ≤ 9223372036854775807 := by have := hk.many; unfold maxLen at this; exact this
   have HK := Lib.hid hk
   have HB0 := Lib.hid (kbelow_box w (.cells #[.int .i64 k, .int .i64 n, .string s, .slice a m c] 71))
   have HX0 := Lib.hid (XBox.made w k n s a m c 71)
   have HM := Lib.hid (depth_mk k n s m kid)
   have HP := Lib.hid (Ex.depth_pos (Ex.mk k n s m kid))
   have HIH := Lib.hid ih
   clear hk ih
   generalize (Ex.mk k n s m kid).depth = z at *
   by_cases hq0 : q = 0
   ·have HZ : Hid (cutN z q = 1) := by have := HP.out; unfold Hid cutN; omega
    subst hq0
    go_enter Tryz.func100, Tryz.ntmps100
    go_wp2_with fail
    go_ret
    exact ⟨kret_int (by rw [HZ.out]; rfl), HB0.out⟩
   ·have hqB : decide ((q : Int) = 0) = false := decide_eq_false (by omega)
    have hqE : ((q : Int) == 0) = false := by simp; omega
    go_enter Tryz.func100, Tryz.ntmps100
    go_wp2_with fail
    generalize (w.alloc (.cells #[.int .i64 k, .int .i64 n, .string s, .slice a m c] 71)) = W at *
    go_loopw [5, 6] (fun dv i wr => ∃ (j r : Nat), j ≤ m ∧ i = .int .i64 j ∧ dv = .int .i64 r ∧ r = min (maxN (fun j => (kid j).depth) j) q ∧ Below W.heap.size W wr) (fun _ i _ => m - (intOf i).toNat)
    case atStart => exact ⟨0, 0, Nat.zero_le _, rfl, rfl, by simp [maxN], Below.refl _ _⟩
    case round =>
     obtain ⟨j, r, hj, rfl, rfl, hr, hb⟩ := hrel
     have HR := Lib.hid hr
     have HB := Lib.hid hb
     have HBW := Lib.hid (HB0.out.trans (hb.mono HB0.out.size))
     obtain ⟨_, y0, y1, y2, y3⟩ := HX0.out.below hb
     have hrq : r ≤ q := by rw [hr]; omega
     clear hr hb
     by_cases hlt : j < m
     ·have hlt' : (j : Int) < (m : Int) := by omega
      obtain ⟨b, off, rfl, hcell⟩ := HK.out.open (show 0 < m by omega)
      obtain ⟨aj, cj, ⟨x0, x1, x2, x3⟩, hkj⟩ := hcell wr HBW.out j hlt
      have HKJ := Lib.hid hkj
      clear hcell hkj
      have x0' : wr.cell? ⟨b, off + j * 4, none⟩ = some (.int .i64 (kid j).k) := x0
      have x1' : wr.cell? ⟨b, off + j * 4 + 1, none⟩ = some (.int .i64 (kid j).n) := x1
      have x2' : wr.cell? ⟨b, off + j * 4 + 2, none⟩ = some (.string (kid j).s) := x2
      have x3' : wr.cell? ⟨b, off + j * 4 + 3, none⟩ = some (.slice aj (kid j).m cj) := x3
      clear x0 x1 x2 x3
      go_wp2_with fail
      rw [show (q : Int) - 1 = ((q - 1 : Nat) : Int) by omega]
      refine (HIH.out j aj cj (q - 1) _ (by omega) HKJ.out).mono ?_
      rintro e w1 ⟨rfl, hb1⟩
      have HB1 := Lib.hid (HB.out.trans (hb1.mono HB.out.size))
      have HN : Hid (max r (cutN (kid j).depth (q - 1)) = min (maxN (fun j => (kid j).depth) (j + 1)) q) := by
       have h := HR.out
       have e2 : maxN (fun j => (kid j).depth) (j + 1) = max (maxN (fun j => (kid j).depth) j) (kid j).depth := rfl
       unfold Hid
       unfold cutN at *
       omega
      have hcq : cutN (kid j).depth (q - 1) ≤ q := by unfold cutN; omega
      clear hb1 x0' x1' x2' x3' y0 y1 y2 y3
      generalize cutN (kid j).depth (q - 1) = u at *
      by_cases hgt : r < u
      ·have hgt' : (r : Int) < (u : Int) := by omega
       have HN2 : Hid (u = min (maxN (fun j => (kid j).depth) (j + 1)) q) := by have := HN.out; unfold Hid; omega
       go_wp2_with fail
       go_roundw
       case rel => exact ⟨j + 1, u, by omega, by go_num, rfl, HN2.out, HB1.out⟩
       case measure => simp [intOf]; omega
      ·have hgtB : decide ((r : Int) < (u : Int)) = false := decide_eq_false (by omega)
       have HN2 : Hid (r = min (maxN (fun j => (kid j).depth) (j + 1)) q) := by have := HN.out; unfold Hid; omega
       go_wp2_with fail
       go_roundw
       case rel => exact ⟨j + 1, r, by omega, by go_num, rfl, HN2.out, HB1.out⟩
       case measure => simp [intOf]; omega
     ·have hltB : decide ((j : Int) < (m : Int)) = false := decide_eq_false (by omega)
      have HZ : Hid (((cutN z q : Nat) : Int) = (r : Int) + 1) := by
       have h := HR.out
       have hjm : j = m := by omega
       subst hjm
       have h3 := HM.out
       unfold Hid
       unfold cutN at *
       omega
      go_wp2_with fail
      go_ret
      exact ⟨kret_int HZ.out.symm, HBW.out⟩
end Go.Proofs.YtkalfdjmklakdaaGreatDoor
namespace Go.Proofs.YtkalfdjmklakdaaGreatDoor
open Go.RowKit
def Shp (w : World) : Prop := ∀ q : Nat, 1 ≤ q → q ≤ 13 → w.cell? ⟨0, q * 4, none⟩ = some (.int .i64 (kidsOf q)) ∧ w.cell? ⟨0, q * 4 + 1, none⟩ = some (.bool (namedB q)) ∧ w.cell? ⟨0, q * 4 + 2, none⟩ = some (.int .i64 (leastOf q)) ∧ w.cell? ⟨0, q * 4 + 3, none⟩ = some (.int .i64 (mostOf q))
theorem Shp.lt {w : World} (h : Shp w) : 0 < w.heap.size := blt_of_cell (h 1 (by omega) (by omega)).1
theorem Shp.below {w w' : World} (h : Shp w) (hb : Below w.heap.size w w') : Shp w' := fun q h1 h2 => by
 have hB := h.lt
 obtain ⟨c0, c1, c2, c3⟩ := h q h1 h2
 exact ⟨(hb.cell (p := ⟨_, q * 4, none⟩) hB).trans c0, (hb.cell (p := ⟨_, q * 4 + 1, none⟩) hB).trans c1, (hb.cell (p := ⟨_, q * 4 + 2, none⟩) hB).trans c2, (hb.cell (p := ⟨_, q * 4 + 3, none⟩) hB).trans c3⟩
theorem err_mk (k n : Int) (s : ByteArray) (m : Nat) (kid : Nat → Ex) : (Ex.mk k n s m kid).err = if ownE k n s m = 0 then firstE (fun j => (kid j).err) m else ownE k n s m := by rw [Ex.err]
theorem kidsOf_bd (k : Int) : 0 ≤ kidsOf k ∧ kidsOf k ≤ 4 := by unfold kidsOf; (repeat' split) <;> omega
theorem leastOf_bd (k : Int) : 0 ≤ leastOf k ∧ leastOf k ≤ 1 := by unfold leastOf; split <;> omega
theorem mostOf_bd (k : Int) : 0 ≤ mostOf k ∧ mostOf k ≤ 1000000000000 := by unfold mostOf; (repeat' split) <;> omega
theorem ownE_bd (k n : Int) (s : ByteArray) (m : Nat) : 0 ≤ ownE k n s m ∧ ownE k n s m ≤ 7 := by unfold ownE; (repeat' split) <;> omega
theorem firstE_bd {f : Nat → Int} (h : ∀ j, 0 ≤ f j ∧ f j ≤ 7) (m : Nat) : 0 ≤ firstE f m ∧ firstE f m ≤ 7 := by
 induction m with
 | zero => exact ⟨by simp [firstE], by simp [firstE]⟩
 | succ q ih =>
   by_cases e : firstE f q = 0
   ·rw [firstE_ok e]; exact h q
   ·have : firstE f (q + 1) = firstE f q := by simp [firstE, e]
    rw [this]; exact ih
theorem err_bd (x : Ex) : 0 ≤ x.err ∧ x.err ≤ 7 := by
 induction x with
 | no => simp [Ex.err]
 | mk k n s m kid ih =>
   rw [err_mk]
   split
   ·exact firstE_bd ih m
   ·exact ownE_bd k n s m
theorem ownE_kind {k n : Int} {s : ByteArray} {m : Nat} (h : k < 1 ∨ 13 < k) : ownE k n s m = 7 := by unfold ownE; rw [if_pos h]
theorem ownE_kids {k n : Int} {s : ByteArray} {m : Nat} (h : ¬ (k < 1 ∨ 13 < k)) (h1 : (m : Int) ≠ kidsOf k) : ownE k n s m = 1 := by unfold ownE; rw [if_neg h, if_pos h1]
theorem ownE_noname {k n : Int} {s : ByteArray} {m : Nat} (h : ¬ (k < 1 ∨ 13 < k)) (h1 : (m : Int) = kidsOf k) (h2 : namedB k = true) (h3 : ¬ NameP s) : ownE k n s m = 1 := by unfold ownE; rw [if_neg h, if_neg (by simpa using h1), if_pos ⟨h2, h3⟩]
theorem ownE_text {k n : Int} {s : ByteArray} {m : Nat} (h : ¬ (k < 1 ∨ 13 < k)) (h1 : (m : Int) = kidsOf k) (h2 : namedB k = false) (h3 : s.size ≠ 0) : ownE k n s m = 1 := by unfold ownE; rw [if_neg h, if_neg (by simpa using h1), if_neg (by simp [h2]), if_pos ⟨h2, h3⟩]
def NameFits (k : Int) (s : ByteArray) : Prop := (namedB k = true ∧ NameP s) ∨ (namedB k = false ∧ s.size = 0)
theorem ownE_num {k n : Int} {s : ByteArray} {m : Nat} (h : ¬ (k < 1 ∨ 13 < k)) (h1 : (m : Int) = kidsOf k) (h2 : NameFits k s) : ownE k n s m = if n < leastOf k ∨ mostOf k < n then 3 else 0 := by
 unfold ownE
 rcases h2 with ⟨a, b⟩ | ⟨a, b⟩
 ·rw [if_neg h, if_neg (by simpa using h1), if_neg (fun h => h.2 b), if_neg (by simp [a])]
 ·rw [if_neg h, if_neg (by simpa using h1), if_neg (by simp [a]), if_neg (fun h => h.2 b)]
theorem empty_not {s : ByteArray} (h0 : s.size ≠ 0) : s.toList.isEmpty = false := by
 cases h : s.toList with
 | nil => exact absurd ((toList_nil_iff_emptyBytes s).1 h) (fun e => h0 (by rw [e]; rfl))
 | cons x l => rfl
def SBox (w : World) (b : Nat) (k : Int) (nm : Bool) (l m : Int) : Prop := b < w.heap.size ∧ w.cell? ⟨b, 0, none⟩ = some (.int .i64 k) ∧ w.cell? ⟨b, 1, none⟩ = some (.bool nm) ∧ w.cell? ⟨b, 2, none⟩ = some (.int .i64 l) ∧ w.cell? ⟨b, 3, none⟩ = some (.int .i64 m)
theorem SBox.made (w : World) (o : Obj) (k : Int) (nm : Bool) (l m : Int) (T : TypeId) : SBox ((w.alloc o).alloc (.cells #[.int .i64 k, .bool nm, .int .i64 l, .int .i64 m] T)) (w.heap.size + 1) k nm l m := by
 refine ⟨?_, ?_, ?_, ?_, ?_⟩ <;> simp
theorem SBox.below {w w' : World} {b : Nat} {k : Int} {nm : Bool} {l m : Int} (h : SBox w b k nm l m) (hb : Below w.heap.size w w') : SBox w' b k nm l m :=
 ⟨Nat.lt_of_lt_of_le h.1 hb.size, (hb.cell (p := ⟨b, 0, none⟩) h.1).trans h.2.1, (hb.cell (p := ⟨b, 1, none⟩) h.1).trans h.2.2.1, (hb.cell (p := ⟨b, 2, none⟩) h.1).trans h.2.2.2.1, (hb.cell (p := ⟨b, 3, none⟩) h.1).trans h.2.2.2.2⟩
set_option maxRecDepth 100000 in
set_option maxHeartbeats 4000000 in
theorem checkExpr_any (x : Ex) : ∀ (a : Option Addr) (c : Nat) (w : World), Shp w → KidsAt w x a →
 Calls Tryz.prog 141 #[.agg #[.int .i64 x.k, .int .i64 x.n, .string x.s, .slice a x.m c]] w fun e w' => e = .returned (.int .i64 x.err) ∧ Below w.heap.size w w' := by
 induction x with
 | no => intro a c w _ h; exact h.elim
 | mk k n s m kid ih =>
   intro a c w hS hk
   show Calls Tryz.prog 141 #[.agg #[.int .i64 k, .int .i64 n, .string s, .slice a m c]] w _
   have hm : m ≤ 9223372036854775807 := by have := hk.many; unfold maxLen at this; exact this
   have HK := Lib.hid hk
   have HS := Lib.hid hS
   have HB0 := Lib.hid (kbelow_box w (.cells #[.int .i64 k, .int .i64 n, .string s, .slice a m c] 71))
   have HX0 := Lib.hid (XBox.made w k n s a m c 71)
   have HM := Lib.hid (err_mk k n s m kid)
   have HIH := Lib.hid ih
   clear hk ih hS
   generalize (Ex.mk k n s m kid).err = z at *
   by_cases hk1 : k < 1
   ·have HR : Hid (z = 7) := by unfold Hid; rw [HM.out, ownE_kind (.inl hk1)]; rfl
    go_enter Tryz.func141, Tryz.ntmps141
    go_wp2_with fail
    go_ret
    exact ⟨kret_int HR.out.symm, HB0.out⟩
   ·have hk1B : decide (k < 1) = false := decide_eq_false hk1
    by_cases hk2 : 13 < k
    ·have HR : Hid (z = 7) := by unfold Hid; rw [HM.out, ownE_kind (.inr hk2)]; rfl
     go_enter Tryz.func141, Tryz.ntmps141
     go_wp2_with fail
     go_ret
     exact ⟨kret_int HR.out.symm, HB0.out⟩
    ·have hk2B : decide (13 < k) = false := decide_eq_false hk2
     obtain ⟨q, rfl⟩ : ∃ q : Nat, k = (q : Int) := ⟨k.toNat, by omega⟩
     have HKD : Hid (¬ ((q : Int) < 1 ∨ 13 < (q : Int))) := by unfold Hid; omega
     have hG := HS.out.lt
     have hq14 : (q : Int) < 14 := by omega
     obtain ⟨s0, s1, s2, s3⟩ := HS.out.below HB0.out q (by omega) (by omega)
     obtain ⟨_, y0, y1, y2, y3⟩ := HX0.out
     by_cases hmk : (m : Int) = kidsOf q
     ·have hmkB : decide ((m : Int) = kidsOf q) = true := decide_eq_true hmk
      have hmkN : ((m : Int) != kidsOf q) = false := by simpa using hmk
      have HMK := Lib.hid hmk
      clear hmk
      cases hnm : namedB q
      ·rw [hnm] at s1
       have HB2 := Lib.hid (HB0.out.alloc HB0.out.size (.cells #[.int .i64 (kidsOf q), .bool false, .int .i64 (leastOf q), .int .i64 (mostOf q)] 200))
       by_cases hs0 : s.size = 0
       ·have HNUM := Lib.hid (ownE_num (n := n) HKD.out HMK.out (.inr ⟨hnm, hs0⟩))
        have hs : s = ByteArray.empty := ByteArray.size_eq_zero_iff.1 hs0
        subst hs
        go_enter Tryz.func141, Tryz.ntmps141
        by_cases c1 : n < leastOf q
        ·have HR : Hid (z = 3) := by unfold Hid; have h := HNUM.out; rw [if_pos (.inl c1)] at h; rw [HM.out, h]; rfl
         go_wp2_with fail
         go_ret
         exact ⟨kret_int HR.out.symm, HB2.out⟩
        ·have c1B : decide (n < leastOf q) = false := decide_eq_false c1
         by_cases c2 : mostOf q < n
         ·have HR : Hid (z = 3) := by unfold Hid; have h := HNUM.out; rw [if_pos (.inr c2)] at h; rw [HM.out, h]; rfl
          go_wp2_with fail
          go_ret
          exact ⟨kret_int HR.out.symm, HB2.out⟩
         ·have c2B : decide (mostOf q < n) = false := decide_eq_false c2
          have HEK : Hid (z = firstE (fun j => (kid j).err) m) := by unfold Hid; have h := HNUM.out; rw [if_neg (by omega)] at h; rw [HM.out, h]; rfl
          clear HM HNUM
          go_wp2_with fail
          go_loopw [59] (fun i wr => ∃ j : Nat, j ≤ m ∧ i = .int .i64 j ∧ firstE (fun j => (kid j).err) j = 0 ∧ Below w.heap.size w wr) (fun i _ => m - (intOf i).toNat)
          case atStart => exact ⟨0, Nat.zero_le _, rfl, rfl, HB2.out⟩
          case round =>
           obtain ⟨j, hj, rfl, hf, hb⟩ := hrel
           have HF := Lib.hid hf
           have HB := Lib.hid hb
           clear hf hb
           by_cases hlt : j < m
           ·have hlt' : (j : Int) < (m : Int) := by omega
            obtain ⟨b, off, rfl, hcell⟩ := HK.out.open (show 0 < m by omega)
            obtain ⟨aj, cj, ⟨x0, x1, x2, x3⟩, hkj⟩ := hcell wr HB.out j hlt
            have HKJ := Lib.hid hkj
            clear hcell hkj
            have x0' : wr.cell? ⟨b, off + j * 4, none⟩ = some (.int .i64 (kid j).k) := x0
            have x1' : wr.cell? ⟨b, off + j * 4 + 1, none⟩ = some (.int .i64 (kid j).n) := x1
            have x2' : wr.cell? ⟨b, off + j * 4 + 2, none⟩ = some (.string (kid j).s) := x2
            have x3' : wr.cell? ⟨b, off + j * 4 + 3, none⟩ = some (.slice aj (kid j).m cj) := x3
            clear x0 x1 x2 x3
            have HBJ := Lib.hid (kbelow_box wr (.cells #[.int .i64 (kid j).k, .int .i64 (kid j).n, .string (kid j).s, .slice aj (kid j).m cj] 71))
            go_wp2_with fail
            refine (HIH.out j aj cj _ ((HS.out.below HB.out).below HBJ.out) (HKJ.out.below HBJ.out)).mono ?_
            rintro e w9 ⟨rfl, hb9⟩
            have HB9 := Lib.hid (HB.out.trans ((HBJ.out.trans (hb9.mono HBJ.out.size)).mono HB.out.size))
            clear hb9 x0' x1' x2' x3'
            by_cases hz : (kid j).err = 0
            ·have HF1 : Hid (firstE (fun j => (kid j).err) (j + 1) = 0) := by unfold Hid; rw [firstE_ok HF.out]; exact hz
             rw [hz]
             go_wp2_with fail
             go_roundw
             case rel => exact ⟨j + 1, by omega, by go_num, HF1.out, HB9.out⟩
             case measure => simp [intOf]; omega
            ·have hzB : decide ((kid j).err = 0) = false := decide_eq_false hz
             have hzN : ((kid j).err != 0) = true := by simpa using hz
             have HR : Hid (z = (kid j).err) := by unfold Hid; rw [HEK.out, firstE_err (f := fun j => (kid j).err) hlt HF.out hz]
             generalize (kid j).err = y at *
             go_wp2_with fail
             go_ret
             exact ⟨kret_int HR.out.symm, HB9.out⟩
           ·have hjm : j = m := by omega
            subst hjm
            have HR : Hid (z = 0) := by unfold Hid; rw [HEK.out, HF.out]
            go_wp2_with fail
            go_ret
            exact ⟨kret_int HR.out.symm, HB.out⟩
       ·have hie := empty_not hs0
        have HR : Hid (z = 1) := by unfold Hid; rw [HM.out, ownE_text HKD.out HMK.out hnm hs0]; rfl
        go_enter Tryz.func141, Tryz.ntmps141
        go_wp2_with fail
        go_ret
        exact ⟨kret_int HR.out.symm, HB2.out⟩
      ·rw [hnm] at s1
       have HB1 := Lib.hid (HB0.out.alloc HB0.out.size (.cells #[.int .i64 (kidsOf q), .bool true, .int .i64 (leastOf q), .int .i64 (mostOf q)] 200))
       have HXB := Lib.hid (HX0.out.below (kbelow_box _ (.cells #[.int .i64 (kidsOf q), .bool true, .int .i64 (leastOf q), .int .i64 (mostOf q)] 200)))
       have HSB := Lib.hid (SBox.made w (.cells #[.int .i64 q, .int .i64 n, .string s, .slice a m c] 71) (kidsOf q) true (leastOf q) (mostOf q) 200)
       go_enter Tryz.func141, Tryz.ntmps141
       go_wp2_with fail
       refine (IsName_any s _).mono ?_
       rintro e w1 ⟨b, rfl, hb, hbel⟩
       have HB2 := Lib.hid (HB1.out.trans (hbel.mono HB1.out.size))
       clear y0 y1 y2 y3 s0 s1 s2 s3
       obtain ⟨_, y0, y1, y2, y3⟩ := HXB.out.below hbel
       obtain ⟨_, s0, s1, s2, s3⟩ := HSB.out.below hbel
       clear hbel HXB HSB HB1 HX0 HB0
       cases b
       ·have HR : Hid (z = 1) := by unfold Hid; rw [HM.out, ownE_noname HKD.out HMK.out hnm (fun h => by have := hb.2 h; cases this)]; rfl
        clear hb
        go_wp2_with fail
        go_ret
        exact ⟨kret_int HR.out.symm, HB2.out⟩
       ·have HNUM := Lib.hid (ownE_num (n := n) HKD.out HMK.out (.inl ⟨hnm, hb.1 rfl⟩))
        clear hb
        by_cases c1 : n < leastOf q
        ·have HR : Hid (z = 3) := by unfold Hid; have h := HNUM.out; rw [if_pos (.inl c1)] at h; rw [HM.out, h]; rfl
         go_wp2_with fail
         go_ret
         exact ⟨kret_int HR.out.symm, HB2.out⟩
        ·have c1B : decide (n < leastOf q) = false := decide_eq_false c1
         by_cases c2 : mostOf q < n
         ·have HR : Hid (z = 3) := by unfold Hid; have h := HNUM.out; rw [if_pos (.inr c2)] at h; rw [HM.out, h]; rfl
          go_wp2_with fail
          go_ret
          exact ⟨kret_int HR.out.symm, HB2.out⟩
         ·have c2B : decide (mostOf q < n) = false := decide_eq_false c2
          have HEK : Hid (z = firstE (fun j => (kid j).err) m) := by unfold Hid; have h := HNUM.out; rw [if_neg (by omega)] at h; rw [HM.out, h]; rfl
          clear HM HNUM
          go_wp2_with fail
          go_loopw [59] (fun i wr => ∃ j : Nat, j ≤ m ∧ i = .int .i64 j ∧ firstE (fun j => (kid j).err) j = 0 ∧ Below w.heap.size w wr) (fun i _ => m - (intOf i).toNat)
          case atStart => exact ⟨0, Nat.zero_le _, rfl, rfl, HB2.out⟩
          case round =>
           obtain ⟨j, hj, rfl, hf, hb⟩ := hrel
           have HF := Lib.hid hf
           have HB := Lib.hid hb
           clear hf hb
           by_cases hlt : j < m
           ·have hlt' : (j : Int) < (m : Int) := by omega
            obtain ⟨b, off, rfl, hcell⟩ := HK.out.open (show 0 < m by omega)
            obtain ⟨aj, cj, ⟨x0, x1, x2, x3⟩, hkj⟩ := hcell wr HB.out j hlt
            have HKJ := Lib.hid hkj
            clear hcell hkj
            have x0' : wr.cell? ⟨b, off + j * 4, none⟩ = some (.int .i64 (kid j).k) := x0
            have x1' : wr.cell? ⟨b, off + j * 4 + 1, none⟩ = some (.int .i64 (kid j).n) := x1
            have x2' : wr.cell? ⟨b, off + j * 4 + 2, none⟩ = some (.string (kid j).s) := x2
            have x3' : wr.cell? ⟨b, off + j * 4 + 3, none⟩ = some (.slice aj (kid j).m cj) := x3
            clear x0 x1 x2 x3
            have HBJ := Lib.hid (kbelow_box wr (.cells #[.int .i64 (kid j).k, .int .i64 (kid j).n, .string (kid j).s, .slice aj (kid j).m cj] 71))
            go_wp2_with fail
            refine (HIH.out j aj cj _ ((HS.out.below HB.out).below HBJ.out) (HKJ.out.below HBJ.out)).mono ?_
            rintro e w9 ⟨rfl, hb9⟩
            have HB9 := Lib.hid (HB.out.trans ((HBJ.out.trans (hb9.mono HBJ.out.size)).mono HB.out.size))
            clear hb9 x0' x1' x2' x3'
            by_cases hz : (kid j).err = 0
            ·have HF1 : Hid (firstE (fun j => (kid j).err) (j + 1) = 0) := by unfold Hid; rw [firstE_ok HF.out]; exact hz
             rw [hz]
             go_wp2_with fail
             go_roundw
             case rel => exact ⟨j + 1, by omega, by go_num, HF1.out, HB9.out⟩
             case measure => simp [intOf]; omega
            ·have hzB : decide ((kid j).err = 0) = false := decide_eq_false hz
             have hzN : ((kid j).err != 0) = true := by simpa using hz
             have HR : Hid (z = (kid j).err) := by unfold Hid; rw [HEK.out, firstE_err (f := fun j => (kid j).err) hlt HF.out hz]
             generalize (kid j).err = y at *
             go_wp2_with fail
             go_ret
             exact ⟨kret_int HR.out.symm, HB9.out⟩
           ·have hjm : j = m := by omega
            subst hjm
            have HR : Hid (z = 0) := by unfold Hid; rw [HEK.out, HF.out]
            go_wp2_with fail
            go_ret
            exact ⟨kret_int HR.out.symm, HB.out⟩
     ·have hmkB : decide ((m : Int) = kidsOf q) = false := decide_eq_false hmk
      have hmkN : ((m : Int) != kidsOf q) = true := by simpa using hmk
      have HB2 := Lib.hid (HB0.out.alloc HB0.out.size (.cells #[.int .i64 (kidsOf q), .bool (namedB q), .int .i64 (leastOf q), .int .i64 (mostOf q)] 200))
      have HR : Hid (z = 1) := by unfold Hid; rw [HM.out, ownE_kids HKD.out hmk]; rfl
      go_enter Tryz.func141, Tryz.ntmps141
      go_wp2_with fail
      go_ret
      exact ⟨kret_int HR.out.symm, HB2.out⟩
end Go.Proofs.YtkalfdjmklakdaaGreatDoor
namespace Go.Proofs.YtkalfdjmklakdaaGreatDoor
open Go.RowKit
def kidsRow : Obj := .cells #[.int .i64 0, .int .i64 0, .int .i64 0, .int .i64 0, .int .i64 1, .int .i64 1, .int .i64 1, .int .i64 2, .int .i64 2, .int .i64 1, .int .i64 1, .int .i64 2, .int .i64 2, .int .i64 4] 3
def WrongIs (x : Ex) : Prop := ∀ (a : Option Addr) (c : Nat) (w : World), KidsAt w x a →
    Calls Tryz.prog 102 #[.agg #[.int .i64 x.k, .int .i64 x.n, .string x.s, .slice a x.m c]] w fun e w' => e = .returned (.int .i64 x.err) ∧ Below w.heap.size w w'
end Go.Proofs.YtkalfdjmklakdaaGreatDoor
namespace Go.Proofs.YtkalfdjmklakdaaGreatDoor
open Go.RowKit
set_option maxRecDepth 100000 in
set_option maxHeartbeats 4000000 in
theorem wrong_1 (n : Int) (s : ByteArray) (m : Nat) (kid : Nat → Ex) (ih : ∀ j, WrongIs (kid j)) : WrongIs (.mk 1 n s m kid) := by
 intro a c w hk
 show Calls Tryz.prog 102 #[.agg #[.int .i64 1, .int .i64 n, .string s, .slice a m c]] w _
 have hm : m ≤ 9223372036854775807 := by have := hk.many; unfold maxLen at this; exact this
 have HSZ : Hid (s.size ≤ maxLen) := Lib.hid hk.name
 have HK := Lib.hid hk
 have HM := Lib.hid (err_mk 1 n s m kid)
 have HIH := Lib.hid ih
 clear hk ih
 generalize (Ex.mk 1 n s m kid).err = z at *
 have HB0 := Lib.hid (kbelow_box w (.cells #[.int .i64 1, .int .i64 n, .string s, .slice a m c] 71))
 have HX0 := Lib.hid (XBox.made w 1 n s a m c 71)
 have HB2 := Lib.hid (HB0.out.alloc HB0.out.size kidsRow)
 have HX2 := Lib.hid (HX0.out.below (kbelow_box _ kidsRow))
 unfold kidsRow at HB2 HX2
 by_cases hmk : (m : Int) = 0
 ·have hmkB : decide ((m : Int) = 0) = true := decide_eq_true hmk
  have hmkE : ((m : Int) == 0) = true := by simpa using hmk
  have hmkN : ((m : Int) != 0) = false := by simpa using hmk
  have hmkD : decide (m = 0) = true := decide_eq_true (by omega)
  have HMK := Lib.hid hmk
  clear hmk
  by_cases hs0 : s.size = 0
  ·have HNUM : Hid (ownE 1 n s m = if n < 0 ∨ 1000000000000 < n then 3 else 0) := Lib.hid (ownE_num (k := 1) (n := n) (by omega) (by rw [HMK.out]; decide) (.inr ⟨by decide, hs0⟩))
   have hs : s = ByteArray.empty := ByteArray.size_eq_zero_iff.1 hs0
   subst hs
   go_enter Tryz.func102, Tryz.ntmps102
   by_cases c1 : n < 0
   ·have HR : Hid (z = 3) := by unfold Hid; have h := HNUM.out; rw [if_pos (.inl c1)] at h; rw [HM.out, h]; rfl
    go_wp2_with fail
    go_ret
    exact ⟨kret_int HR.out.symm, HB2.out⟩
   ·have c1B : decide (n < 0) = false := decide_eq_false c1
    by_cases c2 : 1000000000000 < n
    ·have HR : Hid (z = 3) := by unfold Hid; have h := HNUM.out; rw [if_pos (.inr c2)] at h; rw [HM.out, h]; rfl
     go_wp2_with fail
     go_ret
     exact ⟨kret_int HR.out.symm, HB2.out⟩
    ·have c2B : decide (1000000000000 < n) = false := decide_eq_false c2
     have HEK : Hid (z = firstE (fun j => (kid j).err) m) := by unfold Hid; have h := HNUM.out; rw [if_neg (by omega)] at h; rw [HM.out, h]; rfl
     clear HM HNUM
     go_wp2_with fail
     go_loopw [7] (fun i wr => ∃ j : Nat, j ≤ m ∧ i = .int .i64 j ∧ firstE (fun j => (kid j).err) j = 0 ∧ XBox wr w.heap.size 1 n ByteArray.empty a m c ∧ Below w.heap.size w wr) (fun i _ => m - (intOf i).toNat)
     case atStart => exact ⟨0, Nat.zero_le _, rfl, rfl, HX2.out, HB2.out⟩
     case round =>
      obtain ⟨j, hj, rfl, hf, hx, hb⟩ := hrel
      have HF := Lib.hid hf
      have HB := Lib.hid hb
      have HX := Lib.hid hx
      clear hf hb hx
      obtain ⟨_, y0, y1, y2, y3⟩ := HX.out
      by_cases hlt : j < m
      ·have hlt' : (j : Int) < (m : Int) := by omega
       obtain ⟨b, off, rfl, hcell⟩ := HK.out.open (show 0 < m by omega)
       obtain ⟨aj, cj, ⟨x0, x1, x2, x3⟩, hkj⟩ := hcell wr HB.out j hlt
       have HKJ := Lib.hid hkj
       clear hcell hkj
       have x0' : wr.cell? ⟨b, off + j * 4, none⟩ = some (.int .i64 (kid j).k) := x0
       have x1' : wr.cell? ⟨b, off + j * 4 + 1, none⟩ = some (.int .i64 (kid j).n) := x1
       have x2' : wr.cell? ⟨b, off + j * 4 + 2, none⟩ = some (.string (kid j).s) := x2
       have x3' : wr.cell? ⟨b, off + j * 4 + 3, none⟩ = some (.slice aj (kid j).m cj) := x3
       clear x0 x1 x2 x3
       go_wp2_with fail
       refine (HIH.out j aj cj _ HKJ.out).mono ?_
       rintro e w9 ⟨rfl, hb9⟩
       have HB9 := Lib.hid (HB.out.trans (hb9.mono HB.out.size))
       have HX9 := Lib.hid (HX.out.below hb9)
       clear hb9 x0' x1' x2' x3' y0 y1 y2 y3
       by_cases hz : (kid j).err = 0
       ·have HF1 : Hid (firstE (fun j => (kid j).err) (j + 1) = 0) := by unfold Hid; rw [firstE_ok HF.out]; exact hz
        rw [hz]
        go_wp2_with fail
        go_roundw
        case rel => exact ⟨j + 1, by omega, by go_num, HF1.out, HX9.out, HB9.out⟩
        case measure => simp [intOf]; omega
       ·have hzB : decide ((kid j).err = 0) = false := decide_eq_false hz
        have hzN : ((kid j).err != 0) = true := by simpa using hz
        have HR : Hid (z = (kid j).err) := by unfold Hid; rw [HEK.out, firstE_err (f := fun j => (kid j).err) hlt HF.out hz]
        generalize (kid j).err = y at *
        go_wp2_with fail
        go_ret
        exact ⟨kret_int HR.out.symm, HB9.out⟩
      ·have hjm : j = m := by omega
       subst hjm
       have HR : Hid (z = 0) := by unfold Hid; rw [HEK.out, HF.out]
       go_wp2_with fail
       go_ret
       exact ⟨kret_int HR.out.symm, HB.out⟩
  ·have hie := empty_not hs0
   have HR : Hid (z = 1) := by unfold Hid; rw [HM.out, ownE_text (by omega) (by rw [HMK.out]; decide) (by decide) hs0]; rfl
   go_enter Tryz.func102, Tryz.ntmps102
   go_wp2_with fail
   go_ret
   exact ⟨kret_int HR.out.symm, HB2.out⟩
 ·have hmkB : decide ((m : Int) = 0) = false := decide_eq_false hmk
  have hmkE : ((m : Int) == 0) = false := by simpa using hmk
  have hmkN : ((m : Int) != 0) = true := by simpa using hmk
  have hmkD : decide (m = 0) = false := decide_eq_false (by omega)
  have HR : Hid (z = 1) := by unfold Hid; rw [HM.out, ownE_kids (by omega) (by rw [show kidsOf 1 = 0 by decide]; exact hmk)]; rfl
  go_enter Tryz.func102, Tryz.ntmps102
  go_wp2_with fail
  go_ret
  exact ⟨kret_int HR.out.symm, HB2.out⟩
set_option maxRecDepth 100000 in
set_option maxHeartbeats 4000000 in
theorem wrong_2 (n : Int) (s : ByteArray) (m : Nat) (kid : Nat → Ex) (ih : ∀ j, WrongIs (kid j)) : WrongIs (.mk 2 n s m kid) := by
 intro a c w hk
 show Calls Tryz.prog 102 #[.agg #[.int .i64 2, .int .i64 n, .string s, .slice a m c]] w _
 have hm : m ≤ 9223372036854775807 := by have := hk.many; unfold maxLen at this; exact this
 have HSZ : Hid (s.size ≤ maxLen) := Lib.hid hk.name
 have HK := Lib.hid hk
 have HM := Lib.hid (err_mk 2 n s m kid)
 have HIH := Lib.hid ih
 clear hk ih
 generalize (Ex.mk 2 n s m kid).err = z at *
 have HB0 := Lib.hid (kbelow_box w (.cells #[.int .i64 2, .int .i64 n, .string s, .slice a m c] 71))
 have HX0 := Lib.hid (XBox.made w 2 n s a m c 71)
 have HB2 := Lib.hid (HB0.out.alloc HB0.out.size kidsRow)
 have HX2 := Lib.hid (HX0.out.below (kbelow_box _ kidsRow))
 unfold kidsRow at HB2 HX2
 by_cases hmk : (m : Int) = 0
 ·have hmkB : decide ((m : Int) = 0) = true := decide_eq_true hmk
  have hmkE : ((m : Int) == 0) = true := by simpa using hmk
  have hmkN : ((m : Int) != 0) = false := by simpa using hmk
  have hmkD : decide (m = 0) = true := decide_eq_true (by omega)
  have HMK := Lib.hid hmk
  clear hmk
  go_enter Tryz.func102, Tryz.ntmps102
  go_wp2_with fail
  refine (isName_ref s _ (by have := HSZ.out; unfold maxLen at this; omega)).mono ?_
  rintro e w1 ⟨b, rfl, hb, hbel⟩
  have HB1 := HB2
  clear HB2
  have HB2 := Lib.hid (HB1.out.trans (hbel.mono HB1.out.size))
  have HX1 := HX2
  clear HX2
  have HX2 := Lib.hid (HX1.out.below hbel)
  clear hbel HB1 HX1 HX0 HB0
  obtain ⟨_, y0, y1, y2, y3⟩ := HX2.out
  cases b
  ·have HR : Hid (z = 1) := by unfold Hid; rw [HM.out, ownE_noname (by omega) (by rw [HMK.out]; decide) (by decide) (fun h => by have := hb.2 h; cases this)]; rfl
   clear hb
   go_wp2_with fail
   go_ret
   exact ⟨kret_int HR.out.symm, HB2.out⟩
  ·have HNUM : Hid (ownE 2 n s m = if n < 0 ∨ 0 < n then 3 else 0) := Lib.hid (ownE_num (k := 2) (n := n) (by omega) (by rw [HMK.out]; decide) (.inl ⟨by decide, hb.1 rfl⟩))
   clear hb
   by_cases c1 : n < 0
   ·have HR : Hid (z = 3) := by unfold Hid; have h := HNUM.out; rw [if_pos (.inl c1)] at h; rw [HM.out, h]; rfl
    go_wp2_with fail
    go_ret
    exact ⟨kret_int HR.out.symm, HB2.out⟩
   ·have c1B : decide (n < 0) = false := decide_eq_false c1
    by_cases c2 : 0 < n
    ·have HR : Hid (z = 3) := by unfold Hid; have h := HNUM.out; rw [if_pos (.inr c2)] at h; rw [HM.out, h]; rfl
     go_wp2_with fail
     go_ret
     exact ⟨kret_int HR.out.symm, HB2.out⟩
    ·have c2B : decide (0 < n) = false := decide_eq_false c2
     have HEK : Hid (z = firstE (fun j => (kid j).err) m) := by unfold Hid; have h := HNUM.out; rw [if_neg (by omega)] at h; rw [HM.out, h]; rfl
     clear HM HNUM
     go_wp2_with fail
     go_loopw [7] (fun i wr => ∃ j : Nat, j ≤ m ∧ i = .int .i64 j ∧ firstE (fun j => (kid j).err) j = 0 ∧ XBox wr w.heap.size 2 n s a m c ∧ Below w.heap.size w wr) (fun i _ => m - (intOf i).toNat)
     case atStart => exact ⟨0, Nat.zero_le _, rfl, rfl, HX2.out, HB2.out⟩
     case round =>
      obtain ⟨j, hj, rfl, hf, hx, hb⟩ := hrel
      have HF := Lib.hid hf
      have HB := Lib.hid hb
      have HX := Lib.hid hx
      clear hf hb hx
      obtain ⟨_, y0, y1, y2, y3⟩ := HX.out
      by_cases hlt : j < m
      ·have hlt' : (j : Int) < (m : Int) := by omega
       obtain ⟨b, off, rfl, hcell⟩ := HK.out.open (show 0 < m by omega)
       obtain ⟨aj, cj, ⟨x0, x1, x2, x3⟩, hkj⟩ := hcell wr HB.out j hlt
       have HKJ := Lib.hid hkj
       clear hcell hkj
       have x0' : wr.cell? ⟨b, off + j * 4, none⟩ = some (.int .i64 (kid j).k) := x0
       have x1' : wr.cell? ⟨b, off + j * 4 + 1, none⟩ = some (.int .i64 (kid j).n) := x1
       have x2' : wr.cell? ⟨b, off + j * 4 + 2, none⟩ = some (.string (kid j).s) := x2
       have x3' : wr.cell? ⟨b, off + j * 4 + 3, none⟩ = some (.slice aj (kid j).m cj) := x3
       clear x0 x1 x2 x3
       go_wp2_with fail
       refine (HIH.out j aj cj _ HKJ.out).mono ?_
       rintro e w9 ⟨rfl, hb9⟩
       have HB9 := Lib.hid (HB.out.trans (hb9.mono HB.out.size))
       have HX9 := Lib.hid (HX.out.below hb9)
       clear hb9 x0' x1' x2' x3' y0 y1 y2 y3
       by_cases hz : (kid j).err = 0
       ·have HF1 : Hid (firstE (fun j => (kid j).err) (j + 1) = 0) := by unfold Hid; rw [firstE_ok HF.out]; exact hz
        rw [hz]
        go_wp2_with fail
        go_roundw
        case rel => exact ⟨j + 1, by omega, by go_num, HF1.out, HX9.out, HB9.out⟩
        case measure => simp [intOf]; omega
       ·have hzB : decide ((kid j).err = 0) = false := decide_eq_false hz
        have hzN : ((kid j).err != 0) = true := by simpa using hz
        have HR : Hid (z = (kid j).err) := by unfold Hid; rw [HEK.out, firstE_err (f := fun j => (kid j).err) hlt HF.out hz]
        generalize (kid j).err = y at *
        go_wp2_with fail
        go_ret
        exact ⟨kret_int HR.out.symm, HB9.out⟩
      ·have hjm : j = m := by omega
       subst hjm
       have HR : Hid (z = 0) := by unfold Hid; rw [HEK.out, HF.out]
       go_wp2_with fail
       go_ret
       exact ⟨kret_int HR.out.symm, HB.out⟩
 ·have hmkB : decide ((m : Int) = 0) = false := decide_eq_false hmk
  have hmkE : ((m : Int) == 0) = false := by simpa using hmk
  have hmkN : ((m : Int) != 0) = true := by simpa using hmk
  have hmkD : decide (m = 0) = false := decide_eq_false (by omega)
  have HR : Hid (z = 1) := by unfold Hid; rw [HM.out, ownE_kids (by omega) (by rw [show kidsOf 2 = 0 by decide]; exact hmk)]; rfl
  go_enter Tryz.func102, Tryz.ntmps102
  go_wp2_with fail
  go_ret
  exact ⟨kret_int HR.out.symm, HB2.out⟩
set_option maxRecDepth 100000 in
set_option maxHeartbeats 4000000 in
theorem wrong_3 (n : Int) (s : ByteArray) (m : Nat) (kid : Nat → Ex) (ih : ∀ j, WrongIs (kid j)) : WrongIs (.mk 3 n s m kid) := by
 intro a c w hk
 show Calls Tryz.prog 102 #[.agg #[.int .i64 3, .int .i64 n, .string s, .slice a m c]] w _
 have hm : m ≤ 9223372036854775807 := by have := hk.many; unfold maxLen at this; exact this
 have HSZ : Hid (s.size ≤ maxLen) := Lib.hid hk.name
 have HK := Lib.hid hk
 have HM := Lib.hid (err_mk 3 n s m kid)
 have HIH := Lib.hid ih
 clear hk ih
 generalize (Ex.mk 3 n s m kid).err = z at *
 have HB0 := Lib.hid (kbelow_box w (.cells #[.int .i64 3, .int .i64 n, .string s, .slice a m c] 71))
 have HX0 := Lib.hid (XBox.made w 3 n s a m c 71)
 have HB2 := Lib.hid (HB0.out.alloc HB0.out.size kidsRow)
 have HX2 := Lib.hid (HX0.out.below (kbelow_box _ kidsRow))
 unfold kidsRow at HB2 HX2
 by_cases hmk : (m : Int) = 0
 ·have hmkB : decide ((m : Int) = 0) = true := decide_eq_true hmk
  have hmkE : ((m : Int) == 0) = true := by simpa using hmk
  have hmkN : ((m : Int) != 0) = false := by simpa using hmk
  have hmkD : decide (m = 0) = true := decide_eq_true (by omega)
  have HMK := Lib.hid hmk
  clear hmk
  go_enter Tryz.func102, Tryz.ntmps102
  go_wp2_with fail
  refine (isName_ref s _ (by have := HSZ.out; unfold maxLen at this; omega)).mono ?_
  rintro e w1 ⟨b, rfl, hb, hbel⟩
  have HB1 := HB2
  clear HB2
  have HB2 := Lib.hid (HB1.out.trans (hbel.mono HB1.out.size))
  have HX1 := HX2
  clear HX2
  have HX2 := Lib.hid (HX1.out.below hbel)
  clear hbel HB1 HX1 HX0 HB0
  obtain ⟨_, y0, y1, y2, y3⟩ := HX2.out
  cases b
  ·have HR : Hid (z = 1) := by unfold Hid; rw [HM.out, ownE_noname (by omega) (by rw [HMK.out]; decide) (by decide) (fun h => by have := hb.2 h; cases this)]; rfl
   clear hb
   go_wp2_with fail
   go_ret
   exact ⟨kret_int HR.out.symm, HB2.out⟩
  ·have HNUM : Hid (ownE 3 n s m = if n < 0 ∨ 0 < n then 3 else 0) := Lib.hid (ownE_num (k := 3) (n := n) (by omega) (by rw [HMK.out]; decide) (.inl ⟨by decide, hb.1 rfl⟩))
   clear hb
   by_cases c1 : n < 0
   ·have HR : Hid (z = 3) := by unfold Hid; have h := HNUM.out; rw [if_pos (.inl c1)] at h; rw [HM.out, h]; rfl
    go_wp2_with fail
    go_ret
    exact ⟨kret_int HR.out.symm, HB2.out⟩
   ·have c1B : decide (n < 0) = false := decide_eq_false c1
    by_cases c2 : 0 < n
    ·have HR : Hid (z = 3) := by unfold Hid; have h := HNUM.out; rw [if_pos (.inr c2)] at h; rw [HM.out, h]; rfl
     go_wp2_with fail
     go_ret
     exact ⟨kret_int HR.out.symm, HB2.out⟩
    ·have c2B : decide (0 < n) = false := decide_eq_false c2
     have HEK : Hid (z = firstE (fun j => (kid j).err) m) := by unfold Hid; have h := HNUM.out; rw [if_neg (by omega)] at h; rw [HM.out, h]; rfl
     clear HM HNUM
     go_wp2_with fail
     go_loopw [7] (fun i wr => ∃ j : Nat, j ≤ m ∧ i = .int .i64 j ∧ firstE (fun j => (kid j).err) j = 0 ∧ XBox wr w.heap.size 3 n s a m c ∧ Below w.heap.size w wr) (fun i _ => m - (intOf i).toNat)
     case atStart => exact ⟨0, Nat.zero_le _, rfl, rfl, HX2.out, HB2.out⟩
     case round =>
      obtain ⟨j, hj, rfl, hf, hx, hb⟩ := hrel
      have HF := Lib.hid hf
      have HB := Lib.hid hb
      have HX := Lib.hid hx
      clear hf hb hx
      obtain ⟨_, y0, y1, y2, y3⟩ := HX.out
      by_cases hlt : j < m
      ·have hlt' : (j : Int) < (m : Int) := by omega
       obtain ⟨b, off, rfl, hcell⟩ := HK.out.open (show 0 < m by omega)
       obtain ⟨aj, cj, ⟨x0, x1, x2, x3⟩, hkj⟩ := hcell wr HB.out j hlt
       have HKJ := Lib.hid hkj
       clear hcell hkj
       have x0' : wr.cell? ⟨b, off + j * 4, none⟩ = some (.int .i64 (kid j).k) := x0
       have x1' : wr.cell? ⟨b, off + j * 4 + 1, none⟩ = some (.int .i64 (kid j).n) := x1
       have x2' : wr.cell? ⟨b, off + j * 4 + 2, none⟩ = some (.string (kid j).s) := x2
       have x3' : wr.cell? ⟨b, off + j * 4 + 3, none⟩ = some (.slice aj (kid j).m cj) := x3
       clear x0 x1 x2 x3
       go_wp2_with fail
       refine (HIH.out j aj cj _ HKJ.out).mono ?_
       rintro e w9 ⟨rfl, hb9⟩
       have HB9 := Lib.hid (HB.out.trans (hb9.mono HB.out.size))
       have HX9 := Lib.hid (HX.out.below hb9)
       clear hb9 x0' x1' x2' x3' y0 y1 y2 y3
       by_cases hz : (kid j).err = 0
       ·have HF1 : Hid (firstE (fun j => (kid j).err) (j + 1) = 0) := by unfold Hid; rw [firstE_ok HF.out]; exact hz
        rw [hz]
        go_wp2_with fail
        go_roundw
        case rel => exact ⟨j + 1, by omega, by go_num, HF1.out, HX9.out, HB9.out⟩
        case measure => simp [intOf]; omega
       ·have hzB : decide ((kid j).err = 0) = false := decide_eq_false hz
        have hzN : ((kid j).err != 0) = true := by simpa using hz
        have HR : Hid (z = (kid j).err) := by unfold Hid; rw [HEK.out, firstE_err (f := fun j => (kid j).err) hlt HF.out hz]
        generalize (kid j).err = y at *
        go_wp2_with fail
        go_ret
        exact ⟨kret_int HR.out.symm, HB9.out⟩
      ·have hjm : j = m := by omega
       subst hjm
       have HR : Hid (z = 0) := by unfold Hid; rw [HEK.out, HF.out]
       go_wp2_with fail
       go_ret
       exact ⟨kret_int HR.out.symm, HB.out⟩
 ·have hmkB : decide ((m : Int) = 0) = false := decide_eq_false hmk
  have hmkE : ((m : Int) == 0) = false := by simpa using hmk
  have hmkN : ((m : Int) != 0) = true := by simpa using hmk
  have hmkD : decide (m = 0) = false := decide_eq_false (by omega)
  have HR : Hid (z = 1) := by unfold Hid; rw [HM.out, ownE_kids (by omega) (by rw [show kidsOf 3 = 0 by decide]; exact hmk)]; rfl
  go_enter Tryz.func102, Tryz.ntmps102
  go_wp2_with fail
  go_ret
  exact ⟨kret_int HR.out.symm, HB2.out⟩
end Go.Proofs.YtkalfdjmklakdaaGreatDoor
namespace Go.Proofs.YtkalfdjmklakdaaGreatDoor
open Go.RowKit
set_option maxRecDepth 100000 in
set_option maxHeartbeats 4000000 in
theorem wrong_4 (n : Int) (s : ByteArray) (m : Nat) (kid : Nat → Ex) (ih : ∀ j, WrongIs (kid j)) : WrongIs (.mk 4 n s m kid) := by
 intro a c w hk
 show Calls Tryz.prog 102 #[.agg #[.int .i64 4, .int .i64 n, .string s, .slice a m c]] w _
 have hm : m ≤ 9223372036854775807 := by have := hk.many; unfold maxLen at this; exact this
 have HSZ : Hid (s.size ≤ maxLen) := Lib.hid hk.name
 have HK := Lib.hid hk
 have HM := Lib.hid (err_mk 4 n s m kid)
 have HIH := Lib.hid ih
 clear hk ih
 generalize (Ex.mk 4 n s m kid).err = z at *
 have HB0 := Lib.hid (kbelow_box w (.cells #[.int .i64 4, .int .i64 n, .string s, .slice a m c] 71))
 have HX0 := Lib.hid (XBox.made w 4 n s a m c 71)
 have HB2 := Lib.hid (HB0.out.alloc HB0.out.size kidsRow)
 have HX2 := Lib.hid (HX0.out.below (kbelow_box _ kidsRow))
 unfold kidsRow at HB2 HX2
 by_cases hmk : (m : Int) = 1
 ·have hmkB : decide ((m : Int) = 1) = true := decide_eq_true hmk
  have hmkE : ((m : Int) == 1) = true := by simpa using hmk
  have hmkN : ((m : Int) != 1) = false := by simpa using hmk
  have hmkD : decide (m = 1) = true := decide_eq_true (by omega)
  have HMK := Lib.hid hmk
  clear hmk
  by_cases hs0 : s.size = 0
  ·have HNUM : Hid (ownE 4 n s m = if n < 0 ∨ 1000000 < n then 3 else 0) := Lib.hid (ownE_num (k := 4) (n := n) (by omega) (by rw [HMK.out]; decide) (.inr ⟨by decide, hs0⟩))
   have hs : s = ByteArray.empty := ByteArray.size_eq_zero_iff.1 hs0
   subst hs
   go_enter Tryz.func102, Tryz.ntmps102
   by_cases c1 : n < 0
   ·have HR : Hid (z = 3) := by unfold Hid; have h := HNUM.out; rw [if_pos (.inl c1)] at h; rw [HM.out, h]; rfl
    go_wp2_with fail
    go_ret
    exact ⟨kret_int HR.out.symm, HB2.out⟩
   ·have c1B : decide (n < 0) = false := decide_eq_false c1
    by_cases c2 : 1000000 < n
    ·have HR : Hid (z = 3) := by unfold Hid; have h := HNUM.out; rw [if_pos (.inr c2)] at h; rw [HM.out, h]; rfl
     go_wp2_with fail
     go_ret
     exact ⟨kret_int HR.out.symm, HB2.out⟩
    ·have c2B : decide (1000000 < n) = false := decide_eq_false c2
     have HEK : Hid (z = firstE (fun j => (kid j).err) m) := by unfold Hid; have h := HNUM.out; rw [if_neg (by omega)] at h; rw [HM.out, h]; rfl
     clear HM HNUM
     go_wp2_with fail
     go_loopw [7] (fun i wr => ∃ j : Nat, j ≤ m ∧ i = .int .i64 j ∧ firstE (fun j => (kid j).err) j = 0 ∧ XBox wr w.heap.size 4 n ByteArray.empty a m c ∧ Below w.heap.size w wr) (fun i _ => m - (intOf i).toNat)
     case atStart => exact ⟨0, Nat.zero_le _, rfl, rfl, HX2.out, HB2.out⟩
     case round =>
      obtain ⟨j, hj, rfl, hf, hx, hb⟩ := hrel
      have HF := Lib.hid hf
      have HB := Lib.hid hb
      have HX := Lib.hid hx
      clear hf hb hx
      obtain ⟨_, y0, y1, y2, y3⟩ := HX.out
      by_cases hlt : j < m
      ·have hlt' : (j : Int) < (m : Int) := by omega
       obtain ⟨b, off, rfl, hcell⟩ := HK.out.open (show 0 < m by omega)
       obtain ⟨aj, cj, ⟨x0, x1, x2, x3⟩, hkj⟩ := hcell wr HB.out j hlt
       have HKJ := Lib.hid hkj
       clear hcell hkj
       have x0' : wr.cell? ⟨b, off + j * 4, none⟩ = some (.int .i64 (kid j).k) := x0
       have x1' : wr.cell? ⟨b, off + j * 4 + 1, none⟩ = some (.int .i64 (kid j).n) := x1
       have x2' : wr.cell? ⟨b, off + j * 4 + 2, none⟩ = some (.string (kid j).s) := x2
       have x3' : wr.cell? ⟨b, off + j * 4 + 3, none⟩ = some (.slice aj (kid j).m cj) := x3
       clear x0 x1 x2 x3
       go_wp2_with fail
       refine (HIH.out j aj cj _ HKJ.out).mono ?_
       rintro e w9 ⟨rfl, hb9⟩
       have HB9 := Lib.hid (HB.out.trans (hb9.mono HB.out.size))
       have HX9 := Lib.hid (HX.out.below hb9)
       clear hb9 x0' x1' x2' x3' y0 y1 y2 y3
       by_cases hz : (kid j).err = 0
       ·have HF1 : Hid (firstE (fun j => (kid j).err) (j + 1) = 0) := by unfold Hid; rw [firstE_ok HF.out]; exact hz
        rw [hz]
        go_wp2_with fail
        go_roundw
        case rel => exact ⟨j + 1, by omega, by go_num, HF1.out, HX9.out, HB9.out⟩
        case measure => simp [intOf]; omega
       ·have hzB : decide ((kid j).err = 0) = false := decide_eq_false hz
        have hzN : ((kid j).err != 0) = true := by simpa using hz
        have HR : Hid (z = (kid j).err) := by unfold Hid; rw [HEK.out, firstE_err (f := fun j => (kid j).err) hlt HF.out hz]
        generalize (kid j).err = y at *
        go_wp2_with fail
        go_ret
        exact ⟨kret_int HR.out.symm, HB9.out⟩
      ·have hjm : j = m := by omega
       subst hjm
       have HR : Hid (z = 0) := by unfold Hid; rw [HEK.out, HF.out]
       go_wp2_with fail
       go_ret
       exact ⟨kret_int HR.out.symm, HB.out⟩
  ·have hie := empty_not hs0
   have HR : Hid (z = 1) := by unfold Hid; rw [HM.out, ownE_text (by omega) (by rw [HMK.out]; decide) (by decide) hs0]; rfl
   go_enter Tryz.func102, Tryz.ntmps102
   go_wp2_with fail
   go_ret
   exact ⟨kret_int HR.out.symm, HB2.out⟩
 ·have hmkB : decide ((m : Int) = 1) = false := decide_eq_false hmk
  have hmkE : ((m : Int) == 1) = false := by simpa using hmk
  have hmkN : ((m : Int) != 1) = true := by simpa using hmk
  have hmkD : decide (m = 1) = false := decide_eq_false (by omega)
  have HR : Hid (z = 1) := by unfold Hid; rw [HM.out, ownE_kids (by omega) (by rw [show kidsOf 4 = 1 by decide]; exact hmk)]; rfl
  go_enter Tryz.func102, Tryz.ntmps102
  go_wp2_with fail
  go_ret
  exact ⟨kret_int HR.out.symm, HB2.out⟩
set_option maxRecDepth 100000 in
set_option maxHeartbeats 4000000 in
theorem wrong_5 (n : Int) (s : ByteArray) (m : Nat) (kid : Nat → Ex) (ih : ∀ j, WrongIs (kid j)) : WrongIs (.mk 5 n s m kid) := by
 intro a c w hk
 show Calls Tryz.prog 102 #[.agg #[.int .i64 5, .int .i64 n, .string s, .slice a m c]] w _
 have hm : m ≤ 9223372036854775807 := by have := hk.many; unfold maxLen at this; exact this
 have HSZ : Hid (s.size ≤ maxLen) := Lib.hid hk.name
 have HK := Lib.hid hk
 have HM := Lib.hid (err_mk 5 n s m kid)
 have HIH := Lib.hid ih
 clear hk ih
 generalize (Ex.mk 5 n s m kid).err = z at *
 have HB0 := Lib.hid (kbelow_box w (.cells #[.int .i64 5, .int .i64 n, .string s, .slice a m c] 71))
 have HX0 := Lib.hid (XBox.made w 5 n s a m c 71)
 have HB2 := Lib.hid (HB0.out.alloc HB0.out.size kidsRow)
 have HX2 := Lib.hid (HX0.out.below (kbelow_box _ kidsRow))
 unfold kidsRow at HB2 HX2
 by_cases hmk : (m : Int) = 1
 ·have hmkB : decide ((m : Int) = 1) = true := decide_eq_true hmk
  have hmkE : ((m : Int) == 1) = true := by simpa using hmk
  have hmkN : ((m : Int) != 1) = false := by simpa using hmk
  have hmkD : decide (m = 1) = true := decide_eq_true (by omega)
  have HMK := Lib.hid hmk
  clear hmk
  go_enter Tryz.func102, Tryz.ntmps102
  go_wp2_with fail
  refine (isName_ref s _ (by have := HSZ.out; unfold maxLen at this; omega)).mono ?_
  rintro e w1 ⟨b, rfl, hb, hbel⟩
  have HB1 := HB2
  clear HB2
  have HB2 := Lib.hid (HB1.out.trans (hbel.mono HB1.out.size))
  have HX1 := HX2
  clear HX2
  have HX2 := Lib.hid (HX1.out.below hbel)
  clear hbel HB1 HX1 HX0 HB0
  obtain ⟨_, y0, y1, y2, y3⟩ := HX2.out
  cases b
  ·have HR : Hid (z = 1) := by unfold Hid; rw [HM.out, ownE_noname (by omega) (by rw [HMK.out]; decide) (by decide) (fun h => by have := hb.2 h; cases this)]; rfl
   clear hb
   go_wp2_with fail
   go_ret
   exact ⟨kret_int HR.out.symm, HB2.out⟩
  ·have HNUM : Hid (ownE 5 n s m = if n < 0 ∨ 0 < n then 3 else 0) := Lib.hid (ownE_num (k := 5) (n := n) (by omega) (by rw [HMK.out]; decide) (.inl ⟨by decide, hb.1 rfl⟩))
   clear hb
   by_cases c1 : n < 0
   ·have HR : Hid (z = 3) := by unfold Hid; have h := HNUM.out; rw [if_pos (.inl c1)] at h; rw [HM.out, h]; rfl
    go_wp2_with fail
    go_ret
    exact ⟨kret_int HR.out.symm, HB2.out⟩
   ·have c1B : decide (n < 0) = false := decide_eq_false c1
    by_cases c2 : 0 < n
    ·have HR : Hid (z = 3) := by unfold Hid; have h := HNUM.out; rw [if_pos (.inr c2)] at h; rw [HM.out, h]; rfl
     go_wp2_with fail
     go_ret
     exact ⟨kret_int HR.out.symm, HB2.out⟩
    ·have c2B : decide (0 < n) = false := decide_eq_false c2
     have HEK : Hid (z = firstE (fun j => (kid j).err) m) := by unfold Hid; have h := HNUM.out; rw [if_neg (by omega)] at h; rw [HM.out, h]; rfl
     clear HM HNUM
     go_wp2_with fail
     go_loopw [7] (fun i wr => ∃ j : Nat, j ≤ m ∧ i = .int .i64 j ∧ firstE (fun j => (kid j).err) j = 0 ∧ XBox wr w.heap.size 5 n s a m c ∧ Below w.heap.size w wr) (fun i _ => m - (intOf i).toNat)
     case atStart => exact ⟨0, Nat.zero_le _, rfl, rfl, HX2.out, HB2.out⟩
     case round =>
      obtain ⟨j, hj, rfl, hf, hx, hb⟩ := hrel
      have HF := Lib.hid hf
      have HB := Lib.hid hb
      have HX := Lib.hid hx
      clear hf hb hx
      obtain ⟨_, y0, y1, y2, y3⟩ := HX.out
      by_cases hlt : j < m
      ·have hlt' : (j : Int) < (m : Int) := by omega
       obtain ⟨b, off, rfl, hcell⟩ := HK.out.open (show 0 < m by omega)
       obtain ⟨aj, cj, ⟨x0, x1, x2, x3⟩, hkj⟩ := hcell wr HB.out j hlt
       have HKJ := Lib.hid hkj
       clear hcell hkj
       have x0' : wr.cell? ⟨b, off + j * 4, none⟩ = some (.int .i64 (kid j).k) := x0
       have x1' : wr.cell? ⟨b, off + j * 4 + 1, none⟩ = some (.int .i64 (kid j).n) := x1
       have x2' : wr.cell? ⟨b, off + j * 4 + 2, none⟩ = some (.string (kid j).s) := x2
       have x3' : wr.cell? ⟨b, off + j * 4 + 3, none⟩ = some (.slice aj (kid j).m cj) := x3
       clear x0 x1 x2 x3
       go_wp2_with fail
       refine (HIH.out j aj cj _ HKJ.out).mono ?_
       rintro e w9 ⟨rfl, hb9⟩
       have HB9 := Lib.hid (HB.out.trans (hb9.mono HB.out.size))
       have HX9 := Lib.hid (HX.out.below hb9)
       clear hb9 x0' x1' x2' x3' y0 y1 y2 y3
       by_cases hz : (kid j).err = 0
       ·have HF1 : Hid (firstE (fun j => (kid j).err) (j + 1) = 0) := by unfold Hid; rw [firstE_ok HF.out]; exact hz
        rw [hz]
        go_wp2_with fail
        go_roundw
        case rel => exact ⟨j + 1, by omega, by go_num, HF1.out, HX9.out, HB9.out⟩
        case measure => simp [intOf]; omega
       ·have hzB : decide ((kid j).err = 0) = false := decide_eq_false hz
        have hzN : ((kid j).err != 0) = true := by simpa using hz
        have HR : Hid (z = (kid j).err) := by unfold Hid; rw [HEK.out, firstE_err (f := fun j => (kid j).err) hlt HF.out hz]
        generalize (kid j).err = y at *
        go_wp2_with fail
        go_ret
        exact ⟨kret_int HR.out.symm, HB9.out⟩
      ·have hjm : j = m := by omega
       subst hjm
       have HR : Hid (z = 0) := by unfold Hid; rw [HEK.out, HF.out]
       go_wp2_with fail
       go_ret
       exact ⟨kret_int HR.out.symm, HB.out⟩
 ·have hmkB : decide ((m : Int) = 1) = false := decide_eq_false hmk
  have hmkE : ((m : Int) == 1) = false := by simpa using hmk
  have hmkN : ((m : Int) != 1) = true := by simpa using hmk
  have hmkD : decide (m = 1) = false := decide_eq_false (by omega)
  have HR : Hid (z = 1) := by unfold Hid; rw [HM.out, ownE_kids (by omega) (by rw [show kidsOf 5 = 1 by decide]; exact hmk)]; rfl
  go_enter Tryz.func102, Tryz.ntmps102
  go_wp2_with fail
  go_ret
  exact ⟨kret_int HR.out.symm, HB2.out⟩
set_option maxRecDepth 100000 in
set_option maxHeartbeats 4000000 in
theorem wrong_6 (n : Int) (s : ByteArray) (m : Nat) (kid : Nat → Ex) (ih : ∀ j, WrongIs (kid j)) : WrongIs (.mk 6 n s m kid) := by
 intro a c w hk
 show Calls Tryz.prog 102 #[.agg #[.int .i64 6, .int .i64 n, .string s, .slice a m c]] w _
 have hm : m ≤ 9223372036854775807 := by have := hk.many; unfold maxLen at this; exact this
 have HSZ : Hid (s.size ≤ maxLen) := Lib.hid hk.name
 have HK := Lib.hid hk
 have HM := Lib.hid (err_mk 6 n s m kid)
 have HIH := Lib.hid ih
 clear hk ih
 generalize (Ex.mk 6 n s m kid).err = z at *
 have HB0 := Lib.hid (kbelow_box w (.cells #[.int .i64 6, .int .i64 n, .string s, .slice a m c] 71))
 have HX0 := Lib.hid (XBox.made w 6 n s a m c 71)
 have HB2 := Lib.hid (HB0.out.alloc HB0.out.size kidsRow)
 have HX2 := Lib.hid (HX0.out.below (kbelow_box _ kidsRow))
 unfold kidsRow at HB2 HX2
 by_cases hmk : (m : Int) = 1
 ·have hmkB : decide ((m : Int) = 1) = true := decide_eq_true hmk
  have hmkE : ((m : Int) == 1) = true := by simpa using hmk
  have hmkN : ((m : Int) != 1) = false := by simpa using hmk
  have hmkD : decide (m = 1) = true := decide_eq_true (by omega)
  have HMK := Lib.hid hmk
  clear hmk
  by_cases hs0 : s.size = 0
  ·have HNUM : Hid (ownE 6 n s m = if n < 0 ∨ 0 < n then 3 else 0) := Lib.hid (ownE_num (k := 6) (n := n) (by omega) (by rw [HMK.out]; decide) (.inr ⟨by decide, hs0⟩))
   have hs : s = ByteArray.empty := ByteArray.size_eq_zero_iff.1 hs0
   subst hs
   go_enter Tryz.func102, Tryz.ntmps102
   by_cases c1 : n < 0
   ·have HR : Hid (z = 3) := by unfold Hid; have h := HNUM.out; rw [if_pos (.inl c1)] at h; rw [HM.out, h]; rfl
    go_wp2_with fail
    go_ret
    exact ⟨kret_int HR.out.symm, HB2.out⟩
   ·have c1B : decide (n < 0) = false := decide_eq_false c1
    by_cases c2 : 0 < n
    ·have HR : Hid (z = 3) := by unfold Hid; have h := HNUM.out; rw [if_pos (.inr c2)] at h; rw [HM.out, h]; rfl
     go_wp2_with fail
     go_ret
     exact ⟨kret_int HR.out.symm, HB2.out⟩
    ·have c2B : decide (0 < n) = false := decide_eq_false c2
     have HEK : Hid (z = firstE (fun j => (kid j).err) m) := by unfold Hid; have h := HNUM.out; rw [if_neg (by omega)] at h; rw [HM.out, h]; rfl
     clear HM HNUM
     go_wp2_with fail
     go_loopw [7] (fun i wr => ∃ j : Nat, j ≤ m ∧ i = .int .i64 j ∧ firstE (fun j => (kid j).err) j = 0 ∧ XBox wr w.heap.size 6 n ByteArray.empty a m c ∧ Below w.heap.size w wr) (fun i _ => m - (intOf i).toNat)
     case atStart => exact ⟨0, Nat.zero_le _, rfl, rfl, HX2.out, HB2.out⟩
     case round =>
      obtain ⟨j, hj, rfl, hf, hx, hb⟩ := hrel
      have HF := Lib.hid hf
      have HB := Lib.hid hb
      have HX := Lib.hid hx
      clear hf hb hx
      obtain ⟨_, y0, y1, y2, y3⟩ := HX.out
      by_cases hlt : j < m
      ·have hlt' : (j : Int) < (m : Int) := by omega
       obtain ⟨b, off, rfl, hcell⟩ := HK.out.open (show 0 < m by omega)
       obtain ⟨aj, cj, ⟨x0, x1, x2, x3⟩, hkj⟩ := hcell wr HB.out j hlt
       have HKJ := Lib.hid hkj
       clear hcell hkj
       have x0' : wr.cell? ⟨b, off + j * 4, none⟩ = some (.int .i64 (kid j).k) := x0
       have x1' : wr.cell? ⟨b, off + j * 4 + 1, none⟩ = some (.int .i64 (kid j).n) := x1
       have x2' : wr.cell? ⟨b, off + j * 4 + 2, none⟩ = some (.string (kid j).s) := x2
       have x3' : wr.cell? ⟨b, off + j * 4 + 3, none⟩ = some (.slice aj (kid j).m cj) := x3
       clear x0 x1 x2 x3
       go_wp2_with fail
       refine (HIH.out j aj cj _ HKJ.out).mono ?_
       rintro e w9 ⟨rfl, hb9⟩
       have HB9 := Lib.hid (HB.out.trans (hb9.mono HB.out.size))
       have HX9 := Lib.hid (HX.out.below hb9)
       clear hb9 x0' x1' x2' x3' y0 y1 y2 y3
       by_cases hz : (kid j).err = 0
       ·have HF1 : Hid (firstE (fun j => (kid j).err) (j + 1) = 0) := by unfold Hid; rw [firstE_ok HF.out]; exact hz
        rw [hz]
        go_wp2_with fail
        go_roundw
        case rel => exact ⟨j + 1, by omega, by go_num, HF1.out, HX9.out, HB9.out⟩
        case measure => simp [intOf]; omega
       ·have hzB : decide ((kid j).err = 0) = false := decide_eq_false hz
        have hzN : ((kid j).err != 0) = true := by simpa using hz
        have HR : Hid (z = (kid j).err) := by unfold Hid; rw [HEK.out, firstE_err (f := fun j => (kid j).err) hlt HF.out hz]
        generalize (kid j).err = y at *
        go_wp2_with fail
        go_ret
        exact ⟨kret_int HR.out.symm, HB9.out⟩
      ·have hjm : j = m := by omega
       subst hjm
       have HR : Hid (z = 0) := by unfold Hid; rw [HEK.out, HF.out]
       go_wp2_with fail
       go_ret
       exact ⟨kret_int HR.out.symm, HB.out⟩
  ·have hie := empty_not hs0
   have HR : Hid (z = 1) := by unfold Hid; rw [HM.out, ownE_text (by omega) (by rw [HMK.out]; decide) (by decide) hs0]; rfl
   go_enter Tryz.func102, Tryz.ntmps102
   go_wp2_with fail
   go_ret
   exact ⟨kret_int HR.out.symm, HB2.out⟩
 ·have hmkB : decide ((m : Int) = 1) = false := decide_eq_false hmk
  have hmkE : ((m : Int) == 1) = false := by simpa using hmk
  have hmkN : ((m : Int) != 1) = true := by simpa using hmk
  have hmkD : decide (m = 1) = false := decide_eq_false (by omega)
  have HR : Hid (z = 1) := by unfold Hid; rw [HM.out, ownE_kids (by omega) (by rw [show kidsOf 6 = 1 by decide]; exact hmk)]; rfl
  go_enter Tryz.func102, Tryz.ntmps102
  go_wp2_with fail
  go_ret
  exact ⟨kret_int HR.out.symm, HB2.out⟩
end Go.Proofs.YtkalfdjmklakdaaGreatDoor
