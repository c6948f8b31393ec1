/-
  Promise H2: the walks of the reference's LineAt, AmountAt and TableAt.
  Promise H2: the reference's LineAt and AmountAt only read.
  Promise H2: the walk of the reference's means, over whatever expression.
  Promise H2: the walk of the reference's BindLines; there is one answer.
-/
import Derived.Test.YtmlpedgcpffpnaaGreatDoorKD
import Derived.Lib.QuietBelow
import Derived.Test.YtmlpedgcpffpnaaGreatDoorK3
import Derived.Test.YtmlpedgcpffpnaaGreatDoorKO
namespace Go.Proofs.YtmlpedgcpffpnaaGreatDoor
open Go.RowKit
theorem eqS (a b : ByteArray) : (a.toList == b.toList) = decide (a.data = b.data) := by
 rw [ByteArray.toList_eq, ByteArray.toList_eq, Bool.eq_iff_iff]
 simp
def optI : Option Nat → Int | some v => v | none => -1
def firstN (f : Nat → ByteArray) : Nat → ByteArray → Option Nat
 | 0, _ => none
 | k + 1, s => match firstN f k s with | some v => some v | none => if (f k).data = s.data then some k else none
theorem firstN_miss {f : Nat → ByteArray} {k : Nat} {s : ByteArray} (h : firstN f k s = none) (hn : (f k).data ≠ s.data) : firstN f (k + 1) s = none := by simp [firstN, h, hn]
theorem firstN_hit {f : Nat → ByteArray} {n k : Nat} {s : ByteArray} (hk : k < n) (h : firstN f k s = none) (he : (f k).data = s.data) : firstN f n s = some k := by
 induction n with
 | zero => omega
 | succ q ih =>
   by_cases e : k = q
   ·subst e; simp [firstN, h, he]
   ·simp [firstN, ih (by omega)]
theorem firstN_some {f : Nat → ByteArray} {n : Nat} {s : ByteArray} : (firstN f n s).isSome = (lastN f n s).isSome := by
 induction n with
 | zero => rfl
 | succ q ih =>
   by_cases e : (f q).data = s.data
   ·simp only [lastN, e, if_true, firstN]
    cases firstN f q s <;> rfl
   ·simp only [lastN, firstN, if_neg e]
    rw [← ih]
    cases firstN f q s <;> rfl
theorem optI_ge (o : Option Nat) : decide (0 ≤ optI o) = o.isSome := by
 cases o
 ·rfl
 ·simp [optI]
theorem lastN_skip {f : Nat → ByteArray} {q : Nat} {s : ByteArray} (h : (f q).data ≠ s.data) : lastN f (q + 1) s = lastN f q s := by simp [lastN, h]
theorem lastN_hit {f : Nat → ByteArray} {q : Nat} {s : ByteArray} (h : (f q).data = s.data) : lastN f (q + 1) s = some q := by simp [lastN, h]
set_option maxRecDepth 100000 in
set_option maxHeartbeats 2000000 in
theorem lineAt_ref (a : Option Addr) (n cap : Nat) (l : List Ln) (s : ByteArray) (p : Nat) (w : World) (hc : CameL w a l) (hn : l.length = n) (hm : n ≤ maxLen) (hp : p ≤ n) :
 Calls Tryz.prog 29 #[.slice a n cap, .string s, .int .i64 p] w fun e w' => e = .returned (.int .i64 (optI (lastN (fun j => (lnth l j).name) p s))) ∧ Below w.heap.size w w' := by
 have hm' : n ≤ 9223372036854775807 := by unfold maxLen at hm; omega
 have HO := Lib.hid (fun h0 => hc.open hn h0)
 clear hm hc
 go_enter Tryz.func29, Tryz.ntmps29
 go_wp2_with fail
 go_loopw [7] (fun i wr => ∃ q : Nat, q ≤ p ∧ i = .int .i64 ((q : Int) - 1) ∧ lastN (fun j => (lnth l j).name) p s = lastN (fun j => (lnth l j).name) q s ∧ Below w.heap.size w wr) (fun i _ => (intOf i + 1).toNat)
 case atStart => exact ⟨p, Nat.le_refl _, by go_num, rfl, Below.refl _ _⟩
 case round =>
  obtain ⟨q, hq, rfl, hf, hb⟩ := hrel
  have HF := Lib.hid hf
  have HB := Lib.hid hb
  clear hf hb
  by_cases h0 : q = 0
  ·subst h0
   have HR : Hid (optI (lastN (fun j => (lnth l j).name) p s) = -1) := by unfold Hid; rw [HF.out]; rfl
   go_wp2_with fail
   go_ret
   exact ⟨kret_int HR.out.symm, HB.out⟩
  ·obtain ⟨r, rfl⟩ : ∃ r, q = r + 1 := ⟨q - 1, by omega⟩
   rw [show (((r + 1 : Nat) : Int) - 1) = (r : Int) by omega]
   have hr0 : (0 : Int) ≤ (r : Int) := by omega
   have hlt' : (r : Int) < (n : Int) := by omega
   obtain ⟨b, off, rfl, hcell⟩ := HO.out (by omega)
   obtain ⟨aj, cj, ⟨x0, x1, x2, x3, x4, x5⟩, _⟩ := hcell wr HB.out r (by omega)
   clear hcell
   by_cases e : (lnth l r).name.data = s.data
   ·have hE : ((lnth l r).name.toList == s.toList) = true := by rw [eqS, decide_eq_true e]
    have HR : Hid (optI (lastN (fun j => (lnth l j).name) p s) = r) := by unfold Hid; rw [HF.out, lastN_hit (f := fun j => (lnth l j).name) e]; rfl
    go_wp2_with fail
    go_ret
    exact ⟨kret_int HR.out.symm, HB.out⟩
   ·have hE : ((lnth l r).name.toList == s.toList) = false := by rw [eqS, decide_eq_false e]
    have HN : Hid (lastN (fun j => (lnth l j).name) p s = lastN (fun j => (lnth l j).name) r s) := by unfold Hid; rw [HF.out, lastN_skip (f := fun j => (lnth l j).name) e]
    go_wp2_with fail
    go_roundw
    case rel => exact ⟨r, by omega, by go_num, HN.out, HB.out⟩
    case measure => simp [intOf]
set_option maxRecDepth 100000 in
set_option maxHeartbeats 2000000 in
theorem amountAt_ref (a : Option Addr) (n cap : Nat) (l : List Am) (s : ByteArray) (w : World) (hc : CameA w a l) (hn : l.length = n) (hm : n ≤ maxLen) :
 Calls Tryz.prog 30 #[.slice a n cap, .string s] w fun e w' => e = .returned (.int .i64 (optI (firstN (fun j => (anth l j).name) n s))) ∧ Below w.heap.size w w' := by
 have hm' : n ≤ 9223372036854775807 := by unfold maxLen at hm; omega
 have HO := Lib.hid (fun h0 => hc.open hn h0)
 clear hm hc
 go_enter Tryz.func30, Tryz.ntmps30
 go_wp2_with fail
 go_loopw [5] (fun i wr => ∃ q : Nat, q ≤ n ∧ i = .int .i64 q ∧ firstN (fun j => (anth l j).name) q s = none ∧ Below w.heap.size w wr) (fun i _ => n - (intOf i).toNat)
 case atStart => exact ⟨0, Nat.zero_le _, rfl, rfl, Below.refl _ _⟩
 case round =>
  obtain ⟨q, hq, rfl, hf, hb⟩ := hrel
  have HF := Lib.hid hf
  have HB := Lib.hid hb
  clear hf hb
  by_cases hlt : q < n
  ·have hlt' : (q : Int) < (n : Int) := by omega
   obtain ⟨b, off, rfl, hcell⟩ := HO.out (by omega)
   obtain ⟨x0, x1⟩ := hcell wr HB.out q hlt
   clear hcell
   by_cases e : (anth l q).name.data = s.data
   ·have hE : ((anth l q).name.toList == s.toList) = true := by rw [eqS, decide_eq_true e]
    have HR : Hid (optI (firstN (fun j => (anth l j).name) n s) = q) := by unfold Hid; rw [firstN_hit (f := fun j => (anth l j).name) hlt HF.out e]; rfl
    go_wp2_with fail
    go_ret
    exact ⟨kret_int HR.out.symm, HB.out⟩
   ·have hE : ((anth l q).name.toList == s.toList) = false := by rw [eqS, decide_eq_false e]
    have HN : Hid (firstN (fun j => (anth l j).name) (q + 1) s = none) := firstN_miss HF.out e
    go_wp2_with fail
    go_roundw
    case rel => exact ⟨q + 1, by omega, by go_num, HN.out, HB.out⟩
    case measure => simp [intOf]; omega
  ·have hqn : q = n := by omega
   subst hqn
   have HR : Hid (optI (firstN (fun j => (anth l j).name) q s) = -1) := by unfold Hid; rw [HF.out]; rfl
   go_wp2_with fail
   go_ret
   exact ⟨kret_int HR.out.symm, HB.out⟩
set_option maxRecDepth 100000 in
set_option maxHeartbeats 2000000 in
theorem tableAt_ref (a : Option Addr) (n cap : Nat) (l : List Tb) (s : ByteArray) (w : World) (hc : CameT w a l) (hn : l.length = n) (hm : n ≤ maxLen) :
 Calls Tryz.prog 77 #[.slice a n cap, .string s] w fun e w' => e = .returned (.int .i64 (optI (firstN (fun j => (tnth l j).name) n s))) ∧ Below w.heap.size w w' := by
 have hm' : n ≤ 9223372036854775807 := by unfold maxLen at hm; omega
 have HO := Lib.hid (fun h0 => hc.open hn h0)
 clear hm hc
 go_enter Tryz.func77, Tryz.ntmps77
 go_wp2_with fail
 go_loopw [5] (fun i wr => ∃ q : Nat, q ≤ n ∧ i = .int .i64 q ∧ firstN (fun j => (tnth l j).name) q s = none ∧ Below w.heap.size w wr) (fun i _ => n - (intOf i).toNat)
 case atStart => exact ⟨0, Nat.zero_le _, rfl, rfl, Below.refl _ _⟩
 case round =>
  obtain ⟨q, hq, rfl, hf, hb⟩ := hrel
  have HF := Lib.hid hf
  have HB := Lib.hid hb
  clear hf hb
  by_cases hlt : q < n
  ·have hlt' : (q : Int) < (n : Int) := by omega
   obtain ⟨b, off, rfl, hcell⟩ := HO.out (by omega)
   obtain ⟨ax, cx, x0, x1, _⟩ := hcell wr HB.out q hlt
   clear hcell
   by_cases e : (tnth l q).name.data = s.data
   ·have hE : ((tnth l q).name.toList == s.toList) = true := by rw [eqS, decide_eq_true e]
    have HR : Hid (optI (firstN (fun j => (tnth l j).name) n s) = q) := by unfold Hid; rw [firstN_hit (f := fun j => (tnth l j).name) hlt HF.out e]; rfl
    go_wp2_with fail
    go_ret
    exact ⟨kret_int HR.out.symm, HB.out⟩
   ·have hE : ((tnth l q).name.toList == s.toList) = false := by rw [eqS, decide_eq_false e]
    have HN : Hid (firstN (fun j => (tnth l j).name) (q + 1) s = none) := firstN_miss HF.out e
    go_wp2_with fail
    go_roundw
    case rel => exact ⟨q + 1, by omega, by go_num, HN.out, HB.out⟩
    case measure => simp [intOf]; omega
  ·have hqn : q = n := by omega
   subst hqn
   have HR : Hid (optI (firstN (fun j => (tnth l j).name) q s) = -1) := by unfold Hid; rw [HF.out]; rfl
   go_wp2_with fail
   go_ret
   exact ⟨kret_int HR.out.symm, HB.out⟩
end Go.Proofs.YtmlpedgcpffpnaaGreatDoor
namespace Go.Proofs.YtmlpedgcpffpnaaGreatDoor
open Go.RowKit
set_option maxRecDepth 100000 in
set_option maxHeartbeats 2000000 in
theorem lineAt_same (a : Option Addr) (n cap : Nat) (l : List Ln) (s : ByteArray) (p : Nat) (w : World) (hc : CameL w a l) (hn : l.length = n) (hm : n ≤ maxLen) (hp : p ≤ n) :
 Calls Tryz.prog 29 #[.slice a n cap, .string s, .int .i64 p] w fun e w' => e = .returned (.int .i64 (optI (lastN (fun j => (lnth l j).name) p s))) ∧ w' = w := by
 have hm' : n ≤ 9223372036854775807 := by unfold maxLen at hm; omega
 have HO := Lib.hid (fun h0 => hc.open hn h0)
 clear hm hc
 go_enter Tryz.func29, Tryz.ntmps29
 go_wp2_with fail
 go_loop [7] (fun i => ∃ q : Nat, q ≤ p ∧ i = .int .i64 ((q : Int) - 1) ∧ lastN (fun j => (lnth l j).name) p s = lastN (fun j => (lnth l j).name) q s) (fun i => (intOf i + 1).toNat)
 case atStart => exact ⟨p, Nat.le_refl _, by go_num, rfl⟩
 case round =>
  obtain ⟨q, hq, rfl, hf⟩ := hrel
  have HF := Lib.hid hf
  clear hf
  by_cases h0 : q = 0
  ·subst h0
   have HR : Hid (optI (lastN (fun j => (lnth l j).name) p s) = -1) := by unfold Hid; rw [HF.out]; rfl
   go_wp2_with fail
   go_ret
   exact ⟨kret_int HR.out.symm, rfl⟩
  ·obtain ⟨r, rfl⟩ : ∃ r, q = r + 1 := ⟨q - 1, by omega⟩
   rw [show (((r + 1 : Nat) : Int) - 1) = (r : Int) by omega]
   have hr0 : (0 : Int) ≤ (r : Int) := by omega
   have hlt' : (r : Int) < (n : Int) := by omega
   obtain ⟨b, off, rfl, hcell⟩ := HO.out (by omega)
   obtain ⟨aj, cj, ⟨x0, x1, x2, x3, x4, x5⟩, _⟩ := hcell w (Below.refl _ _) r (by omega)
   clear hcell
   by_cases e : (lnth l r).name.data = s.data
   ·have hE : ((lnth l r).name.toList == s.toList) = true := by rw [eqS, decide_eq_true e]
    have HR : Hid (optI (lastN (fun j => (lnth l j).name) p s) = r) := by unfold Hid; rw [HF.out, lastN_hit (f := fun j => (lnth l j).name) e]; rfl
    go_wp2_with fail
    go_ret
    exact ⟨kret_int HR.out.symm, rfl⟩
   ·have hE : ((lnth l r).name.toList == s.toList) = false := by rw [eqS, decide_eq_false e]
    have HN : Hid (lastN (fun j => (lnth l j).name) p s = lastN (fun j => (lnth l j).name) r s) := by unfold Hid; rw [HF.out, lastN_skip (f := fun j => (lnth l j).name) e]
    go_wp2_with fail
    go_round
    case rel => exact ⟨r, by omega, by go_num, HN.out⟩
    case measure => simp [intOf]
set_option maxRecDepth 100000 in
set_option maxHeartbeats 2000000 in
theorem amountAt_same (a : Option Addr) (n cap : Nat) (l : List Am) (s : ByteArray) (w : World) (hc : CameA w a l) (hn : l.length = n) (hm : n ≤ maxLen) :
 Calls Tryz.prog 30 #[.slice a n cap, .string s] w fun e w' => e = .returned (.int .i64 (optI (firstN (fun j => (anth l j).name) n s))) ∧ w' = w := by
 have hm' : n ≤ 9223372036854775807 := by unfold maxLen at hm; omega
 have HO := Lib.hid (fun h0 => hc.open hn h0)
 clear hm hc
 go_enter Tryz.func30, Tryz.ntmps30
 go_wp2_with fail
 go_loop [5] (fun i => ∃ q : Nat, q ≤ n ∧ i = .int .i64 q ∧ firstN (fun j => (anth l j).name) q s = none) (fun i => n - (intOf i).toNat)
 case atStart => exact ⟨0, Nat.zero_le _, rfl, rfl⟩
 case round =>
  obtain ⟨q, hq, rfl, hf⟩ := hrel
  have HF := Lib.hid hf
  clear hf
  by_cases hlt : q < n
  ·have hlt' : (q : Int) < (n : Int) := by omega
   obtain ⟨b, off, rfl, hcell⟩ := HO.out (by omega)
   obtain ⟨x0, x1⟩ := hcell w (Below.refl _ _) q hlt
   clear hcell
   by_cases e : (anth l q).name.data = s.data
   ·have hE : ((anth l q).name.toList == s.toList) = true := by rw [eqS, decide_eq_true e]
    have HR : Hid (optI (firstN (fun j => (anth l j).name) n s) = q) := by unfold Hid; rw [firstN_hit (f := fun j => (anth l j).name) hlt HF.out e]; rfl
    go_wp2_with fail
    go_ret
    exact ⟨kret_int HR.out.symm, rfl⟩
   ·have hE : ((anth l q).name.toList == s.toList) = false := by rw [eqS, decide_eq_false e]
    have HN : Hid (firstN (fun j => (anth l j).name) (q + 1) s = none) := firstN_miss HF.out e
    go_wp2_with fail
    go_round
    case rel => exact ⟨q + 1, by omega, by go_num, HN.out⟩
    case measure => simp [intOf]; omega
  ·have hqn : q = n := by omega
   subst hqn
   have HR : Hid (optI (firstN (fun j => (anth l j).name) q s) = -1) := by unfold Hid; rw [HF.out]; rfl
   go_wp2_with fail
   go_ret
   exact ⟨kret_int HR.out.symm, rfl⟩
end Go.Proofs.YtmlpedgcpffpnaaGreatDoor
namespace Go.Proofs.YtmlpedgcpffpnaaGreatDoor
open Go.RowKit Go.Sort
theorem vals_none {l : List Ln} {k : Kn} {p : Nat} {s : ByteArray} (h : (lastN (fun j => (lnth l j).name) p s).isSome = false) : (valsK l k p s).isSome = (firstN (fun j => (anth k.ins j).name) k.ins.length s).isSome := by
 rw [firstN_some]
 unfold valsK
 cases e : lastN (fun j => (lnth l j).name) p s
 ·rfl
 ·rw [e] at h; cases h
theorem vals_some {l : List Ln} {k : Kn} {p : Nat} {s : ByteArray} (h : (lastN (fun j => (lnth l j).name) p s).isSome = true) : (valsK l k p s).isSome = true := by
 unfold valsK
 cases e : lastN (fun j => (lnth l j).name) p s
 ·rw [e] at h; cases h
 ·rfl
set_option maxRecDepth 100000 in
set_option maxHeartbeats 8000000 in
theorem means_ref (a : Option Addr) (n0 cap : Nat) (l : List Ln) (p : Nat) (a1 a2 a3 : Option Addr) (n1 n2 n3 c1 c2 c3 : Nat) (k : Kn) (hn : l.length = n0) (hm0 : n0 ≤ maxLen) (hp : p ≤ n0) (h1 : k.ins.length = n1) (h2 : k.tbs.length = n2) (x : Ex) : ∀ (ax : Option Addr) (cx : Nat) (w : World), KidsAt w x ax → CameL w a l → CameK w a1 a2 a3 k →
 Calls Tryz.prog 31 #[.agg #[.int .i64 x.k, .int .i64 x.n, .string x.s, .slice ax x.m cx], .slice a n0 cap, .int .i64 p, .agg #[.slice a1 n1 c1, .slice a2 n2 c2, .slice a3 n3 c3]] w fun e w' => e = .returned (.bool (x.all (knowB (valsK l k p) (linesG l) (tabsG k)))) ∧ Below w.heap.size w w' := by
 have HN := Lib.hid hn
 have HM0 := Lib.hid hm0
 have HP0 := Lib.hid hp
 have H1 := Lib.hid h1
 have H2 := Lib.hid h2
 have hn0 : n0 ≤ 9223372036854775807 := by unfold maxLen at hm0; omega
 clear hn hm0 hp h1 h2
 have HPD : Hid (∃ P, P = knowB (valsK l k p) (linesG l) (tabsG k)) := ⟨_, rfl⟩
 obtain ⟨P, hP⟩ := HPD.out
 rw [← hP]
 have HPE := Lib.hid hP
 clear HPD hP
 induction x with
 | no => intro ax cx w h; exact h.elim
 | mk kk n s m kid ih =>
   intro ax cx w hk hl hc
   show Calls Tryz.prog 31 #[.agg #[.int .i64 kk, .int .i64 n, .string s, .slice ax m cx], .slice a n0 cap, .int .i64 p, .agg #[.slice a1 n1 c1, .slice a2 n2 c2, .slice a3 n3 c3]] w _
   have hm : m ≤ 9223372036854775807 := by have := hk.many; unfold maxLen at this; exact this
   have HK := Lib.hid hk
   have HL := Lib.hid hl
   have HC := Lib.hid hc
   have HIH := Lib.hid ih
   have HM := Lib.hid (all_mk P kk n s m kid)
   clear hk hl hc ih
   generalize (Ex.mk kk n s m kid).all P = z at *
   have HB0 := Lib.hid (kbelow_box w (.cells #[.int .i64 kk, .int .i64 n, .string s, .slice ax m cx] 50))
   have HX0 := Lib.hid (XBox.made w kk n s ax m cx 50)
   have HB2 := Lib.hid (HB0.out.alloc HB0.out.size (.cells #[.slice a1 n1 c1, .slice a2 n2 c2, .slice a3 n3 c3] 26))
   have HX2 := Lib.hid (HX0.out.below (kbelow_box _ (.cells #[.slice a1 n1 c1, .slice a2 n2 c2, .slice a3 n3 c3] 26)))
   have HK2 : Hid (KAt ((w.alloc (.cells #[.int .i64 kk, .int .i64 n, .string s, .slice ax m cx] 50)).alloc (.cells #[.slice a1 n1 c1, .slice a2 n2 c2, .slice a3 n3 c3] 26)) (w.heap.size + 1) (.slice a1 n1 c1) (.slice a2 n2 c2) (.slice a3 n3 c3)) := by
    refine ⟨?_, ?_, ?_, ?_⟩ <;> simp
   clear HB0 HX0
   go_enter Tryz.func31, Tryz.ntmps31
   by_cases hk2 : kk = 2
   ·have HPK : Hid (P kk s = (valsK l k p s).isSome) := by unfold Hid; rw [HPE.out, hk2]; rfl
    subst hk2
    go_wp2_with fail
    refine (lineAt_ref a n0 cap l s p _ (HL.out.below HB2.out) HN.out HM0.out HP0.out).mono ?_
    rintro e w1 ⟨rfl, hb1⟩
    have HB1 := HB2
    have HX1 := HX2
    have HK1 := HK2
    clear HB2 HX2 HK2
    have HB2 := Lib.hid (HB1.out.trans (hb1.mono HB1.out.size))
    have HX2 := Lib.hid (HX1.out.below hb1)
    have HK2 := Lib.hid (KAt.below HK1.out hb1)
    clear hb1 HB1 HX1 HK1
    obtain ⟨_, v0, v1, v2, v3⟩ := HX2.out
    obtain ⟨_, t0, t1, t2⟩ := HK2.out
    have hge := optI_ge (lastN (fun j => (lnth l j).name) p s)
    cases ho : (lastN (fun j => (lnth l j).name) p s).isSome
    ·rw [ho] at hge
     have HV : Hid (P 2 s = (firstN (fun j => (anth k.ins j).name) n1 s).isSome) := by unfold Hid; rw [HPK.out, vals_none ho, H1.out]
     clear HPK ho
     generalize optI (lastN (fun j => (lnth l j).name) p s) = r at *
     go_wp2_with fail
     refine (amountAt_ref a1 n1 c1 k.ins s _ (HC.out.1.below HB2.out) H1.out (by have := HC.out.2.2.2.2.2.1; have := H1.out; omega)).mono ?_
     rintro e w1 ⟨rfl, hb1⟩
     have HB1 := HB2
     have HX1 := HX2
     have HK1 := HK2
     clear HB2 HX2 HK2
     have HB2 := Lib.hid (HB1.out.trans (hb1.mono HB1.out.size))
     have HX2 := Lib.hid (HX1.out.below hb1)
     have HK2 := Lib.hid (KAt.below HK1.out hb1)
     clear hb1 HB1 HX1 HK1
     obtain ⟨_, v0, v1, v2, v3⟩ := HX2.out
     obtain ⟨_, t0, t1, t2⟩ := HK2.out
     have hge2 := optI_ge (firstN (fun j => (anth k.ins j).name) n1 s)
     cases hq : (firstN (fun j => (anth k.ins j).name) n1 s).isSome
     ·rw [hq] at hge2
      have HP : Hid (P 2 s = false) := by unfold Hid; rw [HV.out, hq]
      clear HV hq
      generalize optI (firstN (fun j => (anth k.ins j).name) n1 s) = r2 at *
      obtain ⟨kk, hkk⟩ : ∃ kk : Int, kk = 2 := ⟨_, rfl⟩
      rw [← hkk] at HX2 HM HP
      go_wp2_with fail
      go_loopw [9, 10] (fun ov i wr => ∃ (j : Nat) (bk : Bool), j ≤ m ∧ i = .int .i64 j ∧ ov = .bool bk ∧ (false && allN (fun j => (kid j).all P) j) = bk ∧ XBox wr w.heap.size kk n s ax m cx ∧ KAt wr (w.heap.size + 1) (.slice a1 n1 c1) (.slice a2 n2 c2) (.slice a3 n3 c3) ∧ Below w.heap.size w wr) (fun _ i _ => m - (intOf i).toNat)
      case atStart => exact ⟨0, false, Nat.zero_le _, rfl, rfl, rfl, HX2.out, HK2.out, HB2.out⟩
      case round =>
       obtain ⟨j, bk, hj, rfl, rfl, hf, hx, hkk, hb⟩ := hrel
       have HF := Lib.hid hf
       have HX := Lib.hid hx
       have HKK := Lib.hid hkk
       have HB := Lib.hid hb
       clear hf hx hkk hb
       obtain ⟨_, v0, v1, v2, v3⟩ := HX.out
       obtain ⟨_, t0, t1, t2⟩ := HKK.out
       by_cases hlt : j < m
       ·have hlt' : (j : Int) < (m : Int) := by omega
        obtain ⟨b, off, rfl, hcell⟩ := HK.out.open (show 0 < m by omega)
        obtain ⟨aj, cj, ⟨x0, x1, x2, x3⟩, hkj⟩ := hcell wr HB.out j hlt
        have HKJ := Lib.hid hkj
        clear hcell hkj
        have x0' : wr.cell? ⟨b, off + j * 4, none⟩ = some (.int .i64 (kid j).k) := x0
        have x1' : wr.cell? ⟨b, off + j * 4 + 1, none⟩ = some (.int .i64 (kid j).n) := x1
        have x2' : wr.cell? ⟨b, off + j * 4 + 2, none⟩ = some (.string (kid j).s) := x2
        have x3' : wr.cell? ⟨b, off + j * 4 + 3, none⟩ = some (.slice aj (kid j).m cj) := x3
        clear x0 x1 x2 x3
        have z0 := cell_regrown x0'
        have z1 := cell_regrown x1'
        have z2 := cell_regrown x2'
        have z3 := cell_regrown x3'
        have z4 := cell_regrown v3
        have z5 := cell_regrown t0
        have z6 := cell_regrown t1
        have z7 := cell_regrown t2
        cases bk
        ·have HF1 : Hid ((false && allN (fun j => (kid j).all P) (j + 1)) = false) := by
          have h := HF.out
          unfold Hid
          simp only [allN]
          rw [← Bool.and_assoc, h]
          rfl
         clear z0 z1 z2 z3 z4 z5 z6 z7
         go_wp2_with fail
         go_quiet (fail)
         go_wp2_with fail
         go_roundw
         case rel => exact ⟨j + 1, false, by omega, by go_num, rfl, HF1.out, HX.out.below (kbelow_dN (Below.refl _ _) _), HKK.out.below (kbelow_dN (Below.refl _ _) _), kbelow_dN HB.out _⟩
         case measure => simp [intOf]; omega
        ·have HF1 : Hid ((false && allN (fun j => (kid j).all P) (j + 1)) = (kid j).all P) := by
          have h := HF.out
          unfold Hid
          simp only [allN]
          rw [← Bool.and_assoc, h]
          rfl
         go_wp2_with fail
         refine wp_region_quiet_below (by kernel_rfl) (by kernel_rfl) ?_
         repeat (quiet_step (exact Calls.regrown_of (HIH.out j aj cj _ (HKJ.out.below (below_regrown wr _ _)) ((HL.out.below HB.out).below (below_regrown wr _ _)) ((HC.out.below HB.out).below (below_regrown wr _ _)))))
         refine wpQuiet_nil ?_
         intro _ hw'
         obtain ⟨⟨dq, osq⟩, hw''⟩ := hw'
         subst hw''
         generalize (kid j).all P = y at *
         go_wp2_with fail
         go_roundw
         case rel => exact ⟨j + 1, y, by omega, by go_num, rfl, HF1.out, HX.out.below (below_regrown wr dq osq), HKK.out.below (below_regrown wr dq osq), HB.out.trans ((below_regrown wr dq osq).mono HB.out.size)⟩
         case measure => simp [intOf]; omega
       ·have hjm : j = m := by omega
        subst hjm
        have HR : Hid (z = bk) := by unfold Hid; rw [HM.out, HP.out, HF.out]
        go_wp2_with fail
        go_ret
        exact ⟨kret_bool HR.out.symm, HB.out⟩
     ·rw [hq] at hge2
      have HP : Hid (P 2 s = true) := by unfold Hid; rw [HV.out, hq]
      clear HV hq
      generalize optI (firstN (fun j => (anth k.ins j).name) n1 s) = r2 at *
      obtain ⟨kk, hkk⟩ : ∃ kk : Int, kk = 2 := ⟨_, rfl⟩
      rw [← hkk] at HX2 HM HP
      go_wp2_with fail
      go_loopw [9, 10] (fun ov i wr => ∃ (j : Nat) (bk : Bool), j ≤ m ∧ i = .int .i64 j ∧ ov = .bool bk ∧ (true && allN (fun j => (kid j).all P) j) = bk ∧ XBox wr w.heap.size kk n s ax m cx ∧ KAt wr (w.heap.size + 1) (.slice a1 n1 c1) (.slice a2 n2 c2) (.slice a3 n3 c3) ∧ Below w.heap.size w wr) (fun _ i _ => m - (intOf i).toNat)
      case atStart => exact ⟨0, true, Nat.zero_le _, rfl, rfl, rfl, HX2.out, HK2.out, HB2.out⟩
      case round =>
       obtain ⟨j, bk, hj, rfl, rfl, hf, hx, hkk, hb⟩ := hrel
       have HF := Lib.hid hf
       have HX := Lib.hid hx
       have HKK := Lib.hid hkk
       have HB := Lib.hid hb
       clear hf hx hkk hb
       obtain ⟨_, v0, v1, v2, v3⟩ := HX.out
       obtain ⟨_, t0, t1, t2⟩ := HKK.out
       by_cases hlt : j < m
       ·have hlt' : (j : Int) < (m : Int) := by omega
        obtain ⟨b, off, rfl, hcell⟩ := HK.out.open (show 0 < m by omega)
        obtain ⟨aj, cj, ⟨x0, x1, x2, x3⟩, hkj⟩ := hcell wr HB.out j hlt
        have HKJ := Lib.hid hkj
        clear hcell hkj
        have x0' : wr.cell? ⟨b, off + j * 4, none⟩ = some (.int .i64 (kid j).k) := x0
        have x1' : wr.cell? ⟨b, off + j * 4 + 1, none⟩ = some (.int .i64 (kid j).n) := x1
        have x2' : wr.cell? ⟨b, off + j * 4 + 2, none⟩ = some (.string (kid j).s) := x2
        have x3' : wr.cell? ⟨b, off + j * 4 + 3, none⟩ = some (.slice aj (kid j).m cj) := x3
        clear x0 x1 x2 x3
        have z0 := cell_regrown x0'
        have z1 := cell_regrown x1'
        have z2 := cell_regrown x2'
        have z3 := cell_regrown x3'
        have z4 := cell_regrown v3
        have z5 := cell_regrown t0
        have z6 := cell_regrown t1
        have z7 := cell_regrown t2
        cases bk
        ·have HF1 : Hid ((true && allN (fun j => (kid j).all P) (j + 1)) = false) := by
          have h := HF.out
          unfold Hid
          simp only [allN]
          rw [← Bool.and_assoc, h]
          rfl
         clear z0 z1 z2 z3 z4 z5 z6 z7
         go_wp2_with fail
         go_quiet (fail)
         go_wp2_with fail
         go_roundw
         case rel => exact ⟨j + 1, false, by omega, by go_num, rfl, HF1.out, HX.out.below (kbelow_dN (Below.refl _ _) _), HKK.out.below (kbelow_dN (Below.refl _ _) _), kbelow_dN HB.out _⟩
         case measure => simp [intOf]; omega
        ·have HF1 : Hid ((true && allN (fun j => (kid j).all P) (j + 1)) = (kid j).all P) := by
          have h := HF.out
          unfold Hid
          simp only [allN]
          rw [← Bool.and_assoc, h]
          rfl
         go_wp2_with fail
         refine wp_region_quiet_below (by kernel_rfl) (by kernel_rfl) ?_
         repeat (quiet_step (exact Calls.regrown_of (HIH.out j aj cj _ (HKJ.out.below (below_regrown wr _ _)) ((HL.out.below HB.out).below (below_regrown wr _ _)) ((HC.out.below HB.out).below (below_regrown wr _ _)))))
         refine wpQuiet_nil ?_
         intro _ hw'
         obtain ⟨⟨dq, osq⟩, hw''⟩ := hw'
         subst hw''
         generalize (kid j).all P = y at *
         go_wp2_with fail
         go_roundw
         case rel => exact ⟨j + 1, y, by omega, by go_num, rfl, HF1.out, HX.out.below (below_regrown wr dq osq), HKK.out.below (below_regrown wr dq osq), HB.out.trans ((below_regrown wr dq osq).mono HB.out.size)⟩
         case measure => simp [intOf]; omega
       ·have hjm : j = m := by omega
        subst hjm
        have HR : Hid (z = bk) := by unfold Hid; rw [HM.out, HP.out, HF.out]
        go_wp2_with fail
        go_ret
        exact ⟨kret_bool HR.out.symm, HB.out⟩
    ·rw [ho] at hge
     have HP : Hid (P 2 s = true) := by unfold Hid; rw [HPK.out, vals_some ho]
     clear HPK ho
     generalize optI (lastN (fun j => (lnth l j).name) p s) = r at *
     obtain ⟨kk, hkk⟩ : ∃ kk : Int, kk = 2 := ⟨_, rfl⟩
     rw [← hkk] at HX2 HM HP
     go_wp2_with fail
     go_loopw [9, 10] (fun ov i wr => ∃ (j : Nat) (bk : Bool), j ≤ m ∧ i = .int .i64 j ∧ ov = .bool bk ∧ (true && allN (fun j => (kid j).all P) j) = bk ∧ XBox wr w.heap.size kk n s ax m cx ∧ KAt wr (w.heap.size + 1) (.slice a1 n1 c1) (.slice a2 n2 c2) (.slice a3 n3 c3) ∧ Below w.heap.size w wr) (fun _ i _ => m - (intOf i).toNat)
     case atStart => exact ⟨0, true, Nat.zero_le _, rfl, rfl, rfl, HX2.out, HK2.out, HB2.out⟩
     case round =>
      obtain ⟨j, bk, hj, rfl, rfl, hf, hx, hkk, hb⟩ := hrel
      have HF := Lib.hid hf
      have HX := Lib.hid hx
      have HKK := Lib.hid hkk
      have HB := Lib.hid hb
      clear hf hx hkk hb
      obtain ⟨_, v0, v1, v2, v3⟩ := HX.out
      obtain ⟨_, t0, t1, t2⟩ := HKK.out
      by_cases hlt : j < m
      ·have hlt' : (j : Int) < (m : Int) := by omega
       obtain ⟨b, off, rfl, hcell⟩ := HK.out.open (show 0 < m by omega)
       obtain ⟨aj, cj, ⟨x0, x1, x2, x3⟩, hkj⟩ := hcell wr HB.out j hlt
       have HKJ := Lib.hid hkj
       clear hcell hkj
       have x0' : wr.cell? ⟨b, off + j * 4, none⟩ = some (.int .i64 (kid j).k) := x0
       have x1' : wr.cell? ⟨b, off + j * 4 + 1, none⟩ = some (.int .i64 (kid j).n) := x1
       have x2' : wr.cell? ⟨b, off + j * 4 + 2, none⟩ = some (.string (kid j).s) := x2
       have x3' : wr.cell? ⟨b, off + j * 4 + 3, none⟩ = some (.slice aj (kid j).m cj) := x3
       clear x0 x1 x2 x3
       have z0 := cell_regrown x0'
       have z1 := cell_regrown x1'
       have z2 := cell_regrown x2'
       have z3 := cell_regrown x3'
       have z4 := cell_regrown v3
       have z5 := cell_regrown t0
       have z6 := cell_regrown t1
       have z7 := cell_regrown t2
       cases bk
       ·have HF1 : Hid ((true && allN (fun j => (kid j).all P) (j + 1)) = false) := by
         have h := HF.out
         unfold Hid
         simp only [allN]
         rw [← Bool.and_assoc, h]
         rfl
        clear z0 z1 z2 z3 z4 z5 z6 z7
        go_wp2_with fail
        go_quiet (fail)
        go_wp2_with fail
        go_roundw
        case rel => exact ⟨j + 1, false, by omega, by go_num, rfl, HF1.out, HX.out.below (kbelow_dN (Below.refl _ _) _), HKK.out.below (kbelow_dN (Below.refl _ _) _), kbelow_dN HB.out _⟩
        case measure => simp [intOf]; omega
       ·have HF1 : Hid ((true && allN (fun j => (kid j).all P) (j + 1)) = (kid j).all P) := by
         have h := HF.out
         unfold Hid
         simp only [allN]
         rw [← Bool.and_assoc, h]
         rfl
        go_wp2_with fail
        refine wp_region_quiet_below (by kernel_rfl) (by kernel_rfl) ?_
        repeat (quiet_step (exact Calls.regrown_of (HIH.out j aj cj _ (HKJ.out.below (below_regrown wr _ _)) ((HL.out.below HB.out).below (below_regrown wr _ _)) ((HC.out.below HB.out).below (below_regrown wr _ _)))))
        refine wpQuiet_nil ?_
        intro _ hw'
        obtain ⟨⟨dq, osq⟩, hw''⟩ := hw'
        subst hw''
        generalize (kid j).all P = y at *
        go_wp2_with fail
        go_roundw
        case rel => exact ⟨j + 1, y, by omega, by go_num, rfl, HF1.out, HX.out.below (below_regrown wr dq osq), HKK.out.below (below_regrown wr dq osq), HB.out.trans ((below_regrown wr dq osq).mono HB.out.size)⟩
        case measure => simp [intOf]; omega
      ·have hjm : j = m := by omega
       subst hjm
       have HR : Hid (z = bk) := by unfold Hid; rw [HM.out, HP.out, HF.out]
       go_wp2_with fail
       go_ret
       exact ⟨kret_bool HR.out.symm, HB.out⟩
   ·have hk2B : decide (kk = 2) = false := decide_eq_false hk2
    have hk2E : (kk == 2) = false := by simpa using hk2
    by_cases hk3 : kk = 3
    ·have HPK : Hid (P kk s = (linesG l s).isSome) := by unfold Hid; rw [HPE.out, hk3]; rfl
     clear hk2 hk2B hk2E
     subst hk3
     go_wp2_with fail
     refine (lineAt_ref a n0 cap l s n0 _ (HL.out.below HB2.out) HN.out HM0.out (Nat.le_refl _)).mono ?_
     rintro e w1 ⟨rfl, hb1⟩
     have HB1 := HB2
     have HX1 := HX2
     have HK1 := HK2
     clear HB2 HX2 HK2
     have HB2 := Lib.hid (HB1.out.trans (hb1.mono HB1.out.size))
     have HX2 := Lib.hid (HX1.out.below hb1)
     have HK2 := Lib.hid (KAt.below HK1.out hb1)
     clear hb1 HB1 HX1 HK1
     obtain ⟨_, v0, v1, v2, v3⟩ := HX2.out
     obtain ⟨_, t0, t1, t2⟩ := HK2.out
     have hge := optI_ge (lastN (fun j => (lnth l j).name) n0 s)
     have HV : Hid (P 3 s = (lastN (fun j => (lnth l j).name) n0 s).isSome) := by unfold Hid; rw [HPK.out]; unfold linesG; rw [HN.out]
     clear HPK
     cases ho : (lastN (fun j => (lnth l j).name) n0 s).isSome
     ·rw [ho] at hge
      have HP : Hid (P 3 s = false) := by unfold Hid; rw [HV.out, ho]
      clear HV ho
      generalize optI (lastN (fun j => (lnth l j).name) n0 s) = r at *
      obtain ⟨kk, hkk⟩ : ∃ kk : Int, kk = 3 := ⟨_, rfl⟩
      rw [← hkk] at HX2 HM HP
      go_wp2_with fail
      go_loopw [9, 10] (fun ov i wr => ∃ (j : Nat) (bk : Bool), j ≤ m ∧ i = .int .i64 j ∧ ov = .bool bk ∧ (false && allN (fun j => (kid j).all P) j) = bk ∧ XBox wr w.heap.size kk n s ax m cx ∧ KAt wr (w.heap.size + 1) (.slice a1 n1 c1) (.slice a2 n2 c2) (.slice a3 n3 c3) ∧ Below w.heap.size w wr) (fun _ i _ => m - (intOf i).toNat)
      case atStart => exact ⟨0, false, Nat.zero_le _, rfl, rfl, rfl, HX2.out, HK2.out, HB2.out⟩
      case round =>
       obtain ⟨j, bk, hj, rfl, rfl, hf, hx, hkk, hb⟩ := hrel
       have HF := Lib.hid hf
       have HX := Lib.hid hx
       have HKK := Lib.hid hkk
       have HB := Lib.hid hb
       clear hf hx hkk hb
       obtain ⟨_, v0, v1, v2, v3⟩ := HX.out
       obtain ⟨_, t0, t1, t2⟩ := HKK.out
       by_cases hlt : j < m
       ·have hlt' : (j : Int) < (m : Int) := by omega
        obtain ⟨b, off, rfl, hcell⟩ := HK.out.open (show 0 < m by omega)
        obtain ⟨aj, cj, ⟨x0, x1, x2, x3⟩, hkj⟩ := hcell wr HB.out j hlt
        have HKJ := Lib.hid hkj
        clear hcell hkj
        have x0' : wr.cell? ⟨b, off + j * 4, none⟩ = some (.int .i64 (kid j).k) := x0
        have x1' : wr.cell? ⟨b, off + j * 4 + 1, none⟩ = some (.int .i64 (kid j).n) := x1
        have x2' : wr.cell? ⟨b, off + j * 4 + 2, none⟩ = some (.string (kid j).s) := x2
        have x3' : wr.cell? ⟨b, off + j * 4 + 3, none⟩ = some (.slice aj (kid j).m cj) := x3
        clear x0 x1 x2 x3
        have z0 := cell_regrown x0'
        have z1 := cell_regrown x1'
        have z2 := cell_regrown x2'
        have z3 := cell_regrown x3'
        have z4 := cell_regrown v3
        have z5 := cell_regrown t0
        have z6 := cell_regrown t1
        have z7 := cell_regrown t2
        cases bk
        ·have HF1 : Hid ((false && allN (fun j => (kid j).all P) (j + 1)) = false) := by
          have h := HF.out
          unfold Hid
          simp only [allN]
          rw [← Bool.and_assoc, h]
          rfl
         clear z0 z1 z2 z3 z4 z5 z6 z7
         go_wp2_with fail
         go_quiet (fail)
         go_wp2_with fail
         go_roundw
         case rel => exact ⟨j + 1, false, by omega, by go_num, rfl, HF1.out, HX.out.below (kbelow_dN (Below.refl _ _) _), HKK.out.below (kbelow_dN (Below.refl _ _) _), kbelow_dN HB.out _⟩
         case measure => simp [intOf]; omega
        ·have HF1 : Hid ((false && allN (fun j => (kid j).all P) (j + 1)) = (kid j).all P) := by
          have h := HF.out
          unfold Hid
          simp only [allN]
          rw [← Bool.and_assoc, h]
          rfl
         go_wp2_with fail
         refine wp_region_quiet_below (by kernel_rfl) (by kernel_rfl) ?_
         repeat (quiet_step (exact Calls.regrown_of (HIH.out j aj cj _ (HKJ.out.below (below_regrown wr _ _)) ((HL.out.below HB.out).below (below_regrown wr _ _)) ((HC.out.below HB.out).below (below_regrown wr _ _)))))
         refine wpQuiet_nil ?_
         intro _ hw'
         obtain ⟨⟨dq, osq⟩, hw''⟩ := hw'
         subst hw''
         generalize (kid j).all P = y at *
         go_wp2_with fail
         go_roundw
         case rel => exact ⟨j + 1, y, by omega, by go_num, rfl, HF1.out, HX.out.below (below_regrown wr dq osq), HKK.out.below (below_regrown wr dq osq), HB.out.trans ((below_regrown wr dq osq).mono HB.out.size)⟩
         case measure => simp [intOf]; omega
       ·have hjm : j = m := by omega
        subst hjm
        have HR : Hid (z = bk) := by unfold Hid; rw [HM.out, HP.out, HF.out]
        go_wp2_with fail
        go_ret
        exact ⟨kret_bool HR.out.symm, HB.out⟩
     ·rw [ho] at hge
      have HP : Hid (P 3 s = true) := by unfold Hid; rw [HV.out, ho]
      clear HV ho
      generalize optI (lastN (fun j => (lnth l j).name) n0 s) = r at *
      obtain ⟨kk, hkk⟩ : ∃ kk : Int, kk = 3 := ⟨_, rfl⟩
      rw [← hkk] at HX2 HM HP
      go_wp2_with fail
      go_loopw [9, 10] (fun ov i wr => ∃ (j : Nat) (bk : Bool), j ≤ m ∧ i = .int .i64 j ∧ ov = .bool bk ∧ (true && allN (fun j => (kid j).all P) j) = bk ∧ XBox wr w.heap.size kk n s ax m cx ∧ KAt wr (w.heap.size + 1) (.slice a1 n1 c1) (.slice a2 n2 c2) (.slice a3 n3 c3) ∧ Below w.heap.size w wr) (fun _ i _ => m - (intOf i).toNat)
      case atStart => exact ⟨0, true, Nat.zero_le _, rfl, rfl, rfl, HX2.out, HK2.out, HB2.out⟩
      case round =>
       obtain ⟨j, bk, hj, rfl, rfl, hf, hx, hkk, hb⟩ := hrel
       have HF := Lib.hid hf
       have HX := Lib.hid hx
       have HKK := Lib.hid hkk
       have HB := Lib.hid hb
       clear hf hx hkk hb
       obtain ⟨_, v0, v1, v2, v3⟩ := HX.out
       obtain ⟨_, t0, t1, t2⟩ := HKK.out
       by_cases hlt : j < m
       ·have hlt' : (j : Int) < (m : Int) := by omega
        obtain ⟨b, off, rfl, hcell⟩ := HK.out.open (show 0 < m by omega)
        obtain ⟨aj, cj, ⟨x0, x1, x2, x3⟩, hkj⟩ := hcell wr HB.out j hlt
        have HKJ := Lib.hid hkj
        clear hcell hkj
        have x0' : wr.cell? ⟨b, off + j * 4, none⟩ = some (.int .i64 (kid j).k) := x0
        have x1' : wr.cell? ⟨b, off + j * 4 + 1, none⟩ = some (.int .i64 (kid j).n) := x1
        have x2' : wr.cell? ⟨b, off + j * 4 + 2, none⟩ = some (.string (kid j).s) := x2
        have x3' : wr.cell? ⟨b, off + j * 4 + 3, none⟩ = some (.slice aj (kid j).m cj) := x3
        clear x0 x1 x2 x3
        have z0 := cell_regrown x0'
        have z1 := cell_regrown x1'
        have z2 := cell_regrown x2'
        have z3 := cell_regrown x3'
        have z4 := cell_regrown v3
        have z5 := cell_regrown t0
        have z6 := cell_regrown t1
        have z7 := cell_regrown t2
        cases bk
        ·have HF1 : Hid ((true && allN (fun j => (kid j).all P) (j + 1)) = false) := by
          have h := HF.out
          unfold Hid
          simp only [allN]
          rw [← Bool.and_assoc, h]
          rfl
         clear z0 z1 z2 z3 z4 z5 z6 z7
         go_wp2_with fail
         go_quiet (fail)
         go_wp2_with fail
         go_roundw
         case rel => exact ⟨j + 1, false, by omega, by go_num, rfl, HF1.out, HX.out.below (kbelow_dN (Below.refl _ _) _), HKK.out.below (kbelow_dN (Below.refl _ _) _), kbelow_dN HB.out _⟩
         case measure => simp [intOf]; omega
        ·have HF1 : Hid ((true && allN (fun j => (kid j).all P) (j + 1)) = (kid j).all P) := by
          have h := HF.out
          unfold Hid
          simp only [allN]
          rw [← Bool.and_assoc, h]
          rfl
         go_wp2_with fail
         refine wp_region_quiet_below (by kernel_rfl) (by kernel_rfl) ?_
         repeat (quiet_step (exact Calls.regrown_of (HIH.out j aj cj _ (HKJ.out.below (below_regrown wr _ _)) ((HL.out.below HB.out).below (below_regrown wr _ _)) ((HC.out.below HB.out).below (below_regrown wr _ _)))))
         refine wpQuiet_nil ?_
         intro _ hw'
         obtain ⟨⟨dq, osq⟩, hw''⟩ := hw'
         subst hw''
         generalize (kid j).all P = y at *
         go_wp2_with fail
         go_roundw
         case rel => exact ⟨j + 1, y, by omega, by go_num, rfl, HF1.out, HX.out.below (below_regrown wr dq osq), HKK.out.below (below_regrown wr dq osq), HB.out.trans ((below_regrown wr dq osq).mono HB.out.size)⟩
         case measure => simp [intOf]; omega
       ·have hjm : j = m := by omega
        subst hjm
        have HR : Hid (z = bk) := by unfold Hid; rw [HM.out, HP.out, HF.out]
        go_wp2_with fail
        go_ret
        exact ⟨kret_bool HR.out.symm, HB.out⟩
    ·have hk3B : decide (kk = 3) = false := decide_eq_false hk3
     have hk3E : (kk == 3) = false := by simpa using hk3
     by_cases hk5 : kk = 5
     ·have HPK : Hid (P kk s = (tabsG k s).isSome) := by unfold Hid; rw [HPE.out, hk5]; rfl
      clear hk2 hk2B hk2E hk3 hk3B hk3E
      subst hk5
      go_wp2_with fail
      refine (tableAt_ref a2 n2 c2 k.tbs s _ (HC.out.2.1.below HB2.out) H2.out (by have := HC.out.2.2.2.2.2.2.1; have := H2.out; omega)).mono ?_
      rintro e w1 ⟨rfl, hb1⟩
      have HB1 := HB2
      have HX1 := HX2
      have HK1 := HK2
      clear HB2 HX2 HK2
      have HB2 := Lib.hid (HB1.out.trans (hb1.mono HB1.out.size))
      have HX2 := Lib.hid (HX1.out.below hb1)
      have HK2 := Lib.hid (KAt.below HK1.out hb1)
      clear hb1 HB1 HX1 HK1
      obtain ⟨_, v0, v1, v2, v3⟩ := HX2.out
      obtain ⟨_, t0, t1, t2⟩ := HK2.out
      have hge := optI_ge (firstN (fun j => (tnth k.tbs j).name) n2 s)
      have HV : Hid (P 5 s = (firstN (fun j => (tnth k.tbs j).name) n2 s).isSome) := by unfold Hid; rw [HPK.out, firstN_some]; unfold tabsG; rw [H2.out]
      clear HPK
      cases ho : (firstN (fun j => (tnth k.tbs j).name) n2 s).isSome
      ·rw [ho] at hge
       have HP : Hid (P 5 s = false) := by unfold Hid; rw [HV.out, ho]
       clear HV ho
       generalize optI (firstN (fun j => (tnth k.tbs j).name) n2 s) = r at *
       obtain ⟨kk, hkk⟩ : ∃ kk : Int, kk = 5 := ⟨_, rfl⟩
       rw [← hkk] at HX2 HM HP
       go_wp2_with fail
       go_loopw [9, 10] (fun ov i wr => ∃ (j : Nat) (bk : Bool), j ≤ m ∧ i = .int .i64 j ∧ ov = .bool bk ∧ (false && allN (fun j => (kid j).all P) j) = bk ∧ XBox wr w.heap.size kk n s ax m cx ∧ KAt wr (w.heap.size + 1) (.slice a1 n1 c1) (.slice a2 n2 c2) (.slice a3 n3 c3) ∧ Below w.heap.size w wr) (fun _ i _ => m - (intOf i).toNat)
       case atStart => exact ⟨0, false, Nat.zero_le _, rfl, rfl, rfl, HX2.out, HK2.out, HB2.out⟩
       case round =>
        obtain ⟨j, bk, hj, rfl, rfl, hf, hx, hkk, hb⟩ := hrel
        have HF := Lib.hid hf
        have HX := Lib.hid hx
        have HKK := Lib.hid hkk
        have HB := Lib.hid hb
        clear hf hx hkk hb
        obtain ⟨_, v0, v1, v2, v3⟩ := HX.out
        obtain ⟨_, t0, t1, t2⟩ := HKK.out
        by_cases hlt : j < m
        ·have hlt' : (j : Int) < (m : Int) := by omega
         obtain ⟨b, off, rfl, hcell⟩ := HK.out.open (show 0 < m by omega)
         obtain ⟨aj, cj, ⟨x0, x1, x2, x3⟩, hkj⟩ := hcell wr HB.out j hlt
         have HKJ := Lib.hid hkj
         clear hcell hkj
         have x0' : wr.cell? ⟨b, off + j * 4, none⟩ = some (.int .i64 (kid j).k) := x0
         have x1' : wr.cell? ⟨b, off + j * 4 + 1, none⟩ = some (.int .i64 (kid j).n) := x1
         have x2' : wr.cell? ⟨b, off + j * 4 + 2, none⟩ = some (.string (kid j).s) := x2
         have x3' : wr.cell? ⟨b, off + j * 4 + 3, none⟩ = some (.slice aj (kid j).m cj) := x3
         clear x0 x1 x2 x3
         have z0 := cell_regrown x0'
         have z1 := cell_regrown x1'
         have z2 := cell_regrown x2'
         have z3 := cell_regrown x3'
         have z4 := cell_regrown v3
         have z5 := cell_regrown t0
         have z6 := cell_regrown t1
         have z7 := cell_regrown t2
         cases bk
         ·have HF1 : Hid ((false && allN (fun j => (kid j).all P) (j + 1)) = false) := by
           have h := HF.out
           unfold Hid
           simp only [allN]
           rw [← Bool.and_assoc, h]
           rfl
          clear z0 z1 z2 z3 z4 z5 z6 z7
          go_wp2_with fail
          go_quiet (fail)
          go_wp2_with fail
          go_roundw
          case rel => exact ⟨j + 1, false, by omega, by go_num, rfl, HF1.out, HX.out.below (kbelow_dN (Below.refl _ _) _), HKK.out.below (kbelow_dN (Below.refl _ _) _), kbelow_dN HB.out _⟩
          case measure => simp [intOf]; omega
         ·have HF1 : Hid ((false && allN (fun j => (kid j).all P) (j + 1)) = (kid j).all P) := by
           have h := HF.out
           unfold Hid
           simp only [allN]
           rw [← Bool.and_assoc, h]
           rfl
          go_wp2_with fail
          refine wp_region_quiet_below (by kernel_rfl) (by kernel_rfl) ?_
          repeat (quiet_step (exact Calls.regrown_of (HIH.out j aj cj _ (HKJ.out.below (below_regrown wr _ _)) ((HL.out.below HB.out).below (below_regrown wr _ _)) ((HC.out.below HB.out).below (below_regrown wr _ _)))))
          refine wpQuiet_nil ?_
          intro _ hw'
          obtain ⟨⟨dq, osq⟩, hw''⟩ := hw'
          subst hw''
          generalize (kid j).all P = y at *
          go_wp2_with fail
          go_roundw
          case rel => exact ⟨j + 1, y, by omega, by go_num, rfl, HF1.out, HX.out.below (below_regrown wr dq osq), HKK.out.below (below_regrown wr dq osq), HB.out.trans ((below_regrown wr dq osq).mono HB.out.size)⟩
          case measure => simp [intOf]; omega
        ·have hjm : j = m := by omega
         subst hjm
         have HR : Hid (z = bk) := by unfold Hid; rw [HM.out, HP.out, HF.out]
         go_wp2_with fail
         go_ret
         exact ⟨kret_bool HR.out.symm, HB.out⟩
      ·rw [ho] at hge
       have HP : Hid (P 5 s = true) := by unfold Hid; rw [HV.out, ho]
       clear HV ho
       generalize optI (firstN (fun j => (tnth k.tbs j).name) n2 s) = r at *
       obtain ⟨kk, hkk⟩ : ∃ kk : Int, kk = 5 := ⟨_, rfl⟩
       rw [← hkk] at HX2 HM HP
       go_wp2_with fail
       go_loopw [9, 10] (fun ov i wr => ∃ (j : Nat) (bk : Bool), j ≤ m ∧ i = .int .i64 j ∧ ov = .bool bk ∧ (true && allN (fun j => (kid j).all P) j) = bk ∧ XBox wr w.heap.size kk n s ax m cx ∧ KAt wr (w.heap.size + 1) (.slice a1 n1 c1) (.slice a2 n2 c2) (.slice a3 n3 c3) ∧ Below w.heap.size w wr) (fun _ i _ => m - (intOf i).toNat)
       case atStart => exact ⟨0, true, Nat.zero_le _, rfl, rfl, rfl, HX2.out, HK2.out, HB2.out⟩
       case round =>
        obtain ⟨j, bk, hj, rfl, rfl, hf, hx, hkk, hb⟩ := hrel
        have HF := Lib.hid hf
        have HX := Lib.hid hx
        have HKK := Lib.hid hkk
        have HB := Lib.hid hb
        clear hf hx hkk hb
        obtain ⟨_, v0, v1, v2, v3⟩ := HX.out
        obtain ⟨_, t0, t1, t2⟩ := HKK.out
        by_cases hlt : j < m
        ·have hlt' : (j : Int) < (m : Int) := by omega
         obtain ⟨b, off, rfl, hcell⟩ := HK.out.open (show 0 < m by omega)
         obtain ⟨aj, cj, ⟨x0, x1, x2, x3⟩, hkj⟩ := hcell wr HB.out j hlt
         have HKJ := Lib.hid hkj
         clear hcell hkj
         have x0' : wr.cell? ⟨b, off + j * 4, none⟩ = some (.int .i64 (kid j).k) := x0
         have x1' : wr.cell? ⟨b, off + j * 4 + 1, none⟩ = some (.int .i64 (kid j).n) := x1
         have x2' : wr.cell? ⟨b, off + j * 4 + 2, none⟩ = some (.string (kid j).s) := x2
         have x3' : wr.cell? ⟨b, off + j * 4 + 3, none⟩ = some (.slice aj (kid j).m cj) := x3
         clear x0 x1 x2 x3
         have z0 := cell_regrown x0'
         have z1 := cell_regrown x1'
         have z2 := cell_regrown x2'
         have z3 := cell_regrown x3'
         have z4 := cell_regrown v3
         have z5 := cell_regrown t0
         have z6 := cell_regrown t1
         have z7 := cell_regrown t2
         cases bk
         ·have HF1 : Hid ((true && allN (fun j => (kid j).all P) (j + 1)) = false) := by
           have h := HF.out
           unfold Hid
           simp only [allN]
           rw [← Bool.and_assoc, h]
           rfl
          clear z0 z1 z2 z3 z4 z5 z6 z7
          go_wp2_with fail
          go_quiet (fail)
          go_wp2_with fail
          go_roundw
          case rel => exact ⟨j + 1, false, by omega, by go_num, rfl, HF1.out, HX.out.below (kbelow_dN (Below.refl _ _) _), HKK.out.below (kbelow_dN (Below.refl _ _) _), kbelow_dN HB.out _⟩
          case measure => simp [intOf]; omega
         ·have HF1 : Hid ((true && allN (fun j => (kid j).all P) (j + 1)) = (kid j).all P) := by
           have h := HF.out
           unfold Hid
           simp only [allN]
           rw [← Bool.and_assoc, h]
           rfl
          go_wp2_with fail
          refine wp_region_quiet_below (by kernel_rfl) (by kernel_rfl) ?_
          repeat (quiet_step (exact Calls.regrown_of (HIH.out j aj cj _ (HKJ.out.below (below_regrown wr _ _)) ((HL.out.below HB.out).below (below_regrown wr _ _)) ((HC.out.below HB.out).below (below_regrown wr _ _)))))
          refine wpQuiet_nil ?_
          intro _ hw'
          obtain ⟨⟨dq, osq⟩, hw''⟩ := hw'
          subst hw''
          generalize (kid j).all P = y at *
          go_wp2_with fail
          go_roundw
          case rel => exact ⟨j + 1, y, by omega, by go_num, rfl, HF1.out, HX.out.below (below_regrown wr dq osq), HKK.out.below (below_regrown wr dq osq), HB.out.trans ((below_regrown wr dq osq).mono HB.out.size)⟩
          case measure => simp [intOf]; omega
        ·have hjm : j = m := by omega
         subst hjm
         have HR : Hid (z = bk) := by unfold Hid; rw [HM.out, HP.out, HF.out]
         go_wp2_with fail
         go_ret
         exact ⟨kret_bool HR.out.symm, HB.out⟩
     ·have hk5B : decide (kk = 5) = false := decide_eq_false hk5
      have hk5E : (kk == 5) = false := by simpa using hk5
      have HP : Hid (P kk s = true) := by unfold Hid; rw [HPE.out]; unfold knowB; rw [if_neg hk2, if_neg hk3, if_neg hk5]
      go_wp2_with fail
      go_loopw [9, 10] (fun ov i wr => ∃ (j : Nat) (bk : Bool), j ≤ m ∧ i = .int .i64 j ∧ ov = .bool bk ∧ (true && allN (fun j => (kid j).all P) j) = bk ∧ XBox wr w.heap.size kk n s ax m cx ∧ KAt wr (w.heap.size + 1) (.slice a1 n1 c1) (.slice a2 n2 c2) (.slice a3 n3 c3) ∧ Below w.heap.size w wr) (fun _ i _ => m - (intOf i).toNat)
      case atStart => exact ⟨0, true, Nat.zero_le _, rfl, rfl, rfl, HX2.out, HK2.out, HB2.out⟩
      case round =>
       obtain ⟨j, bk, hj, rfl, rfl, hf, hx, hkk, hb⟩ := hrel
       have HF := Lib.hid hf
       have HX := Lib.hid hx
       have HKK := Lib.hid hkk
       have HB := Lib.hid hb
       clear hf hx hkk hb
       obtain ⟨_, v0, v1, v2, v3⟩ := HX.out
       obtain ⟨_, t0, t1, t2⟩ := HKK.out
       by_cases hlt : j < m
       ·have hlt' : (j : Int) < (m : Int) := by omega
        obtain ⟨b, off, rfl, hcell⟩ := HK.out.open (show 0 < m by omega)
        obtain ⟨aj, cj, ⟨x0, x1, x2, x3⟩, hkj⟩ := hcell wr HB.out j hlt
        have HKJ := Lib.hid hkj
        clear hcell hkj
        have x0' : wr.cell? ⟨b, off + j * 4, none⟩ = some (.int .i64 (kid j).k) := x0
        have x1' : wr.cell? ⟨b, off + j * 4 + 1, none⟩ = some (.int .i64 (kid j).n) := x1
        have x2' : wr.cell? ⟨b, off + j * 4 + 2, none⟩ = some (.string (kid j).s) := x2
        have x3' : wr.cell? ⟨b, off + j * 4 + 3, none⟩ = some (.slice aj (kid j).m cj) := x3
        clear x0 x1 x2 x3
        have z0 := cell_regrown x0'
        have z1 := cell_regrown x1'
        have z2 := cell_regrown x2'
        have z3 := cell_regrown x3'
        have z4 := cell_regrown v3
        have z5 := cell_regrown t0
        have z6 := cell_regrown t1
        have z7 := cell_regrown t2
        cases bk
        ·have HF1 : Hid ((true && allN (fun j => (kid j).all P) (j + 1)) = false) := by
          have h := HF.out
          unfold Hid
          simp only [allN]
          rw [← Bool.and_assoc, h]
          rfl
         clear z0 z1 z2 z3 z4 z5 z6 z7
         go_wp2_with fail
         go_quiet (fail)
         go_wp2_with fail
         go_roundw
         case rel => exact ⟨j + 1, false, by omega, by go_num, rfl, HF1.out, HX.out.below (kbelow_dN (Below.refl _ _) _), HKK.out.below (kbelow_dN (Below.refl _ _) _), kbelow_dN HB.out _⟩
         case measure => simp [intOf]; omega
        ·have HF1 : Hid ((true && allN (fun j => (kid j).all P) (j + 1)) = (kid j).all P) := by
          have h := HF.out
          unfold Hid
          simp only [allN]
          rw [← Bool.and_assoc, h]
          rfl
         go_wp2_with fail
         refine wp_region_quiet_below (by kernel_rfl) (by kernel_rfl) ?_
         repeat (quiet_step (exact Calls.regrown_of (HIH.out j aj cj _ (HKJ.out.below (below_regrown wr _ _)) ((HL.out.below HB.out).below (below_regrown wr _ _)) ((HC.out.below HB.out).below (below_regrown wr _ _)))))
         refine wpQuiet_nil ?_
         intro _ hw'
         obtain ⟨⟨dq, osq⟩, hw''⟩ := hw'
         subst hw''
         generalize (kid j).all P = y at *
         go_wp2_with fail
         go_roundw
         case rel => exact ⟨j + 1, y, by omega, by go_num, rfl, HF1.out, HX.out.below (below_regrown wr dq osq), HKK.out.below (below_regrown wr dq osq), HB.out.trans ((below_regrown wr dq osq).mono HB.out.size)⟩
         case measure => simp [intOf]; omega
       ·have hjm : j = m := by omega
        subst hjm
        have HR : Hid (z = bk) := by unfold Hid; rw [HM.out, HP.out, HF.out]
        go_wp2_with fail
        go_ret
        exact ⟨kret_bool HR.out.symm, HB.out⟩
end Go.Proofs.YtmlpedgcpffpnaaGreatDoor
namespace Go.Proofs.YtmlpedgcpffpnaaGreatDoor
open Go.RowKit Go.Sort
theorem BindIs.unique {l : List Ln} {k : Kn} {i e i' e' : Int} (h : BindIs l k i e) (h' : BindIs l k i' e') : i = i' ∧ e = e' := by
 rcases h with ⟨a1, a2, a3⟩ | ⟨a1, a2, a3, a4⟩ | ⟨a1, a2, a3⟩ <;> rcases h' with ⟨b1, b2, b3⟩ | ⟨b1, b2, b3, b4⟩ | ⟨b1, b2, b3⟩
 ·exact ⟨by omega, by omega⟩
 ·exact absurd b1 a1
 ·exact absurd b1 a1
 ·exact absurd a1 b1
 ·exact ⟨by omega, by omega⟩
 ·exact absurd b2 a2
 ·exact absurd a1 b1
 ·exact absurd a2 b2
 ·rcases a3 with ⟨c1, c2, c3⟩ | ⟨j, c1, c2, c3, c4, c5⟩ <;> rcases b3 with ⟨d1, d2, d3⟩ | ⟨q, d1, d2, d3, d4, d5⟩
  ·exact ⟨by omega, by omega⟩
  ·exact absurd (d3.trans (c3 q d1)) d4
  ·exact absurd (c3.trans (d3 j c1)) c4
  ·have : j = q := by
    by_cases h1 : j < q
    ·exact absurd (c3.trans (d5 j h1)) c4
    ·by_cases h2 : q < j
     ·exact absurd (d3.trans (c5 q h2)) d4
     ·omega
   subst this
   exact ⟨by omega, by omega⟩
set_option maxRecDepth 100000 in
set_option maxHeartbeats 4000000 in
theorem lines_ref (a : Option Addr) (n cap : Nat) (l : List Ln) (a1 a2 a3 : Option Addr) (n1 n2 n3 c1 c2 c3 : Nat) (k : Kn) (w : World) (hl : CameL w a l) (hn : l.length = n) (hm : n ≤ maxLen) (hc : CameK w a1 a2 a3 k) (h1 : k.ins.length = n1) (h2 : k.tbs.length = n2) (h3 : k.yrs.length = n3) :
 Calls Tryz.prog 7 #[.slice a n cap, .agg #[.slice a1 n1 c1, .slice a2 n2 c2, .slice a3 n3 c3]] w fun e w' => BindRet w l k e w' := by
 have hm' : n ≤ 9223372036854775807 := by unfold maxLen at hm; omega
 have HMX := Lib.hid hm
 have HL := Lib.hid hl
 have HN := Lib.hid hn
 have HC := Lib.hid hc
 have H1 := Lib.hid h1
 have H2 := Lib.hid h2
 have H3 := Lib.hid h3
 clear hl hn hc h1 h2 h3 hm
 have HB0 := Lib.hid (kbelow_box w (.cells #[.slice a1 n1 c1, .slice a2 n2 c2, .slice a3 n3 c3] 26))
 have HK0 := Lib.hid (KAt.made w (.slice a1 n1 c1) (.slice a2 n2 c2) (.slice a3 n3 c3) 26)
 go_enter Tryz.func7, Tryz.ntmps7
 go_wp2_with fail
 refine (checkLines_ref a n cap l _ (HL.out.below HB0.out) HN.out HMX.out).mono ?_
 rintro e w1 ⟨rfl, hb1⟩
 have HB1 := Lib.hid (HB0.out.trans (hb1.mono HB0.out.size))
 have HK1 := Lib.hid (KAt.below HK0.out hb1)
 clear hb1 HK0 HB0
 obtain ⟨_, x0, x1, x2⟩ := HK1.out
 by_cases z1 : linesE l = 0
 ·have HZ1 := Lib.hid z1
  rw [z1]
  clear z1
  go_wp2_with fail
  refine (known_ref a1 a2 a3 n1 n2 n3 c1 c2 c3 k _ (HC.out.below HB1.out) H1.out H2.out H3.out).mono ?_
  rintro e w2 ⟨rfl, hb2⟩
  have HB2 := Lib.hid (HB1.out.trans (hb2.mono HB1.out.size))
  have HK2 := Lib.hid (KAt.below HK1.out hb2)
  clear hb2 HK1 HB1 x0 x1 x2
  by_cases z2 : knE k = 0
  ·have HZ2 := Lib.hid z2
   rw [z2]
   clear z2
   go_wp2_with fail
   go_loopw [7] (fun i wr => ∃ j : Nat, j ≤ n ∧ i = .int .i64 j ∧ (∀ q, q < j → lineOk l k q = 0) ∧ KAt wr w.heap.size (.slice a1 n1 c1) (.slice a2 n2 c2) (.slice a3 n3 c3) ∧ Below w.heap.size w wr) (fun i _ => n - (intOf i).toNat)
   case atStart => exact ⟨0, Nat.zero_le _, rfl, fun q hq => by omega, HK2.out, HB2.out⟩
   case round =>
    clear HK2 HB2
    obtain ⟨j, hj, rfl, hall, hkk, hb⟩ := hrel
    have HA := Lib.hid hall
    have HKK := Lib.hid hkk
    have HB := Lib.hid hb
    clear hall hkk hb
    obtain ⟨_, x0, x1, x2⟩ := HKK.out
    by_cases hlt : j < n
    ·have hlt' : (j : Int) < (n : Int) := by omega
     have HJ : Hid (j < l.length) := by have := HN.out; unfold Hid; omega
     obtain ⟨b, off, rfl, hcell⟩ := HL.out.open HN.out (by omega)
     obtain ⟨aj, cj, ⟨y0, y1, y2, y3, y4, y5⟩, _, hkj⟩ := hcell wr HB.out j hlt
     have HKJ := Lib.hid hkj
     clear hkj hcell
     have H6 : Hid ((valsK l k j (lnth l j).name).isSome = true → BindIs l k j 6) := fun hv => by
      have ho : lineOk l k j = 6 := by unfold lineOk; rw [hv]; rfl
      exact .inr (.inr ⟨HZ1.out, HZ2.out, .inr ⟨j, HJ.out, rfl, ho.symm, by omega, HA.out⟩⟩)
     have hge := optI_ge (lastN (fun j => (lnth l j).name) j (lnth l j).name)
     have hge2 := optI_ge (firstN (fun j => (anth k.ins j).name) n1 (lnth l j).name)
     cases ho : (lastN (fun j => (lnth l j).name) j (lnth l j).name).isSome
     ·rw [ho] at hge
      cases hq : (firstN (fun j => (anth k.ins j).name) n1 (lnth l j).name).isSome
      ·rw [hq] at hge2
       have HV : Hid ((valsK l k j (lnth l j).name).isSome = false) := by unfold Hid; rw [vals_none ho, H1.out, hq]
       clear ho hq
       go_wp2_with fail
       go_quiet (first
        | (go_at_call 29; exact Calls.quiet_of_same (lineAt_same _ n cap l (lnth l j).name j _ ((HL.out.below HB.out).below (kbelow_dN (Below.refl _ _) _)) HN.out HMX.out (by omega)))
        | (go_at_call 30; exact Calls.quiet_of_same (amountAt_same _ n1 c1 k.ins (lnth l j).name _ ((HC.out.1.below HB.out).below (kbelow_dN (Below.refl _ _) _)) H1.out (by have := HC.out.2.2.2.2.2.1; have := H1.out; omega))))
       go_wp2_with fail
       have HBW := Lib.hid (kbelow_dN HB.out nq)
       have HKW := Lib.hid (HKK.out.below (kbelow_dN (Below.refl wr.heap.size wr) nq))
       have HKJW := Lib.hid (HKJ.out.below (kbelow_dN (Below.refl wr.heap.size wr) nq))
       have e0 : (wr.drewN nq).cell? ⟨b, off + j * 6 + 2, none⟩ = some (.int .i64 (lnth l j).ex.k) := y2
       have e1 : (wr.drewN nq).cell? ⟨b, off + j * 6 + 3, none⟩ = some (.int .i64 (lnth l j).ex.n) := y3
       have e2 : (wr.drewN nq).cell? ⟨b, off + j * 6 + 4, none⟩ = some (.string (lnth l j).ex.s) := y4
       have e3 : (wr.drewN nq).cell? ⟨b, off + j * 6 + 5, none⟩ = some (.slice aj (lnth l j).ex.m cj) := y5
       clear y0 y1 y2 y3 y4 y5 x0 x1 x2 hge hge2 H6
       obtain ⟨_, x0, x1, x2⟩ := HKW.out
       generalize wr.drewN nq = W at *
       have z0 := cell_regrown e0
       have z1 := cell_regrown e1
       have z2 := cell_regrown e2
       have z3 := cell_regrown e3
       have z4 := cell_regrown x0
       have z5 := cell_regrown x1
       have z6 := cell_regrown x2
       refine wp_region_quiet_below (by kernel_rfl) (by kernel_rfl) ?_
       repeat (quiet_step (exact Calls.regrown_of (means_ref (some ⟨b, off, none⟩) n cap l j a1 a2 a3 n1 n2 n3 c1 c2 c3 k HN.out HMX.out (by omega) H1.out H2.out (lnth l j).ex aj cj _ (HKJW.out.below (below_regrown W _ _)) ((HL.out.below HBW.out).below (below_regrown W _ _)) ((HC.out.below HBW.out).below (below_regrown W _ _)))))
       refine wpQuiet_nil ?_
       intro _ hw'
       obtain ⟨⟨dq, osq⟩, hw''⟩ := hw'
       subst hw''
       have HB9 := Lib.hid (HBW.out.trans ((below_regrown W dq osq).mono HBW.out.size))
       have HK9 := Lib.hid (HKW.out.below (below_regrown W dq osq))
       clear z0 z1 z2 z3 z4 z5 z6 e0 e1 e2 e3 x0 x1 x2
       generalize grow (redrawn W dq) osq = W9 at *
       cases hkn : (lnth l j).ex.all (knowB (valsK l k j) (linesG l) (tabsG k))
       ·have HR : Hid (BindIs l k j 5) := by
         have ho : lineOk l k j = 5 := by unfold lineOk; rw [HV.out, hkn]; rfl
         exact .inr (.inr ⟨HZ1.out, HZ2.out, .inr ⟨j, HJ.out, rfl, ho.symm, by omega, HA.out⟩⟩)
        go_wp2_with fail
        go_ret2
        exact ⟨_, _, rfl, HR.out, HB9.out⟩
       ·have HA1 : Hid (∀ q, q < j + 1 → lineOk l k q = 0) := fun q hq => by
         by_cases e : q = j
         ·subst e; unfold lineOk; rw [HV.out, hkn]; rfl
         ·exact HA.out q (by omega)
        go_wp2_with fail
        go_roundw
        case rel => exact ⟨j + 1, by omega, by go_num, HA1.out, HK9.out, HB9.out⟩
        case measure => simp [intOf]; omega
      ·rw [hq] at hge2
       have HR := Lib.hid (H6.out (by rw [vals_none ho, H1.out, hq]))
       clear ho hq
       go_wp2_with fail
       go_quiet (first
        | (go_at_call 29; exact Calls.quiet_of_same (lineAt_same _ n cap l (lnth l j).name j _ ((HL.out.below HB.out).below (kbelow_dN (Below.refl _ _) _)) HN.out HMX.out (by omega)))
        | (go_at_call 30; exact Calls.quiet_of_same (amountAt_same _ n1 c1 k.ins (lnth l j).name _ ((HC.out.1.below HB.out).below (kbelow_dN (Below.refl _ _) _)) H1.out (by have := HC.out.2.2.2.2.2.1; have := H1.out; omega))))
       have HBW := Lib.hid (kbelow_dN HB.out nq)
       go_wp2_with fail
       go_ret2
       exact ⟨_, _, rfl, HR.out, HBW.out⟩
     ·rw [ho] at hge
      have HR := Lib.hid (H6.out (vals_some ho))
      clear ho
      go_wp2_with fail
      go_quiet (first
       | (go_at_call 29; exact Calls.quiet_of_same (lineAt_same _ n cap l (lnth l j).name j _ ((HL.out.below HB.out).below (kbelow_dN (Below.refl _ _) _)) HN.out HMX.out (by omega)))
       | (go_at_call 30; exact Calls.quiet_of_same (amountAt_same _ n1 c1 k.ins (lnth l j).name _ ((HC.out.1.below HB.out).below (kbelow_dN (Below.refl _ _) _)) H1.out (by have := HC.out.2.2.2.2.2.1; have := H1.out; omega))))
      have HBW := Lib.hid (kbelow_dN HB.out nq)
      go_wp2_with fail
      go_ret2
      exact ⟨_, _, rfl, HR.out, HBW.out⟩
    ·have hjn : j = n := by omega
     have HR : Hid (BindIs l k 0 0) := .inr (.inr ⟨HZ1.out, HZ2.out, .inl ⟨rfl, rfl, fun q hq => HA.out q (by have := HN.out; omega)⟩⟩)
     subst hjn
     go_wp2_with fail
     go_ret2
     exact ⟨_, _, rfl, HR.out, HB.out⟩
  ·have z2B : decide (knE k = 0) = false := decide_eq_false z2
   have z2N : (knE k != 0) = true := by simpa using z2
   have HR : Hid (BindIs l k 0 (knE k)) := .inr (.inl ⟨HZ1.out, z2, rfl, rfl⟩)
   generalize knE k = z at *
   go_wp2_with fail
   go_ret2
   exact ⟨_, _, rfl, HR.out, HB2.out⟩
 ·have z1B : decide (linesE l = 0) = false := decide_eq_false z1
  have z1N : (linesE l != 0) = true := by simpa using z1
  have z1E : (linesE l == 0) = false := by simpa using z1
  have HR : Hid (BindIs l k 0 (linesE l)) := .inl ⟨z1, rfl, rfl⟩
  generalize linesE l = z at *
  go_wp2_with fail
  go_ret2
  exact ⟨_, _, rfl, HR.out, HB1.out⟩
end Go.Proofs.YtmlpedgcpffpnaaGreatDoor
