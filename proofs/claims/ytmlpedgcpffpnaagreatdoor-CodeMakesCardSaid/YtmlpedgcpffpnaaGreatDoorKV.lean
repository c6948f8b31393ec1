/-
  Promise I1: what a name comes to: the walks of value's named and inYear.
  Promise I1: what an expression with one Kid makes of what that comes to: the walk of value's ofOne.
  Promise I1: what a table asks of what an expression's one Kid comes to: value's ofOne, at a table.
  Promise I1: what an expression comes to: what is said of value's comesTo, kind by kind.
  Promise I1: what an expression with two Kids comes to: the walk of value's comesTo.
  Promise I1: what an expression with one Kid comes to: the walk of value's comesTo.
  Promise I1: what an expression that chooses comes to: the walks of value's chosen and comesTo.
  Promise I1: what an expression comes to: value's comesTo, over whatever right expression.
  Promise I1: where lines are right, each name in them means a line ahead, or an input; and what is known is right.
  Promise I1: a row of ints of the call's own that is appended to inside a region that draws.
  Promise I1: what lines come to, up to the first that gives up: the walk of value.Lines' closure.
  Promise I1: what lines come to: the walk of value.Lines.
-/
import Derived.Test.YtmlpedgcpffpnaaGreatDoorKJ
import Derived.Test.YtmlpedgcpffpnaaGreatDoorKD
import Derived.Test.YtmlpedgcpffpnaaGreatDoorKC
import Derived.Deep.RegionWith
import Derived.Test.YtmlpedgcpffpnaaGreatDoorKO
import Derived.Maps.AppendAt
import Derived.Deep.RegionHeldLaw
import Derived.Lib.OwnBridge
import Derived.BigQuiet
namespace Go.Proofs.YtmlpedgcpffpnaaGreatDoor
open Go.RowKit Go.Maps Go.WideMaps
def VAt (w : World) (a : Option Addr) (vs : List Int) : Prop := vs.length = 0 ∨ ∃ b o, a = some ⟨b, o, none⟩ ∧ b < w.heap.size ∧ ∀ j, j < vs.length → w.cell? ⟨b, o + j, none⟩ = some (.int .i64 (vs.getD j 0))
theorem VAt.below {w w' : World} {a : Option Addr} {vs : List Int} (h : VAt w a vs) (hb : Below w.heap.size w w') : VAt w' a vs := by
 rcases h with h | ⟨b, o, rfl, hB, h⟩
 ·exact .inl h
 ·exact .inr ⟨b, o, rfl, Nat.lt_of_lt_of_le hB hb.size, fun j hj => (hb.cell (p := ⟨b, o + j, none⟩) hB).trans (h j hj)⟩
def ScBox (w : World) (sb : Nat) (a1 a2 a3 av : Option Addr) (n1 n2 n3 nv c1 c2 c3 cv b1 b2 b3 b4 : Nat) : Prop := sb < w.heap.size ∧ w.cell? ⟨sb, 0, none⟩ = some (.slice a1 n1 c1) ∧ w.cell? ⟨sb, 1, none⟩ = some (.slice a2 n2 c2) ∧ w.cell? ⟨sb, 2, none⟩ = some (.slice a3 n3 c3) ∧ w.cell? ⟨sb, 3, none⟩ = some (.map (some b1)) ∧ w.cell? ⟨sb, 4, none⟩ = some (.map (some b2)) ∧ w.cell? ⟨sb, 5, none⟩ = some (.map (some b3)) ∧ w.cell? ⟨sb, 6, none⟩ = some (.map (some b4)) ∧ w.cell? ⟨sb, 7, none⟩ = some (.slice av nv cv)
theorem ScBox.below {w w' : World} {sb : Nat} {a1 a2 a3 av : Option Addr} {n1 n2 n3 nv c1 c2 c3 cv b1 b2 b3 b4 : Nat} (h : ScBox w sb a1 a2 a3 av n1 n2 n3 nv c1 c2 c3 cv b1 b2 b3 b4) (hb : Below w.heap.size w w') : ScBox w' sb a1 a2 a3 av n1 n2 n3 nv c1 c2 c3 cv b1 b2 b3 b4 := by
 obtain ⟨hB, h0, h1, h2, h3, h4, h5, h6, h7⟩ := h
 exact ⟨Nat.lt_of_lt_of_le hB hb.size, (hb.cell (p := ⟨sb, 0, none⟩) hB).trans h0, (hb.cell (p := ⟨sb, 1, none⟩) hB).trans h1, (hb.cell (p := ⟨sb, 2, none⟩) hB).trans h2, (hb.cell (p := ⟨sb, 3, none⟩) hB).trans h3, (hb.cell (p := ⟨sb, 4, none⟩) hB).trans h4, (hb.cell (p := ⟨sb, 5, none⟩) hB).trans h5, (hb.cell (p := ⟨sb, 6, none⟩) hB).trans h6, (hb.cell (p := ⟨sb, 7, none⟩) hB).trans h7⟩
theorem MeantIs.below {w w' : World} {b1 b2 b3 b4 : Nat} {l : List Ln} {k : Kn} (h : MeantIs w b1 b2 b3 b4 l k) (hb : Below w.heap.size w w') : MeantIs w' b1 b2 b3 b4 l k := ⟨h.1.below hb, h.2.1.below hb, h.2.2.1.below hb, h.2.2.2.below hb⟩
def VSc (w : World) (sb : Nat) (l : List Ln) (k : Kn) (vs : List Int) : Prop := ∃ (a1 a2 a3 av : Option Addr) (c1 c2 c3 cv b1 b2 b3 b4 : Nat), ScBox w sb a1 a2 a3 av k.ins.length k.tbs.length k.yrs.length vs.length c1 c2 c3 cv b1 b2 b3 b4 ∧ CameA w a1 k.ins ∧ CameT w a2 k.tbs ∧ CameA w a3 k.yrs ∧ VAt w av vs ∧ MeantIs w b1 b2 b3 b4 l k
theorem VSc.below {w w' : World} {sb : Nat} {l : List Ln} {k : Kn} {vs : List Int} (h : VSc w sb l k vs) (hb : Below w.heap.size w w') : VSc w' sb l k vs := by
 obtain ⟨a1, a2, a3, av, c1, c2, c3, cv, b1, b2, b3, b4, hx, h1, h2, h3, h4, h5⟩ := h
 exact ⟨a1, a2, a3, av, c1, c2, c3, cv, b1, b2, b3, b4, hx.below hb, h1.below hb, h2.below hb, h3.below hb, h4.below hb, h5.below hb⟩
theorem vlast_lt {f : Nat → ByteArray} : ∀ {n : Nat} {s : ByteArray} {p : Nat}, lastN f n s = some p → p < n
 | 0, _, _, h => by cases h
 | n + 1, s, p, h => by
   simp only [lastN] at h
   split at h
   ·injection h with h; omega
   ·have := vlast_lt h; omega
def lnsG (l : List Ln) : ByteArray → Option Nat := lastN (fun j => (lnth l j).name) l.length
def insG (k : Kn) : ByteArray → Option Nat := lastN (fun j => (anth k.ins j).name) k.ins.length
def tbsG (k : Kn) : ByteArray → Option Nat := lastN (fun j => (tnth k.tbs j).name) k.tbs.length
def yrsG (k : Kn) : ByteArray → Option Nat := lastN (fun j => (anth k.yrs j).name) k.yrs.length
def namV (l : List Ln) (k : Kn) (vs : List Int) (s : ByteArray) : Int := match lnsG l s with | some p => vs.getD p 0 | none => (anth k.ins ((insG k s).getD 0)).mon
def yearV (k : Kn) (s : ByteArray) : Int := match yrsG k s with | some p => (anth k.yrs p).mon | none => 0
theorem lit_int {a b : Int} (h : (DataW.lit (.int .i64 a) : DataW Unit) = .lit (.int .i64 b)) : a = b := by injection h with h; injection h
end Go.Proofs.YtmlpedgcpffpnaaGreatDoor
namespace Go.Proofs.YtmlpedgcpffpnaaGreatDoor
open Go.RowKit Go.Maps Go.WideMaps
def oneO (kn : Kn) (k n : Int) (s : ByteArray) (v : Int) : Option Int := if k = 4 then monO (rd (v * n) 10000 5) else if k = 5 then some (taxN (tnth kn.tbs ((tbsG kn s).getD 0)).bks v) else if k = 9 then monO (v * n) else if k = 10 then monO (rd v n 5) else some (-v)
end Go.Proofs.YtmlpedgcpffpnaaGreatDoor
namespace Go.Proofs.YtmlpedgcpffpnaaGreatDoor
open Go.RowKit Go.Maps Go.WideMaps
theorem oneO_5 (kn : Kn) (n : Int) (s : ByteArray) (v : Int) : oneO kn 5 n s v = some (taxN (tnth kn.tbs ((tbsG kn s).getD 0)).bks v) := rfl
end Go.Proofs.YtmlpedgcpffpnaaGreatDoor
namespace Go.Proofs.YtmlpedgcpffpnaaGreatDoor
open Go.RowKit Go.Maps Go.WideMaps
def Ex.val (l : List Ln) (kn : Kn) (vs : List Int) : Ex → Option Int
 | .no => none
 | .mk k n s _ kid =>
   if k = 1 then some n else if k = 2 then some (namV l kn vs s) else if k = 3 then some (yearV kn s)
   else if k = 7 ∨ k = 8 ∨ k = 11 ∨ k = 12 then ((kid 0).val l kn vs).bind fun a => ((kid 1).val l kn vs).bind fun b => twoO k a b
   else if k = 13 then ((kid 0).val l kn vs).bind fun a => ((kid 1).val l kn vs).bind fun b => if holdB n a b = true then (kid 2).val l kn vs else (kid 3).val l kn vs
   else ((kid 0).val l kn vs).bind fun a => oneO kn k n s a
def ComesIs (l : List Ln) (kn : Kn) (vs : List Int) (x : Ex) : Prop := ∀ (a : Option Addr) (c sb : Nat) (w : World), VSc w sb l kn vs → KidsAt w x a →
    Calls Tryz.prog 46 #[.pointer (some ⟨sb, 0, none⟩), .agg #[.int .i64 x.k, .int .i64 x.n, .string x.s, .slice a x.m c]] w fun e w' => e = vEnd (x.val l kn vs) ∧ Below w.heap.size w w'
end Go.Proofs.YtmlpedgcpffpnaaGreatDoor
namespace Go.Proofs.YtmlpedgcpffpnaaGreatDoor
open Go.RowKit Go.Maps Go.WideMaps
theorem val_two {l : List Ln} {kn : Kn} {vs : List Int} {k n : Int} {s : ByteArray} {m : Nat} {kid : Nat → Ex} (h : k = 7 ∨ k = 8 ∨ k = 11 ∨ k = 12) : (Ex.mk k n s m kid).val l kn vs = ((kid 0).val l kn vs).bind fun a => ((kid 1).val l kn vs).bind fun b => twoO k a b := by
 rw [Ex.val, if_neg (by omega), if_neg (by omega), if_neg (by omega), if_pos h]
def EndIs (v : Option Int) (e : Ending) : Prop := (v = none ∧ e = .panicked (gaveU 3)) ∨ ∃ z, v = some z ∧ e = .returned (.int .i64 z)
theorem EndIs.of {v : Option Int} {e : Ending} (h : e = vEnd v) : EndIs v e := by
 cases v with
 | none => exact .inl ⟨rfl, h⟩
 | some z => exact .inr ⟨z, rfl, h⟩
def ComesEnd (v : Option Int) (k n : Int) (s : ByteArray) (a : Option Addr) (m c sb : Nat) (w0 : World) : Prop := ∀ w : World, Below w0.heap.size w0 w →
    Calls Tryz.prog 46 #[.pointer (some ⟨sb, 0, none⟩), .agg #[.int .i64 k, .int .i64 n, .string s, .slice a m c]] w fun e w' => EndIs v e ∧ Below w.heap.size w w'
theorem ComesIs.end {l : List Ln} {kn : Kn} {vs : List Int} {x : Ex} (h : ComesIs l kn vs x) {a : Option Addr} {c sb : Nat} {w0 : World} (hs : VSc w0 sb l kn vs) (hk : KidsAt w0 x a) : ComesEnd (x.val l kn vs) x.k x.n x.s a x.m c sb w0 := fun w hb =>
 (h a c sb w (hs.below hb) (hk.below hb)).mono fun _ _ h => ⟨.of h.1, h.2⟩
end Go.Proofs.YtmlpedgcpffpnaaGreatDoor
namespace Go.Proofs.YtmlpedgcpffpnaaGreatDoor
open Go.RowKit Go.Maps Go.WideMaps
theorem val_one {l : List Ln} {kn : Kn} {vs : List Int} {k n : Int} {s : ByteArray} {m : Nat} {kid : Nat → Ex} (h : k = 4 ∨ k = 5 ∨ k = 6 ∨ k = 9 ∨ k = 10) : (Ex.mk k n s m kid).val l kn vs = ((kid 0).val l kn vs).bind fun a => oneO kn k n s a := by
 rw [Ex.val, if_neg (by omega), if_neg (by omega), if_neg (by omega), if_neg (by omega), if_neg (by omega)]
def OneIs (l : List Ln) (kn : Kn) (vs : List Int) (k n : Int) (s : ByteArray) : Prop := ∀ (a : Option Addr) (m c sb : Nat) (w : World) (z : Int), VSc w sb l kn vs → monB z = true →
    Calls Tryz.prog 91 #[.pointer (some ⟨sb, 0, none⟩), .agg #[.int .i64 k, .int .i64 n, .string s, .slice a m c], .int .i64 z] w fun e w' => EndIs (oneO kn k n s z) e ∧ Below w.heap.size w w'
end Go.Proofs.YtmlpedgcpffpnaaGreatDoor
namespace Go.Proofs.YtmlpedgcpffpnaaGreatDoor
open Go.RowKit Go.Maps Go.WideMaps
theorem val_if {l : List Ln} {kn : Kn} {vs : List Int} {n : Int} {s : ByteArray} {m : Nat} {kid : Nat → Ex} : (Ex.mk 13 n s m kid).val l kn vs = ((kid 0).val l kn vs).bind fun a => ((kid 1).val l kn vs).bind fun b => if holdB n a b = true then (kid 2).val l kn vs else (kid 3).val l kn vs := by
 rw [Ex.val, if_neg (by omega), if_neg (by omega), if_neg (by omega), if_neg (by omega), if_pos rfl]
end Go.Proofs.YtmlpedgcpffpnaaGreatDoor
namespace Go.Proofs.YtmlpedgcpffpnaaGreatDoor
open Go.RowKit Go.Maps Go.WideMaps
def ScOk (kn : Kn) (vs : List Int) : Prop := kn.ins.length ≤ 30 ∧ kn.tbs.length ≤ 30 ∧ kn.yrs.length ≤ 30 ∧ (∀ j, j < kn.ins.length → monB (anth kn.ins j).mon = true) ∧ (∀ j, j < kn.tbs.length → tblE (tnth kn.tbs j).name (tnth kn.tbs j).bks = 0) ∧ (∀ j, j < kn.yrs.length → monB (anth kn.yrs j).mon = true) ∧ ∀ j, j < vs.length → monB (vs.getD j 0) = true
def NameOk (l : List Ln) (kn : Kn) (vs : List Int) (s : ByteArray) : Prop := (∀ p, lnsG l s = some p → p < vs.length) ∧ (lnsG l s = none → (insG kn s).isSome = true)
theorem firstE_zero {f : Nat → Int} : ∀ {m : Nat}, firstE f m = 0 → ∀ j, j < m → f j = 0
 | 0, _, j, hj => by omega
 | m + 1, h, j, hj => by
   simp only [firstE] at h
   split at h
   ·rename_i h0
    by_cases e : j = m
    ·subst e; exact h
    ·exact firstE_zero h0 j (by omega)
   ·rename_i h0; exact absurd h h0
theorem allN_each {f : Nat → Bool} : ∀ {m : Nat}, allN f m = true → ∀ j, j < m → f j = true
 | 0, _, j, hj => by omega
 | m + 1, h, j, hj => by
   simp only [allN, Bool.and_eq_true] at h
   by_cases e : j = m
   ·subst e; exact h.2
   ·exact allN_each h.1 j (by omega)
theorem monO_mon {n v : Int} (h : monO n = some v) : monB v = true := by
 unfold monO at h
 split at h
 ·injection h with h; rw [← h]; assumption
 ·cases h
theorem mon_of {n : Int} (h1 : -1000000000000 ≤ n) (h2 : n ≤ 1000000000000) : monB n = true := decide_eq_true ⟨h1, h2⟩
theorem two_mon {k a b v : Int} (ha : monB a = true) (hb : monB b = true) (h : twoO k a b = some v) : monB v = true := by
 have ha' := of_decide_eq_true ha
 have hb' := of_decide_eq_true hb
 unfold twoO at h
 split at h
 ·exact monO_mon h
 ·split at h
  ·exact monO_mon h
  ·split at h
   ·injection h with h; exact mon_of (by omega) (by omega)
   ·injection h with h; exact mon_of (by omega) (by omega)
theorem own_parts {k n : Int} {s : ByteArray} {m : Nat} (h : ownE k n s m = 0) : 1 ≤ k ∧ k ≤ 13 ∧ (m : Int) = kidsOf k ∧ (namedB k = true → NameP s) ∧ leastOf k ≤ n ∧ n ≤ mostOf k := by
 unfold ownE at h
 split at h
 ·cases h
 ·split at h
  ·cases h
  ·split at h
   ·cases h
   ·split at h
    ·cases h
    ·split at h
     ·cases h
     ·rename_i h1 h2 h3 _ h5
      exact ⟨by omega, by omega, by simpa using h2, fun hn => Classical.byContradiction fun hc => h3 ⟨hn, hc⟩, by omega, by omega⟩
theorem nam_mon {l : List Ln} {kn : Kn} {vs : List Int} {s : ByteArray} (hS : ScOk kn vs) (hN : NameOk l kn vs s) : monB (namV l kn vs s) = true := by
 unfold namV
 cases hg : lnsG l s with
 | some p => exact hS.2.2.2.2.2.2 p (hN.1 p hg)
 | none =>
   obtain ⟨q, hq⟩ := Option.isSome_iff_exists.1 (hN.2 hg)
   rw [hq]
   exact hS.2.2.2.1 q (vlast_lt hq)
theorem year_mon {kn : Kn} {vs : List Int} {s : ByteArray} (hS : ScOk kn vs) : monB (yearV kn s) = true := by
 unfold yearV
 cases hg : yrsG kn s with
 | some p => exact hS.2.2.2.2.2.1 p (vlast_lt hg)
 | none => rfl
theorem bind_some {α β : Type} {o : Option α} {f : α → Option β} {v : β} (h : o.bind f = some v) : ∃ z, o = some z ∧ f z = some v := by
 cases o with
 | none => cases h
 | some z => exact ⟨z, rfl, h⟩
theorem val_mon {l : List Ln} {kn : Kn} {vs : List Int} {gv gl : ByteArray → Option Nat} (hS : ScOk kn vs) (hg : ∀ s, (gv s).isSome = true → NameOk l kn vs s) (x : Ex) : x.err = 0 → x.all (knowB gv gl (tabsG kn)) = true → ∀ v, x.val l kn vs = some v → monB v = true := by
 induction x with
 | no => exact fun _ _ _ h => by rw [Ex.val] at h; cases h
 | mk k n s m kid ih =>
   intro he ha
   rw [err_mk] at he
   rw [all_mk] at ha
   by_cases hown : ownE k n s m = 0
   ·rw [if_pos hown] at he
    simp only [Bool.and_eq_true] at ha
    have hkid : ∀ j, j < m → ∀ v, (kid j).val l kn vs = some v → monB v = true := fun j hj => ih j (firstE_zero he j hj) (allN_each ha.2 j hj)
    have hkn := ha.1
    obtain ⟨h1, h13, hm, hnm, hl, hu⟩ := own_parts hown
    clear ih he ha hown
    have hcase : k = 1 ∨ k = 2 ∨ k = 3 ∨ k = 4 ∨ k = 5 ∨ k = 6 ∨ k = 7 ∨ k = 8 ∨ k = 9 ∨ k = 10 ∨ k = 11 ∨ k = 12 ∨ k = 13 := by omega
    clear h1 h13
    rcases hcase with rfl | rfl | rfl | rfl | rfl | rfl | rfl | rfl | rfl | rfl | rfl | rfl | rfl
    ·obtain rfl : m = 0 := by have : kidsOf 1 = 0 := (by decide); omega
     intro v hv
     rw [Ex.val, if_pos rfl] at hv
     injection hv with hv
     have e1 : leastOf 1 = 0 := by decide
     have e2 : mostOf 1 = 1000000000000 := by decide
     exact mon_of (by omega) (by omega)
    ·obtain rfl : m = 0 := by have : kidsOf 2 = 0 := (by decide); omega
     have hN : NameOk l kn vs s := hg s hkn
     intro v hv
     rw [Ex.val, if_neg (by omega), if_pos rfl] at hv
     injection hv with hv
     rw [← hv]
     exact nam_mon hS hN
    ·obtain rfl : m = 0 := by have : kidsOf 3 = 0 := (by decide); omega
     intro v hv
     rw [Ex.val, if_neg (by omega), if_neg (by omega), if_pos rfl] at hv
     injection hv with hv
     rw [← hv]
     exact year_mon hS
    ·obtain rfl : m = 1 := by have : kidsOf 4 = 1 := (by decide); omega
     have e1 : leastOf 4 = 0 := by decide
     have e2 : mostOf 4 = 1000000 := by decide
     have hr : ratB n = true := decide_eq_true (by omega)
     have m0 := hkid 0 (by omega)
     intro v hv
     rw [val_one (by decide)] at hv
     obtain ⟨z, _, hv⟩ := bind_some hv
     exact monO_mon (n := rd (z * n) 10000 5) hv
    ·obtain rfl : m = 1 := by have : kidsOf 5 = 1 := (by decide); omega
     have hs : s.size ≤ maxLen := by have := (hnm (by decide)).2.1; unfold maxLen; omega
     obtain ⟨q, hq⟩ := Option.isSome_iff_exists.1 (show (tbsG kn s).isSome = true from hkn)
     have ht := hS.2.2.2.2.1 q (vlast_lt hq)
     have m0 := hkid 0 (by omega)
     intro v hv
     rw [val_one (by decide)] at hv
     obtain ⟨z, hz, hv⟩ := bind_some hv
     rw [oneO_5, hq] at hv
     injection hv with hv
     have hl := tax_le (tblE_ok ht).2 z
     have hz' := of_decide_eq_true (m0 z hz)
     rw [← hv]
     exact mon_of (by simp only [Option.getD_some]; omega) (by simp only [Option.getD_some]; omega)
    ·obtain rfl : m = 1 := by have : kidsOf 6 = 1 := (by decide); omega
     have m0 := hkid 0 (by omega)
     intro v hv
     rw [val_one (by decide)] at hv
     obtain ⟨z, hz, hv⟩ := bind_some hv
     have hz' := of_decide_eq_true (m0 z hz)
     have hv' : some (-z) = some v := hv
     injection hv' with hv'
     exact mon_of (by omega) (by omega)
    ·obtain rfl : m = 2 := by have : kidsOf 7 = 2 := (by decide); omega
     have m0 := hkid 0 (by omega)
     have m1 := hkid 1 (by omega)
     intro v hv
     rw [val_two (by decide)] at hv
     obtain ⟨a, ha, hv⟩ := bind_some hv
     obtain ⟨b, hb, hv⟩ := bind_some hv
     exact two_mon (m0 a ha) (m1 b hb) hv
    ·obtain rfl : m = 2 := by have : kidsOf 8 = 2 := (by decide); omega
     have m0 := hkid 0 (by omega)
     have m1 := hkid 1 (by omega)
     intro v hv
     rw [val_two (by decide)] at hv
     obtain ⟨a, ha, hv⟩ := bind_some hv
     obtain ⟨b, hb, hv⟩ := bind_some hv
     exact two_mon (m0 a ha) (m1 b hb) hv
    ·obtain rfl : m = 1 := by have : kidsOf 9 = 1 := (by decide); omega
     have e1 : leastOf 9 = 1 := by decide
     have e2 : mostOf 9 = 1000000 := by decide
     have m0 := hkid 0 (by omega)
     intro v hv
     rw [val_one (by decide)] at hv
     obtain ⟨z, _, hv⟩ := bind_some hv
     exact monO_mon (n := z * n) hv
    ·obtain rfl : m = 1 := by have : kidsOf 10 = 1 := (by decide); omega
     have e1 : leastOf 10 = 1 := by decide
     have e2 : mostOf 10 = 1000000 := by decide
     have m0 := hkid 0 (by omega)
     intro v hv
     rw [val_one (by decide)] at hv
     obtain ⟨z, _, hv⟩ := bind_some hv
     exact monO_mon (n := rd z n 5) hv
    ·obtain rfl : m = 2 := by have : kidsOf 11 = 2 := (by decide); omega
     have m0 := hkid 0 (by omega)
     have m1 := hkid 1 (by omega)
     intro v hv
     rw [val_two (by decide)] at hv
     obtain ⟨a, ha, hv⟩ := bind_some hv
     obtain ⟨b, hb, hv⟩ := bind_some hv
     exact two_mon (m0 a ha) (m1 b hb) hv
    ·obtain rfl : m = 2 := by have : kidsOf 12 = 2 := (by decide); omega
     have m0 := hkid 0 (by omega)
     have m1 := hkid 1 (by omega)
     intro v hv
     rw [val_two (by decide)] at hv
     obtain ⟨a, ha, hv⟩ := bind_some hv
     obtain ⟨b, hb, hv⟩ := bind_some hv
     exact two_mon (m0 a ha) (m1 b hb) hv
    ·obtain rfl : m = 4 := by have : kidsOf 13 = 4 := (by decide); omega
     intro v hv
     rw [val_if] at hv
     obtain ⟨a, _, hv⟩ := bind_some hv
     obtain ⟨b, _, hv⟩ := bind_some hv
     split at hv
     ·exact hkid 2 (by omega) v hv
     ·exact hkid 3 (by omega) v hv
   ·rw [if_neg hown] at he
    exact absurd he hown
end Go.Proofs.YtmlpedgcpffpnaaGreatDoor
namespace Go.Proofs.YtmlpedgcpffpnaaGreatDoor
open Go.RowKit
theorem vlast_is {f : Nat → ByteArray} : ∀ {n : Nat} {s : ByteArray} {p : Nat}, lastN f n s = some p → (f p).data = s.data
 | 0, _, _, h => by cases h
 | n + 1, s, p, h => by
   simp only [lastN] at h
   split at h
   ·rename_i e; injection h with h; rw [← h]; exact e
   ·exact vlast_is h
theorem vlast_has {f : Nat → ByteArray} : ∀ {n : Nat} {s : ByteArray} {j : Nat}, j < n → (f j).data = s.data → (lastN f n s).isSome = true
 | 0, _, _, h, _ => by omega
 | n + 1, s, j, h, e => by
   simp only [lastN]
   split
   ·rfl
   ·by_cases ej : j = n
    ·subst ej; contradiction
    ·exact vlast_has (by omega) e
theorem vlast_same {f : Nat → ByteArray} {s t : ByteArray} (e : s.data = t.data) : ∀ {n : Nat}, lastN f n s = lastN f n t
 | 0 => rfl
 | n + 1 => by simp only [lastN, e, vlast_same e (n := n)]
theorem line_new {l : List Ln} {kn : Kn} {q : Nat} (h : lineOk l kn q = 0) : (valsK l kn q (lnth l q).name).isSome = false := by
 unfold lineOk at h
 split at h
 ·cases h
 ·rename_i h1; simpa using h1
theorem vals_line {l : List Ln} {kn : Kn} {j : Nat} {s : ByteArray} (h : (lastN (fun j => (lnth l j).name) j s).isSome = true) : (valsK l kn j s).isSome = true := by
 unfold valsK
 cases hg : lastN (fun j => (lnth l j).name) j s with
 | none => rw [hg] at h; cases h
 | some p => rfl
theorem vals_ins {l : List Ln} {kn : Kn} {j : Nat} {s : ByteArray} (h : (insG kn s).isSome = true) : (valsK l kn j s).isSome = true := by
 unfold valsK
 cases hg : lastN (fun j => (lnth l j).name) j s with
 | none => exact h
 | some p => rfl
theorem name_ok {l : List Ln} {kn : Kn} {vs : List Int} (hok : ∀ q, q < l.length → lineOk l kn q = 0) (hj : vs.length < l.length) {s : ByteArray} (h : (valsK l kn vs.length s).isSome = true) : NameOk l kn vs s := by
 cases hg : lastN (fun j => (lnth l j).name) vs.length s with
 | some p' =>
   have hp' := vlast_lt hg
   have he' := vlast_is hg
   refine ⟨fun p hp => ?_, fun hn => ?_⟩
   ·have hpl := vlast_lt hp
    have he := vlast_is hp
    refine Classical.byContradiction fun hc => ?_
    have h1 := line_new (hok p hpl)
    rw [vals_line (vlast_has (j := p') (by omega) (he'.trans he.symm))] at h1
    cases h1
   ·have := vlast_has (f := fun j => (lnth l j).name) (n := l.length) (s := s) (j := p') (by omega) he'
    rw [show lastN (fun j => (lnth l j).name) l.length s = none from hn] at this
    cases this
 | none =>
   have hi : (insG kn s).isSome = true := by
    unfold valsK at h
    rw [hg] at h
    exact h
   refine ⟨fun p hp => ?_, fun _ => hi⟩
   have hpl := vlast_lt hp
   have he := vlast_is hp
   have h1 := line_new (hok p hpl)
   rw [vals_ins (by unfold insG at hi ⊢; rw [vlast_same he]; exact hi)] at h1
   cases h1
theorem line_knows {l : List Ln} {kn : Kn} {q : Nat} (h : lineOk l kn q = 0) : (lnth l q).ex.all (knowB (valsK l kn q) (linesG l) (tabsG kn)) = true := by
 unfold lineOk at h
 split at h
 ·cases h
 ·split at h
  ·assumption
  ·cases h
theorem lines_err {l : List Ln} (h : linesE l = 0) {j : Nat} (hj : j < l.length) : (lnth l j).ex.err = 0 := by
 unfold linesE at h
 split at h
 ·cases h
 ·have h1 := firstE_zero h j hj
  simp only [lineE] at h1
  split at h1
  ·cases h1
  ·split at h1
   ·exact h1
   ·cases h1
theorem line_mon {l : List Ln} {kn : Kn} {vs : List Int} (hE : linesE l = 0) (hok : ∀ q, q < l.length → lineOk l kn q = 0) (hS : ScOk kn vs) (hj : vs.length < l.length) : ∀ v, (lnth l vs.length).ex.val l kn vs = some v → monB v = true :=
 val_mon (gv := valsK l kn vs.length) (gl := linesG l) hS (fun _ h => name_ok hok hj h) _ (lines_err hE hj) (line_knows (hok _ hj))
theorem ams_mon {l : List Am} (h : amsE l = 0) {j : Nat} (hj : j < l.length) : monB (anth l j).mon = true := by
 unfold amsE at h
 split at h
 ·cases h
 ·split at h
  ·cases h
  ·rename_i h2
   exact all_nth (P := amB) (by simpa [amsB] using h2) hj
theorem kn_ok {kn : Kn} (h : knE kn = 0) : ScOk kn [] := by
 obtain ⟨h1, h2, h3⟩ := knE_30 h
 unfold knE at h
 split at h
 ·cases h
 ·split at h
  ·rename_i hi
   split at h
   ·rename_i hy
    refine ⟨h1, h2, h3, fun j hj => ams_mon hi hj, fun j hj => ?_, fun j hj => ams_mon hy hj, fun j hj => by simp at hj⟩
    unfold tbsE at h
    split at h
    ·rename_i ht
     exact firstE_zero ht j hj
    ·rename_i ht; exact absurd h ht
   ·rename_i hy; exact absurd h hy
  ·rename_i hi; exact absurd h hi
theorem ScOk.more {kn : Kn} {vs : List Int} (h : ScOk kn vs) {v : Int} (hv : monB v = true) : ScOk kn (vs ++ [v]) := by
 refine ⟨h.1, h.2.1, h.2.2.1, h.2.2.2.1, h.2.2.2.2.1, h.2.2.2.2.2.1, fun j hj => ?_⟩
 by_cases e : j < vs.length
 ·have := h.2.2.2.2.2.2 j e
  rwa [List.getD_eq_getElem?_getD, List.getElem?_append_left e, ← List.getD_eq_getElem?_getD]
 ·obtain rfl : j = vs.length := by simp at hj; omega
  simpa [List.getD_eq_getElem?_getD] using hv
def linesV (l : List Ln) (kn : Kn) : Nat → List Int × Bool
 | 0 => ([], true)
 | j + 1 => match linesV l kn j with
   | (vs, false) => (vs, false)
   | (vs, true) => match (lnth l j).ex.val l kn vs with
     | some v => (vs ++ [v], true)
     | none => (vs, false)
end Go.Proofs.YtmlpedgcpffpnaaGreatDoor
namespace Go.Proofs.YtmlpedgcpffpnaaGreatDoor
open Go.RowKit
end Go.Proofs.YtmlpedgcpffpnaaGreatDoor
set_option linter.unusedSimpArgs false
namespace Go.Proofs.YtmlpedgcpffpnaaGreatDoor
open Go.RowKit Go.Maps Go.WideMaps
theorem vgrow_below {w w' : World} {B : Nat} {v : Value} {l : List Int} (h : Grow w B v l) (hb : Below w.heap.size w w') : Grow w' B v l := by
 refine World.ownsRow.kept (row := none) h ⟨hb.os, hb.tape, hb.output, hb.size, fun k hk _ => hb.block k hk⟩ ?_
 cases v.ownBlock with
 | none => exact .inl rfl
 | some k => exact .inr (Option.some_ne_none k)
def LnsAt (W1 : World) (B sb q r : Nat) (kn : Kn) (a1 a2 a3 : Option Addr) (c1 c2 c3 b1 b2 b3 b4 : Nat) (vs : List Int) (wr : World) : Prop := ∃ (av : Option Addr) (cv : Nat), ScBox wr sb a1 a2 a3 av kn.ins.length kn.tbs.length kn.yrs.length vs.length c1 c2 c3 cv b1 b2 b3 b4 ∧ wr.frozen? ⟨sb, 7, none⟩ = false ∧ wr.cell? ⟨q, 0, none⟩ = some (.pointer (some ⟨sb, 0, none⟩)) ∧ wr.cell? ⟨r, 0, none⟩ = some (.int .i64 0) ∧ wr.frozen? ⟨r, 0, none⟩ = false ∧ Below W1.heap.size W1 wr ∧ Grow wr B (.slice av vs.length cv) vs ∧ B ≤ wr.heap.size
theorem LnsAt.below {W1 : World} {B sb q r : Nat} {kn : Kn} {a1 a2 a3 : Option Addr} {c1 c2 c3 b1 b2 b3 b4 : Nat} {vs : List Int} {w w' : World} (h : LnsAt W1 B sb q r kn a1 a2 a3 c1 c2 c3 b1 b2 b3 b4 vs w) (hb : Below w.heap.size w w') : LnsAt W1 B sb q r kn a1 a2 a3 c1 c2 c3 b1 b2 b3 b4 vs w' := by
 obtain ⟨av, cv, h1, h2, h3, h4, h5, h6, h7, h8⟩ := h
 exact ⟨av, cv, h1.below hb, (hb.frozen (p := ⟨sb, 7, none⟩) h1.1).trans h2, (hb.cell (p := ⟨q, 0, none⟩) (blt_of_cell h3)).trans h3, (hb.cell (p := ⟨r, 0, none⟩) (blt_of_cell h4)).trans h4, (hb.frozen (p := ⟨r, 0, none⟩) (blt_of_cell h4)).trans h5, h6.trans (hb.mono h6.size), vgrow_below h7 hb, Nat.le_trans h8 hb.size⟩
end Go.Proofs.YtmlpedgcpffpnaaGreatDoor
set_option linter.unusedSimpArgs false
namespace Go.Proofs.YtmlpedgcpffpnaaGreatDoor
open Go.RowKit Go.Maps Go.WideMaps
def linesR (l : List Ln) (k : Kn) (w : World) (e : Ending) (w' : World) : Prop :=
 Below w.heap.size w w' ∧ ((∃ i er : Int, er ≠ 0 ∧ BindIs l k i er ∧ e = .returned (.tuple #[.slice none 0 0, .int .i64 i, .int .i64 er])) ∨
  (BindIs l k 0 0 ∧ ∃ vs, linesV l k l.length = (vs, false) ∧ e = .returned (.tuple #[.slice none 0 0, .int .i64 vs.length, .int .i64 3])) ∨
  (BindIs l k 0 0 ∧ ∃ vs v B, linesV l k l.length = (vs, true) ∧ w.heap.size ≤ B ∧ Grow w' B v vs ∧ e = .returned (.tuple #[v, .int .i64 0, .int .i64 0])))
def ScAt (w w4 : World) (q sb : Nat) (a : Option Addr) (n cap : Nat) (a1 a2 a3 : Option Addr) (c1 c2 c3 : Nat) (l : List Ln) (k : Kn) : Prop := ∃ (W1 : World) (b1 b2 b3 b4 : Nat), Below w.heap.size w W1 ∧ MeantIs W1 b1 b2 b3 b4 l k ∧ Below W1.heap.size W1 w4 ∧ W1.heap.size ≤ sb ∧ q ≠ sb ∧ q < w4.heap.size ∧ ScBox w4 sb a1 a2 a3 none k.ins.length k.tbs.length k.yrs.length 0 c1 c2 c3 0 b1 b2 b3 b4 ∧ w4.frozen? ⟨sb, 7, none⟩ = false ∧ w4.cell? ⟨q, 0, none⟩ = some (.pointer (some ⟨sb, 0, none⟩)) ∧ w4.cell? ⟨w.heap.size, 0, none⟩ = some (.slice a n cap)
def scO (a1 a2 a3 : Option Addr) (n1 n2 n3 c1 c2 c3 b1 b2 b3 b4 : Nat) : Obj := .cells #[.slice a1 n1 c1, .slice a2 n2 c2, .slice a3 n3 c3, .map (some b1), .map (some b2), .map (some b3), .map (some b4), .slice none 0 0] 98
theorem ScBox.made (w : World) (a1 a2 a3 : Option Addr) (n1 n2 n3 c1 c2 c3 b1 b2 b3 b4 : Nat) : ScBox (w.alloc (scO a1 a2 a3 n1 n2 n3 c1 c2 c3 b1 b2 b3 b4)) w.heap.size a1 a2 a3 none n1 n2 n3 0 c1 c2 c3 0 b1 b2 b3 b4 ∧ (w.alloc (scO a1 a2 a3 n1 n2 n3 c1 c2 c3 b1 b2 b3 b4)).frozen? ⟨w.heap.size, 7, none⟩ = false := by
 unfold scO
 refine ⟨⟨?_, ?_, ?_, ?_, ?_, ?_, ?_, ?_, ?_⟩, ?_⟩ <;> simp
def S4 (b : Nat) (a : Option Addr) (n cap : Nat) (a1 a2 a3 : Option Addr) (n1 n2 n3 c1 c2 c3 : Nat) (W : World) : Prop := W.cell? ⟨b, 0, none⟩ = some (.slice a n cap) ∧ W.cell? ⟨b + 1, 0, none⟩ = some (.slice a1 n1 c1) ∧ W.cell? ⟨b + 1, 1, none⟩ = some (.slice a2 n2 c2) ∧ W.cell? ⟨b + 1, 2, none⟩ = some (.slice a3 n3 c3)
theorem S4.below {b : Nat} {a : Option Addr} {n cap : Nat} {a1 a2 a3 : Option Addr} {n1 n2 n3 c1 c2 c3 : Nat} {W W' : World} (h : S4 b a n cap a1 a2 a3 n1 n2 n3 c1 c2 c3 W) (hb : Below W.heap.size W W') : S4 b a n cap a1 a2 a3 n1 n2 n3 c1 c2 c3 W' := by
 obtain ⟨h0, h1, h2, h3⟩ := h
 exact ⟨(hb.cell (p := ⟨b, 0, none⟩) (blt_of_cell h0)).trans h0, (hb.cell (p := ⟨b + 1, 0, none⟩) (blt_of_cell h1)).trans h1, (hb.cell (p := ⟨b + 1, 1, none⟩) (blt_of_cell h2)).trans h2, (hb.cell (p := ⟨b + 1, 2, none⟩) (blt_of_cell h3)).trans h3⟩
theorem S4.alloc {b : Nat} {a : Option Addr} {n cap : Nat} {a1 a2 a3 : Option Addr} {n1 n2 n3 c1 c2 c3 : Nat} {W : World} (h : S4 b a n cap a1 a2 a3 n1 n2 n3 c1 c2 c3 W) (o : Obj) : S4 b a n cap a1 a2 a3 n1 n2 n3 c1 c2 c3 (W.alloc o) := h.below (kbelow_box W o)
theorem S4.set {b : Nat} {a : Option Addr} {n cap : Nat} {a1 a2 a3 : Option Addr} {n1 n2 n3 c1 c2 c3 : Nat} {W : World} (h : S4 b a n cap a1 a2 a3 n1 n2 n3 c1 c2 c3 W) {q : Nat} (hq : b + 1 < q) (v : Value) : S4 b a n cap a1 a2 a3 n1 n2 n3 c1 c2 c3 (W.setCell ⟨q, 0, none⟩ v) := by
 obtain ⟨h0, h1, h2, h3⟩ := h
 exact ⟨(World.cell?_setCell_far W ⟨q, 0, none⟩ ⟨b, 0, none⟩ v (by show q ≠ b; omega)).trans h0, (World.cell?_setCell_far W ⟨q, 0, none⟩ ⟨b + 1, 0, none⟩ v (by show q ≠ b + 1; omega)).trans h1, (World.cell?_setCell_far W ⟨q, 0, none⟩ ⟨b + 1, 1, none⟩ v (by show q ≠ b + 1; omega)).trans h2, (World.cell?_setCell_far W ⟨q, 0, none⟩ ⟨b + 1, 2, none⟩ v (by show q ≠ b + 1; omega)).trans h3⟩
end Go.Proofs.YtmlpedgcpffpnaaGreatDoor
