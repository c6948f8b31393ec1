/-
  A row of ints of the call's own that is appended to, one int at a time: what becomes of it, and that two such rows stay apart. No condition beyond those of each theorem.
  Promise I1: what a name comes to: the walks of value's named and inYear.
  Promise I1: what an expression with one Kid makes of what that comes to: the walk of value's ofOne.
  Promise I1: what a table asks of what an expression's one Kid comes to: value's ofOne, at a table.
  Promise I1: what an expression comes to: what is said of value's comesTo, kind by kind.
-/
import Derived.Test.YtmlpedgcpffpnaaGreatDoorKS1
import Derived.ArgAppend
import Derived.Test.YtmlpedgcpffpnaaGreatDoorKS9
import Derived.Test.YtmlpedgcpffpnaaGreatDoorKS4
import Derived.Test.YtmlpedgcpffpnaaGreatDoorKS3
namespace Go.Proofs.YtmlpedgcpffpnaaGreatDoor
open Go.RowKit
theorem info_i : (Tryz.prog.info? 3).map (fun i => (i.zero, i.size, i.bytes)) = some (some (.int .i64 0), 1, 8) := by kernel_rfl
def Grow (w : World) (B : Nat) (v : Value) (l : List Int) : Prop := w.ownsRow B 3 1 v l.length (l.map (Value.int .i64))
def Apart (v u : Value) : Prop := v.ownBlock = none ∨ u.ownBlock = none ∨ v.ownBlock ≠ u.ownBlock
theorem Grow.nil (w : World) (B : Nat) : Grow w B (.slice none 0 0) [] := World.ownsRow_nil _ _ _ _
theorem Grow.alloc {w : World} {B : Nat} {v : Value} {l : List Int} (h : Grow w B v l) (o : Obj) : Grow (w.alloc o) B v l := World.ownsRow.alloc h o
theorem Grow.drewN {w : World} {B : Nat} {v : Value} {l : List Int} (h : Grow w B v l) (k : Nat) : Grow (w.drewN k) B v l := h
theorem Grow.lt {w : World} {B : Nat} {v : Value} {l : List Int} (h : Grow w B v l) : ∀ k, v.ownBlock = some k → B ≤ k ∧ k < w.heap.size := World.ownsRow.lt h
theorem Grow.kept {w w' : World} {B : Nat} {v u : Value} {l : List Int} (h : Grow w B v l) (hg : w.grownBy w' u.ownBlock) (ha : Apart v u) : Grow w' B v l := by
 rcases ha with ha | ha | ha
 ·exact World.ownsRow.kept h hg (.inl ha)
 ·cases hv : v.ownBlock with
  | none => exact World.ownsRow.kept h hg (.inl hv)
  | some k => exact World.ownsRow.kept h hg (.inr (by rw [hv, ha]; exact Option.some_ne_none k))
 ·exact World.ownsRow.kept h hg (.inr ha)
theorem Grow.own {w : World} {B : Nat} {v : Value} {l : List Int} (h : Grow w B v l) (h0 : 0 < l.length) :
 ∃ g c, v = .slice (some ⟨g, 0, none⟩) l.length c ∧ B ≤ g ∧ Own w g l := by
 have hh := h
 obtain ⟨_, h2⟩ := h
 rcases h2 with ⟨_, h2⟩ | ⟨g, c, cur, rfl, hg, hb, hc, hm, hs, ht⟩
 ·omega
 ·refine ⟨g, c, rfl, hg, (Grow.lt hh g rfl).2, fun j hj => ⟨?_, World.ownsRow.frozenAt hh j⟩⟩
  have := World.ownsRow.cellAt hh j (by omega)
  rw [this]
  simp [nth, List.getD_eq_getElem?_getD, hj]
theorem Apart.app {w : World} {B : Nat} {v v' u : Value} {l : List Int} (ha : Apart u v) (hu : Grow w B u l) (h : v'.ownBlock = v.ownBlock ∨ ∃ g, v'.ownBlock = some g ∧ w.heap.size ≤ g) : Apart u v' := by
 unfold Apart at *
 rcases h with h | ⟨g, h, hg⟩
 ·rw [h]; exact ha
 ·rw [h]
  cases hv : u.ownBlock with
  | none => exact .inl rfl
  | some k =>
    right; right
    have := Grow.lt hu k hv
    intro e
    cases e
    omega
theorem Apart.symm {v u : Value} (h : Apart v u) : Apart u v := by
 unfold Apart at *
 rcases h with h | h | h
 ·exact .inr (.inl h)
 ·exact .inl h
 ·exact .inr (.inr fun e => h e.symm)
theorem Apart.ne {g k : Nat} {n c m d : Nat} (h : Apart (.slice (some ⟨g, 0, none⟩) n c) (.slice (some ⟨k, 0, none⟩) m d)) : g ≠ k := by
 rintro rfl
 rcases h with h | h | h
 ·cases h
 ·cases h
 ·exact h rfl
end Go.Proofs.YtmlpedgcpffpnaaGreatDoor
namespace Go.Proofs.YtmlpedgcpffpnaaGreatDoor
open Go.RowKit Go.Maps Go.WideMaps
def VAt (w : World) (a : Option Addr) (vs : List Int) : Prop := vs.length = 0 ∨ ∃ b o, a = some ⟨b, o, none⟩ ∧ b < w.heap.size ∧ ∀ j, j < vs.length → w.cell? ⟨b, o + j, none⟩ = some (.int .i64 (vs.getD j 0))
theorem VAt.below {w w' : World} {a : Option Addr} {vs : List Int} (h : VAt w a vs) (hb : Below w.heap.size w w') : VAt w' a vs := by
 rcases h with h | ⟨b, o, rfl, hB, h⟩
 ·exact .inl h
 ·exact .inr ⟨b, o, rfl, Nat.lt_of_lt_of_le hB hb.size, fun j hj => (hb.cell (p := ⟨b, o + j, none⟩) hB).trans (h j hj)⟩
def ScBox (w : World) (sb : Nat) (a1 a2 a3 av : Option Addr) (n1 n2 n3 nv c1 c2 c3 cv b1 b2 b3 b4 : Nat) : Prop := sb < w.heap.size ∧ w.cell? ⟨sb, 0, none⟩ = some (.slice a1 n1 c1) ∧ w.cell? ⟨sb, 1, none⟩ = some (.slice a2 n2 c2) ∧ w.cell? ⟨sb, 2, none⟩ = some (.slice a3 n3 c3) ∧ w.cell? ⟨sb, 3, none⟩ = some (.map (some b1)) ∧ w.cell? ⟨sb, 4, none⟩ = some (.map (some b2)) ∧ w.cell? ⟨sb, 5, none⟩ = some (.map (some b3)) ∧ w.cell? ⟨sb, 6, none⟩ = some (.map (some b4)) ∧ w.cell? ⟨sb, 7, none⟩ = some (.slice av nv cv)
theorem ScBox.below {w w' : World} {sb : Nat} {a1 a2 a3 av : Option Addr} {n1 n2 n3 nv c1 c2 c3 cv b1 b2 b3 b4 : Nat} (h : ScBox w sb a1 a2 a3 av n1 n2 n3 nv c1 c2 c3 cv b1 b2 b3 b4) (hb : Below w.heap.size w w') : ScBox w' sb a1 a2 a3 av n1 n2 n3 nv c1 c2 c3 cv b1 b2 b3 b4 := by
 obtain ⟨hB, h0, h1, h2, h3, h4, h5, h6, h7⟩ := h
 exact ⟨Nat.lt_of_lt_of_le hB hb.size, (hb.cell (p := ⟨sb, 0, none⟩) hB).trans h0, (hb.cell (p := ⟨sb, 1, none⟩) hB).trans h1, (hb.cell (p := ⟨sb, 2, none⟩) hB).trans h2, (hb.cell (p := ⟨sb, 3, none⟩) hB).trans h3, (hb.cell (p := ⟨sb, 4, none⟩) hB).trans h4, (hb.cell (p := ⟨sb, 5, none⟩) hB).trans h5, (hb.cell (p := ⟨sb, 6, none⟩) hB).trans h6, (hb.cell (p := ⟨sb, 7, none⟩) hB).trans h7⟩
theorem MeantIs.below {w w' : World} {b1 b2 b3 b4 : Nat} {l : List Ln} {k : Kn} (h : MeantIs w b1 b2 b3 b4 l k) (hb : Below w.heap.size w w') : MeantIs w' b1 b2 b3 b4 l k := ⟨h.1.below hb, h.2.1.below hb, h.2.2.1.below hb, h.2.2.2.below hb⟩
def VSc (w : World) (sb : Nat) (l : List Ln) (k : Kn) (vs : List Int) : Prop := ∃ (a1 a2 a3 av : Option Addr) (c1 c2 c3 cv b1 b2 b3 b4 : Nat), ScBox w sb a1 a2 a3 av k.ins.length k.tbs.length k.yrs.length vs.length c1 c2 c3 cv b1 b2 b3 b4 ∧ CameA w a1 k.ins ∧ CameT w a2 k.tbs ∧ CameA w a3 k.yrs ∧ VAt w av vs ∧ MeantIs w b1 b2 b3 b4 l k
theorem VSc.below {w w' : World} {sb : Nat} {l : List Ln} {k : Kn} {vs : List Int} (h : VSc w sb l k vs) (hb : Below w.heap.size w w') : VSc w' sb l k vs := by
 obtain ⟨a1, a2, a3, av, c1, c2, c3, cv, b1, b2, b3, b4, hx, h1, h2, h3, h4, h5⟩ := h
 exact ⟨a1, a2, a3, av, c1, c2, c3, cv, b1, b2, b3, b4, hx.below hb, h1.below hb, h2.below hb, h3.below hb, h4.below hb, h5.below hb⟩
theorem vlast_lt {f : Nat → ByteArray} : ∀ {n : Nat} {s : ByteArray} {p : Nat}, lastN f n s = some p → p < n
 | 0, _, _, h => by cases h
 | n + 1, s, p, h => by
   simp only [lastN] at h
   split at h
   ·injection h with h; omega
   ·have := vlast_lt h; omega
def lnsG (l : List Ln) : ByteArray → Option Nat := lastN (fun j => (lnth l j).name) l.length
def insG (k : Kn) : ByteArray → Option Nat := lastN (fun j => (anth k.ins j).name) k.ins.length
def tbsG (k : Kn) : ByteArray → Option Nat := lastN (fun j => (tnth k.tbs j).name) k.tbs.length
def yrsG (k : Kn) : ByteArray → Option Nat := lastN (fun j => (anth k.yrs j).name) k.yrs.length
def namV (l : List Ln) (k : Kn) (vs : List Int) (s : ByteArray) : Int := match lnsG l s with | some p => vs.getD p 0 | none => (anth k.ins ((insG k s).getD 0)).mon
def yearV (k : Kn) (s : ByteArray) : Int := match yrsG k s with | some p => (anth k.yrs p).mon | none => 0
theorem lit_int {a b : Int} (h : (DataW.lit (.int .i64 a) : DataW Unit) = .lit (.int .i64 b)) : a = b := by injection h with h; injection h
set_option maxRecDepth 100000 in
set_option maxHeartbeats 1000000 in
theorem inYear_any (s : ByteArray) (sb : Nat) (l : List Ln) (k : Kn) (vs : List Int) (w : World) (hs : s.size ≤ maxLen) (hsc : VSc w sb l k vs) (h30 : k.yrs.length ≤ 30) :
 Calls Tryz.prog 88 #[.pointer (some ⟨sb, 0, none⟩), .string s] w fun e w' => e = .returned (.int .i64 (yearV k s)) ∧ Below w.heap.size w w' := by
 obtain ⟨a1, a2, a3, av, c1, c2, c3, cv, b1, b2, b3, b4, ⟨hB, x0, x1, x2, x3, x4, x5, x6, x7⟩, _, _, hy, _, _, _, _, D, hown, hD⟩ := hsc
 have hkey := key_of hs
 have hD1 := (hD s).1
 have HD2 := Lib.hid (hD s).2
 clear hD
 cases hg : yrsG k s with
 | none =>
   have HR : Hid (yearV k s = 0) := Lib.hid (by unfold yearV; rw [hg])
   have hhas : Maps.has D (.string s.data.toList) = false := by rw [hD1]; show (yrsG k s).isSome = false; rw [hg]; rfl
   clear hD1
   go_enter Tryz.func88, Tryz.ntmps88
   go_wp2_with (first
    | (at_lookup; refine wpList_lookup_own_ok_int _ rfl _ _ 57 rfl 9 3 .i64 strLaw Tryz.underlying57 Tryz.underlying3 (zeroInt _) _ _ _ rfl hown _ _ rfl hkey ?_; intro c0 hat hwc; rw [hhas]))
   go_ret
   exact ⟨vret_int HR.out.symm, Below.refl _ _⟩
 | some p =>
   have hp : p < k.yrs.length := vlast_lt hg
   have HR : Hid (yearV k s = (anth k.yrs p).mon) := Lib.hid (by unfold yearV; rw [hg])
   have hhas : Maps.has D (.string s.data.toList) = true := by rw [hD1]; show (yrsG k s).isSome = true; rw [hg]; rfl
   have HC : Hid (D.atKey (.string s.data.toList) (.lit (.int .i64 0)) = .lit (.int .i64 (p : Int))) := by
    have h := HD2.out
    rw [show lastN (fun j => (anth k.yrs j).name) k.yrs.length s = some p from hg] at h
    exact h
   obtain ⟨b, o, rfl, hcell⟩ := hy.open rfl (by omega)
   obtain ⟨z0, z1⟩ := hcell w (Below.refl _ _) p hp
   clear hcell hD1
   generalize k.yrs.length = n3 at *
   have hp' : (p : Int) < (n3 : Int) := by omega
   go_enter Tryz.func88, Tryz.ntmps88
   go_wp2_with (first
    | (at_lookup; refine wpList_lookup_own_ok_int _ rfl _ _ 57 rfl 9 3 .i64 strLaw Tryz.underlying57 Tryz.underlying3 (zeroInt _) _ _ _ rfl hown _ _ rfl hkey ?_; intro c0 hat hwc; rw [hhas]; obtain rfl := lit_int (hat.symm.trans HC.out)))
   go_ret
   exact ⟨vret_int HR.out.symm, Below.refl _ _⟩
set_option maxRecDepth 100000 in
set_option maxHeartbeats 2000000 in
theorem named_any (s : ByteArray) (sb : Nat) (l : List Ln) (k : Kn) (vs : List Int) (w : World) (hs : s.size ≤ maxLen) (hsc : VSc w sb l k vs) (h30 : k.ins.length ≤ 30) (hv : ∀ p, lnsG l s = some p → p < vs.length) (hi : lnsG l s = none → (insG k s).isSome = true) :
 Calls Tryz.prog 87 #[.pointer (some ⟨sb, 0, none⟩), .string s] w fun e w' => e = .returned (.int .i64 (namV l k vs s)) ∧ Below w.heap.size w w' := by
 obtain ⟨a1, a2, a3, av, c1, c2, c3, cv, b1, b2, b3, b4, ⟨hB, x0, x1, x2, x3, x4, x5, x6, x7⟩, hin, _, _, hva, ⟨D, hown, hD⟩, hm2, _⟩ := hsc
 obtain ⟨E, hownE, hE⟩ := hm2.below (show Below w.heap.size w w.drew from kbelow_dN (Below.refl _ w) 1)
 have hkey := key_of hs
 have hD1 := (hD s).1
 have HD2 := Lib.hid (hD s).2
 have HE2 := Lib.hid (hE s).2
 clear hD hE
 cases hg : lnsG l s with
 | none =>
   obtain ⟨q, hq⟩ := Option.isSome_iff_exists.1 (hi hg)
   have hqn : q < k.ins.length := vlast_lt hq
   have HR : Hid (namV l k vs s = (anth k.ins q).mon) := Lib.hid (by unfold namV; rw [hg, hq]; rfl)
   have hhas : Maps.has D (.string s.data.toList) = false := by rw [hD1]; show (lnsG l s).isSome = false; rw [hg]; rfl
   have hC : E.atKey (.string s.data.toList) (.lit (.int .i64 0)) = .lit (.int .i64 (q : Int)) := by
    have h := HE2.out
    rw [show lastN (fun j => (anth k.ins j).name) k.ins.length s = some q from hq] at h
    exact h
   obtain ⟨c, hrun, hat, _⟩ := hownE.lookup_int strLaw Tryz.underlying57 Tryz.underlying3 (zeroInt _) hkey
   obtain rfl := lit_int (hat.symm.trans hC)
   obtain ⟨b, o, rfl, hcell⟩ := hin.open rfl (by omega)
   obtain ⟨z0, z1⟩ := hcell w (Below.refl _ _) q hqn
   clear hcell hD1 hat hC hv hi hva HD2 HE2
   generalize k.ins.length = n1 at *
   have hp' : (q : Int) < (n1 : Int) := by omega
   go_enter Tryz.func87, Tryz.ntmps87
   go_wp2_with (first
    | (at_lookup; refine wpList_lookup_own_ok_int _ rfl _ _ 57 rfl 9 3 .i64 strLaw Tryz.underlying57 Tryz.underlying3 (zeroInt _) _ _ _ rfl hown _ _ rfl hkey ?_; intro c0 hat hwc; rw [hhas]))
   go_region
   go_wp2_with fail
   go_ret
   exact ⟨vret_int HR.out.symm, vbelow_dN (Below.refl _ _) 1⟩
 | some p =>
   have hp : p < vs.length := hv p hg
   have HR : Hid (namV l k vs s = vs.getD p 0) := Lib.hid (by unfold namV; rw [hg])
   have hhas : Maps.has D (.string s.data.toList) = true := by rw [hD1]; show (lnsG l s).isSome = true; rw [hg]; rfl
   have HC : Hid (D.atKey (.string s.data.toList) (.lit (.int .i64 0)) = .lit (.int .i64 (p : Int))) := by
    have h := HD2.out
    rw [show lastN (fun j => (lnth l j).name) l.length s = some p from hg] at h
    exact h
   obtain h | ⟨b, o, rfl, _, hcell⟩ := hva
   ·omega
   have z1 := hcell p hp
   clear hcell hD1 hv hi HD2 HE2
   generalize vs.length = nv at *
   have hp' : (p : Int) < (nv : Int) := by omega
   go_enter Tryz.func87, Tryz.ntmps87
   go_wp2_with (first
    | (at_lookup; refine wpList_lookup_own_ok_int _ rfl _ _ 57 rfl 9 3 .i64 strLaw Tryz.underlying57 Tryz.underlying3 (zeroInt _) _ _ _ rfl hown _ _ rfl hkey ?_; intro c0 hat hwc; rw [hhas]; obtain rfl := lit_int (hat.symm.trans HC.out)))
   go_ret
   exact ⟨vret_int HR.out.symm, Below.refl _ _⟩
end Go.Proofs.YtmlpedgcpffpnaaGreatDoor
namespace Go.Proofs.YtmlpedgcpffpnaaGreatDoor
open Go.RowKit Go.Maps Go.WideMaps
def oneO (kn : Kn) (k n : Int) (s : ByteArray) (v : Int) : Option Int := if k = 4 then monO (rd (v * n) 10000 5) else if k = 5 then some (taxN (tnth kn.tbs ((tbsG kn s).getD 0)).bks v) else if k = 9 then monO (v * n) else if k = 10 then monO (rd v n 5) else some (-v)
set_option maxRecDepth 100000 in
set_option maxHeartbeats 2000000 in
theorem ofOne_4 (n : Int) (s : ByteArray) (a : Option Addr) (m c : Nat) (v : Int) (sb : Nat) (kn : Kn) (w : World) (hv : monB v = true) (hn : ratB n = true) :
 Calls Tryz.prog 91 #[.pointer (some ⟨sb, 0, none⟩), .agg #[.int .i64 4, .int .i64 n, .string s, .slice a m c], .int .i64 v] w fun e w' => e = vEnd (oneO kn 4 n s v) ∧ Below w.heap.size w w'
 := by
 have HB0 := Lib.hid (kbelow_box w (.cells #[.int .i64 4, .int .i64 n, .string s, .slice a m c] 50))
 have HK := Lib.hid (fun w => rRate_any v n w hv hn)
 clear hv hn
 cases ho : monO (rd (v * n) 10000 5) with
 | none =>
   rw [ho] at HK
   simp only [vEnd] at HK
   have H : Hid (oneO kn 4 n s v = none) := Lib.hid ho
   rw [H.out]
   go_enter Tryz.func91, Tryz.ntmps91
   go_wp2_with fail
   refine (HK.out _).mono ?_
   rintro e w1 ⟨rfl, h'⟩
   have HB1 := Lib.hid (HB0.out.trans (h'.mono HB0.out.size))
   clear h'
   go_wp2_with fail
   exact ⟨rfl, rfl, HB1.out⟩
 | some m' =>
   rw [ho] at HK
   simp only [vEnd] at HK
   have H : Hid (oneO kn 4 n s v = some m') := Lib.hid ho
   rw [H.out]
   go_enter Tryz.func91, Tryz.ntmps91
   go_wp2_with fail
   refine (HK.out _).mono ?_
   rintro e w1 ⟨rfl, h'⟩
   have HB1 := Lib.hid (HB0.out.trans (h'.mono HB0.out.size))
   clear h'
   go_wp2_with fail
   go_ret
   exact ⟨rfl, HB1.out⟩
set_option maxRecDepth 100000 in
set_option maxHeartbeats 2000000 in
theorem ofOne_10 (n : Int) (s : ByteArray) (a : Option Addr) (m c : Nat) (v : Int) (sb : Nat) (kn : Kn) (w : World) (hv : monB v = true) (h1 : 1 ≤ n) (h2 : n ≤ 1000000) :
 Calls Tryz.prog 91 #[.pointer (some ⟨sb, 0, none⟩), .agg #[.int .i64 10, .int .i64 n, .string s, .slice a m c], .int .i64 v] w fun e w' => e = vEnd (oneO kn 10 n s v) ∧ Below w.heap.size w w'
 := by
 have HB0 := Lib.hid (kbelow_box w (.cells #[.int .i64 10, .int .i64 n, .string s, .slice a m c] 50))
 have HK := Lib.hid (fun w => rOver_any v n w hv h1 h2)
 clear hv h1 h2
 cases ho : monO (rd v n 5) with
 | none =>
   rw [ho] at HK
   simp only [vEnd] at HK
   have H : Hid (oneO kn 10 n s v = none) := Lib.hid ho
   rw [H.out]
   go_enter Tryz.func91, Tryz.ntmps91
   go_wp2_with fail
   refine (HK.out _).mono ?_
   rintro e w1 ⟨rfl, h'⟩
   have HB1 := Lib.hid (HB0.out.trans (h'.mono HB0.out.size))
   clear h'
   go_wp2_with fail
   exact ⟨rfl, rfl, HB1.out⟩
 | some m' =>
   rw [ho] at HK
   simp only [vEnd] at HK
   have H : Hid (oneO kn 10 n s v = some m') := Lib.hid ho
   rw [H.out]
   go_enter Tryz.func91, Tryz.ntmps91
   go_wp2_with fail
   refine (HK.out _).mono ?_
   rintro e w1 ⟨rfl, h'⟩
   have HB1 := Lib.hid (HB0.out.trans (h'.mono HB0.out.size))
   clear h'
   go_wp2_with fail
   go_ret
   exact ⟨rfl, HB1.out⟩
set_option maxRecDepth 100000 in
set_option maxHeartbeats 2000000 in
theorem ofOne_9 (n : Int) (s : ByteArray) (a : Option Addr) (m c : Nat) (v : Int) (sb : Nat) (kn : Kn) (w : World) (hv : monB v = true) (h1 : 1 ≤ n) (h2 : n ≤ 1000000) :
 Calls Tryz.prog 91 #[.pointer (some ⟨sb, 0, none⟩), .agg #[.int .i64 9, .int .i64 n, .string s, .slice a m c], .int .i64 v] w fun e w' => e = vEnd (oneO kn 9 n s v) ∧ Below w.heap.size w w'
 := by
 have HB0 := Lib.hid (kbelow_box w (.cells #[.int .i64 9, .int .i64 n, .string s, .slice a m c] 50))
 have HK := Lib.hid (fun w => rMoney_any (v * n) w)
 have hw1 : IntKind.i64.wrap (v * n) = v * n := IntWalk.i64_in _ (by
  have hm := of_decide_eq_true hv
  have u1 : v * n ≤ 1000000000000 * n := Int.mul_le_mul_of_nonneg_right hm.2 (by omega)
  have u2 : -1000000000000 * n ≤ v * n := Int.mul_le_mul_of_nonneg_right hm.1 (by omega)
  omega)
 clear hv h1 h2
 cases ho : monO (v * n) with
 | none =>
   rw [ho] at HK
   simp only [vEnd] at HK
   have H : Hid (oneO kn 9 n s v = none) := Lib.hid ho
   rw [H.out]
   go_enter Tryz.func91, Tryz.ntmps91
   go_wp2_with fail
   refine (HK.out _).mono ?_
   rintro e w1 ⟨rfl, h'⟩
   have HB1 := Lib.hid ((show Below w.heap.size w w1 by subst w1; exact HB0.out))
   clear h'
   go_wp2_with fail
   exact ⟨rfl, rfl, HB1.out⟩
 | some m' =>
   rw [ho] at HK
   simp only [vEnd] at HK
   have H : Hid (oneO kn 9 n s v = some m') := Lib.hid ho
   rw [H.out]
   go_enter Tryz.func91, Tryz.ntmps91
   go_wp2_with fail
   refine (HK.out _).mono ?_
   rintro e w1 ⟨rfl, h'⟩
   have HB1 := Lib.hid ((show Below w.heap.size w w1 by subst w1; exact HB0.out))
   clear h'
   go_wp2_with fail
   go_ret
   exact ⟨rfl, HB1.out⟩
set_option maxRecDepth 100000 in
set_option maxHeartbeats 2000000 in
theorem ofOne_6 (n : Int) (s : ByteArray) (a : Option Addr) (m c : Nat) (v : Int) (sb : Nat) (kn : Kn) (w : World) (hv : monB v = true) :
 Calls Tryz.prog 91 #[.pointer (some ⟨sb, 0, none⟩), .agg #[.int .i64 6, .int .i64 n, .string s, .slice a m c], .int .i64 v] w fun e w' => e = vEnd (oneO kn 6 n s v) ∧ Below w.heap.size w w'
 := by
 have HB0 := Lib.hid (kbelow_box w (.cells #[.int .i64 6, .int .i64 n, .string s, .slice a m c] 50))
 have hw1 : IntKind.i64.wrap (-v) = -v := IntWalk.i64_in _ (by
  have hm := of_decide_eq_true hv
  omega)
 clear hv
 have H : Hid (oneO kn 6 n s v = some (-v)) := Lib.hid rfl
 rw [H.out]
 go_enter Tryz.func91, Tryz.ntmps91
 go_wp2_with fail
 go_ret
 exact ⟨rfl, HB0.out⟩
end Go.Proofs.YtmlpedgcpffpnaaGreatDoor
namespace Go.Proofs.YtmlpedgcpffpnaaGreatDoor
open Go.RowKit Go.Maps Go.WideMaps
theorem oneO_5 (kn : Kn) (n : Int) (s : ByteArray) (v : Int) : oneO kn 5 n s v = some (taxN (tnth kn.tbs ((tbsG kn s).getD 0)).bks v) := rfl
set_option maxRecDepth 100000 in
set_option maxHeartbeats 4000000 in
theorem ofOne_5 (n : Int) (s : ByteArray) (a : Option Addr) (m c : Nat) (v : Int) (sb : Nat) (l : List Ln) (kn : Kn) (vs : List Int) (q : Nat) (w : World) (hs : s.size ≤ maxLen) (hsc : VSc w sb l kn vs) (h30 : kn.tbs.length ≤ 30) (hq : tbsG kn s = some q) (ht : tblE (tnth kn.tbs q).name (tnth kn.tbs q).bks = 0) (hv : monB v = true) :
 Calls Tryz.prog 91 #[.pointer (some ⟨sb, 0, none⟩), .agg #[.int .i64 5, .int .i64 n, .string s, .slice a m c], .int .i64 v] w fun e w' => e = vEnd (oneO kn 5 n s v) ∧ Below w.heap.size w w' := by
 have hqn : q < kn.tbs.length := vlast_lt hq
 have H : Hid (vEnd (oneO kn 5 n s v) = .returned (.int .i64 (taxN (tnth kn.tbs q).bks v))) := Lib.hid (by rw [oneO_5, hq]; rfl)
 rw [H.out]
 clear H
 have HB0 := Lib.hid (kbelow_box w (.cells #[.int .i64 5, .int .i64 n, .string s, .slice a m c] 50))
 have hbox : (w.alloc (.cells #[.int .i64 5, .int .i64 n, .string s, .slice a m c] 50)).cell? ⟨w.heap.size, 2, none⟩ = some (.string s) := by simp
 obtain ⟨a1, a2, a3, av, c1, c2, c3, cv, b1, b2, b3, b4, ⟨hB, x0, x1, x2, x3, x4, x5, x6, x7⟩, _, htb, _, _, _, _, hm3, _⟩ := hsc.below HB0.out
 clear hsc x0 x2 x3 x4 x6 x7
 have hkey := key_of hs
 obtain ⟨E, hownE, hE⟩ := hm3.below (show Below _ _ (w.alloc (.cells #[.int .i64 5, .int .i64 n, .string s, .slice a m c] 50)).drew from kbelow_dN (Below.refl _ _) 1)
 obtain ⟨c, hrun, hat, _⟩ := hownE.lookup_int strLaw Tryz.underlying57 Tryz.underlying3 (zeroInt _) hkey
 have hC : E.atKey (.string s.data.toList) (.lit (.int .i64 0)) = .lit (.int .i64 (q : Int)) := by
  have h := (hE s).2
  rw [show lastN (fun j => (tnth kn.tbs j).name) kn.tbs.length s = some q from hq] at h
  exact h
 obtain rfl := lit_int (hat.symm.trans hC)
 obtain ⟨b, o, rfl, hcell⟩ := htb.open rfl (by omega)
 obtain ⟨at', ct, z0, z1, hcb, hz2, hz3⟩ := hcell _ (Below.refl _ _) q hqn
 have HCB := Lib.hid hcb
 have HT := Lib.hid (fun w (hc : CameB w at' (tnth kn.tbs q).bks) => rTax_any _ at' _ ct _ v w hc rfl hz3 ht hv)
 clear hcell hat hC hE hownE hm3 htb hcb ht hv hq hs hkey hz2
 generalize taxN (tnth kn.tbs q).bks v = r at *
 generalize (tnth kn.tbs q).bks = bks at *
 generalize (tnth kn.tbs q).name = nm at *
 generalize bks.length = nb at *
 generalize kn.tbs.length = n2 at *
 have hp' : (q : Int) < (n2 : Int) := by omega
 go_enter Tryz.func91, Tryz.ntmps91
 go_wp2_with fail
 generalize (w.alloc (.cells #[.int .i64 5, .int .i64 n, .string s, .slice a m c] 50)) = W at *
 go_region_held3 (fun w' => w'.cell? ⟨sb, 1, none⟩ = some (.slice (some ⟨b, o, none⟩) n2 c2) ∧ w'.cell? ⟨sb, 5, none⟩ = some (.map (some b3)) ∧ w'.cell? ⟨w.heap.size, 2, none⟩ = some (.string s) ∧ w'.cell? ⟨b, o + q * 2, none⟩ = some (.string nm) ∧ w'.cell? ⟨b, o + q * 2 + 1, none⟩ = some (.slice at' nb ct)) (go_keep)
  (first
   | (go_at_call 132; refine (HT.out _ (HCB.out.below (kbelow_dN (Below.refl _ _) 1))).mono ?_; rintro e w1 ⟨rfl, hb1⟩
      have HB1 := Lib.hid (HB0.out.trans ((nfrom_drew hb1).mono HB0.out.size))
      have hX := nfrom_drew hb1
      have r0 := (hX.cell (p := ⟨sb, 1, none⟩) hB).trans x1
      have r1 := (hX.cell (p := ⟨sb, 5, none⟩) hB).trans x5
      have r2 := (hX.cell (p := ⟨w.heap.size, 2, none⟩) (blt_of_cell hbox)).trans hbox
      have r3 := (hX.cell (p := ⟨b, o + q * 2, none⟩) (blt_of_cell z0)).trans z0
      have r4 := (hX.cell (p := ⟨b, o + q * 2 + 1, none⟩) (blt_of_cell z1)).trans z1
      clear hb1 hX))
 go_wp2_with fail
 go_ret
 exact ⟨rfl, HB1.out⟩
end Go.Proofs.YtmlpedgcpffpnaaGreatDoor
namespace Go.Proofs.YtmlpedgcpffpnaaGreatDoor
open Go.RowKit Go.Maps Go.WideMaps
def Ex.val (l : List Ln) (kn : Kn) (vs : List Int) : Ex → Option Int
 | .no => none
 | .mk k n s _ kid =>
   if k = 1 then some n else if k = 2 then some (namV l kn vs s) else if k = 3 then some (yearV kn s)
   else if k = 7 ∨ k = 8 ∨ k = 11 ∨ k = 12 then ((kid 0).val l kn vs).bind fun a => ((kid 1).val l kn vs).bind fun b => twoO k a b
   else if k = 13 then ((kid 0).val l kn vs).bind fun a => ((kid 1).val l kn vs).bind fun b => if holdB n a b = true then (kid 2).val l kn vs else (kid 3).val l kn vs
   else ((kid 0).val l kn vs).bind fun a => oneO kn k n s a
def ComesIs (l : List Ln) (kn : Kn) (vs : List Int) (x : Ex) : Prop := ∀ (a : Option Addr) (c sb : Nat) (w : World), VSc w sb l kn vs → KidsAt w x a →
    Calls Tryz.prog 46 #[.pointer (some ⟨sb, 0, none⟩), .agg #[.int .i64 x.k, .int .i64 x.n, .string x.s, .slice a x.m c]] w fun e w' => e = vEnd (x.val l kn vs) ∧ Below w.heap.size w w'
set_option maxRecDepth 100000 in
set_option maxHeartbeats 1000000 in
theorem comes_1 (l : List Ln) (kn : Kn) (vs : List Int) (n : Int) (s : ByteArray) (kid : Nat → Ex) : ComesIs l kn vs (.mk 1 n s 0 kid) := by
 intro a c sb w hsc hk
 show Calls Tryz.prog 46 #[.pointer (some ⟨sb, 0, none⟩), .agg #[.int .i64 1, .int .i64 n, .string s, .slice a (0 : Nat) c]] w _
 have HB0 := Lib.hid (kbelow_box w (.cells #[.int .i64 1, .int .i64 n, .string s, .slice a (0 : Nat) c] 50))
 have H : Hid ((Ex.mk 1 n s 0 kid).val l kn vs = some n) := Lib.hid (by unfold Ex.val; rfl)
 rw [H.out]
 clear hsc hk
 go_enter Tryz.func46, Tryz.ntmps46
 go_wp2_with fail
 go_ret
 exact ⟨rfl, HB0.out⟩
set_option maxRecDepth 100000 in
set_option maxHeartbeats 1000000 in
theorem comes_2 (l : List Ln) (kn : Kn) (vs : List Int) (n : Int) (s : ByteArray) (kid : Nat → Ex) (h30 : kn.ins.length ≤ 30) (hv : ∀ p, lnsG l s = some p → p < vs.length) (hi : lnsG l s = none → (insG kn s).isSome = true) : ComesIs l kn vs (.mk 2 n s 0 kid) := by
 intro a c sb w hsc hk
 show Calls Tryz.prog 46 #[.pointer (some ⟨sb, 0, none⟩), .agg #[.int .i64 2, .int .i64 n, .string s, .slice a (0 : Nat) c]] w _
 have HB0 := Lib.hid (kbelow_box w (.cells #[.int .i64 2, .int .i64 n, .string s, .slice a (0 : Nat) c] 50))
 have H : Hid ((Ex.mk 2 n s 0 kid).val l kn vs = some (namV l kn vs s)) := Lib.hid (by unfold Ex.val; rfl)
 rw [H.out]
 have HS := Lib.hid (hsc.below HB0.out)
 have HN := Lib.hid (show s.size ≤ maxLen from hk.name)
 clear hsc hk
 go_enter Tryz.func46, Tryz.ntmps46
 go_wp2_with fail
 refine (named_any s sb l kn vs _ HN.out HS.out h30 hv hi).mono ?_
 rintro e w1 ⟨rfl, hb1⟩
 have HB1 := Lib.hid (HB0.out.trans (hb1.mono HB0.out.size))
 clear hb1
 go_wp2_with fail
 go_ret
 exact ⟨rfl, HB1.out⟩
set_option maxRecDepth 100000 in
set_option maxHeartbeats 1000000 in
theorem comes_3 (l : List Ln) (kn : Kn) (vs : List Int) (n : Int) (s : ByteArray) (kid : Nat → Ex) (h30 : kn.yrs.length ≤ 30) : ComesIs l kn vs (.mk 3 n s 0 kid) := by
 intro a c sb w hsc hk
 show Calls Tryz.prog 46 #[.pointer (some ⟨sb, 0, none⟩), .agg #[.int .i64 3, .int .i64 n, .string s, .slice a (0 : Nat) c]] w _
 have HB0 := Lib.hid (kbelow_box w (.cells #[.int .i64 3, .int .i64 n, .string s, .slice a (0 : Nat) c] 50))
 have H : Hid ((Ex.mk 3 n s 0 kid).val l kn vs = some (yearV kn s)) := Lib.hid (by unfold Ex.val; rfl)
 rw [H.out]
 have HS := Lib.hid (hsc.below HB0.out)
 have HN := Lib.hid (show s.size ≤ maxLen from hk.name)
 clear hsc hk
 go_enter Tryz.func46, Tryz.ntmps46
 go_wp2_with fail
 refine (inYear_any s sb l kn vs _ HN.out HS.out h30).mono ?_
 rintro e w1 ⟨rfl, hb1⟩
 have HB1 := Lib.hid (HB0.out.trans (hb1.mono HB0.out.size))
 clear hb1
 go_wp2_with fail
 go_ret
 exact ⟨rfl, HB1.out⟩
end Go.Proofs.YtmlpedgcpffpnaaGreatDoor
