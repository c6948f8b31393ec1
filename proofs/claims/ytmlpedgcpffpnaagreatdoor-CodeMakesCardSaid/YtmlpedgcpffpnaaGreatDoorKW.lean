/-
  Promise I1: the reference's ValueOf: what its walks lean on.
  Promise I1: the reference's ValueOf: a number, a name, a year.
  Promise I1: the reference's ValueOf: expressions of one Kid.
  Promise I1: the reference's ValueOf: expressions of two Kids.
-/
import Derived.Test.YtmlpedgcpffpnaaGreatDoorKV
import Derived.Test.YtmlpedgcpffpnaaGreatDoorKE
import Derived.Test.YtmlpedgcpffpnaaGreatDoorKC
import Derived.Test.YtmlpedgcpffpnaaGreatDoorKO
import Derived.Lib.QuietBelow
import Derived.BigQuiet
import Derived.Deep.RegionHeldLaw
namespace Go.Proofs.YtmlpedgcpffpnaaGreatDoor
open Go.RowKit Go.Maps Go.WideMaps
theorem vLess : ∀ (x y : List UInt8), Op.bytesLess x y = decide (x < y)
 | [], [] => by simp [Op.bytesLess]
 | _ :: _, [] => by simp [Op.bytesLess]
 | [], _ :: _ => by simp [Op.bytesLess]
 | a :: x, b :: y => by
   rw [Op.bytesLess, vLess x y]
   simp only [List.cons_lt_cons_iff]
   by_cases h1 : a < b <;> by_cases h2 : a = b <;> by_cases h3 : x < y <;> simp [h1, h2, h3]
theorem leS_no {a b : ByteArray} (h : leS b a = false) : a.toList < b.toList := by
 unfold leS at h
 rw [vLess, Bool.or_eq_false_iff] at h
 have h1 : ¬ b.toList < a.toList := of_decide_eq_false h.1
 have h2 : b.toList ≠ a.toList := by simpa using h.2
 refine Classical.byContradiction fun h3 => h2 (List.le_antisymm (List.not_lt.1 h3) (List.not_lt.1 h1))
theorem up_lt {f : Nat → ByteArray} {n : Nat} (h : upN f n = true) : ∀ (j i : Nat), i < j → j < n → (f i).toList < (f j).toList
 | 0, i, hi, _ => by omega
 | j + 1, i, hi, hj => by
   have h1 := leS_no (upN_iff.1 h j hj)
   by_cases e : i = j
   ·subst e; exact h1
   ·exact List.lt_trans (up_lt h j i (by omega) (by omega)) h1
theorem up_apart {f : Nat → ByteArray} {n : Nat} (h : upN f n = true) : ∀ i j, i < n → j < n → (f i).data = (f j).data → i = j := by
 intro i j hi hj e
 have e' : (f i).toList = (f j).toList := by rw [ByteArray.toList_eq, ByteArray.toList_eq, e]
 rcases Nat.lt_trichotomy i j with q | q | q
 ·have := up_lt h j i q hj
  rw [e'] at this
  exact absurd this (List.lt_irrefl _)
 ·exact q
 ·have := up_lt h i j q hi
  rw [e'] at this
  exact absurd this (List.lt_irrefl _)
theorem last_is {f : Nat → ByteArray} {s : ByteArray} : ∀ {n p : Nat}, lastN f n s = some p → p < n ∧ (f p).data = s.data
 | 0, p, h => by cases h
 | n + 1, p, h => by
   rw [lastN] at h
   split at h
   ·next e => injection h with h; subst h; exact ⟨by omega, e⟩
   ·have := last_is h; exact ⟨by omega, this.2⟩
theorem last_no {f : Nat → ByteArray} {s : ByteArray} : ∀ {n : Nat}, lastN f n s = none → ∀ j, j < n → (f j).data ≠ s.data
 | 0, _, j, hj => by omega
 | n + 1, h, j, hj => by
   rw [lastN] at h
   split at h
   ·cases h
   ·next e =>
    by_cases q : j = n
    ·subst q; exact e
    ·exact last_no h j (by omega)
theorem first_is {f : Nat → ByteArray} {s : ByteArray} : ∀ {n p : Nat}, firstN f n s = some p → p < n ∧ (f p).data = s.data
 | 0, p, h => by cases h
 | n + 1, p, h => by
   rw [firstN] at h
   split at h
   ·next v hv => injection h with h; subst h; have := first_is hv; exact ⟨by omega, this.2⟩
   ·split at h
    ·next e => injection h with h; subst h; exact ⟨by omega, e⟩
    ·cases h
theorem first_no {f : Nat → ByteArray} {s : ByteArray} : ∀ {n : Nat}, firstN f n s = none → ∀ j, j < n → (f j).data ≠ s.data
 | 0, _, j, hj => by omega
 | n + 1, h, j, hj => by
   rw [firstN] at h
   split at h
   ·cases h
   ·next hv =>
    split at h
    ·cases h
    ·next e =>
     by_cases q : j = n
     ·subst q; exact e
     ·exact first_no hv j (by omega)
theorem first_last {f : Nat → ByteArray} {n : Nat} (hu : upN f n = true) (s : ByteArray) : firstN f n s = lastN f n s := by
 cases h1 : firstN f n s with
 | none =>
   cases h2 : lastN f n s with
   | none => rfl
   | some p => exact absurd (last_is h2).2 (first_no h1 p (last_is h2).1)
 | some p =>
   cases h2 : lastN f n s with
   | none => exact absurd (first_is h1).2 (last_no h2 p (first_is h1).1)
   | some q => rw [up_apart hu p q (first_is h1).1 (last_is h2).1 ((first_is h1).2.trans (last_is h2).2.symm)]
theorem last_pre {f : Nat → ByteArray} {s : ByteArray} {p n' : Nat} (hp : p < n') : ∀ {n : Nat}, n' ≤ n → lastN f n s = some p → lastN f n' s = some p
 | 0, hn, h => by cases h
 | n + 1, hn, h => by
   by_cases e : n' = n + 1
   ·subst e; exact h
   ·rw [lastN] at h
    split at h
    ·injection h with h; omega
    ·exact last_pre hp (by omega) h
theorem last_none_pre {f : Nat → ByteArray} {s : ByteArray} {n' : Nat} : ∀ {n : Nat}, n' ≤ n → lastN f n s = none → lastN f n' s = none
 | 0, hn, h => by obtain rfl : n' = 0 := by omega
                  rfl
 | n + 1, hn, h => by
   by_cases e : n' = n + 1
   ·subst e; exact h
   ·rw [lastN] at h
    split at h
    ·cases h
    ·exact last_none_pre (by omega) h
theorem kn_up {k : Kn} (h : knE k = 0) : upN (fun j => (anth k.ins j).name) k.ins.length = true ∧ upN (fun j => (tnth k.tbs j).name) k.tbs.length = true ∧ upN (fun j => (anth k.yrs j).name) k.yrs.length = true := by
 have ams : ∀ l : List Am, amsE l = 0 → upN (fun j => (anth l j).name) l.length = true := by
  intro l h
  unfold amsE at h
  split at h
  ·cases h
  ·split at h
   ·cases h
   ·split at h
    ·cases h
    ·next q => simpa using q
 unfold knE at h
 split at h
 ·cases h
 ·split at h
  ·next h1 =>
   split at h
   ·next h2 =>
    refine ⟨ams _ h1, ?_, ams _ h2⟩
    unfold tbsE at h
    split at h
    ·split at h
     ·cases h
     ·next q => simpa using q
    ·next q => exact absurd h q
   ·next h2 => exact absurd h h2
  ·next h1 => exact absurd h h1
def OkIs (o : Option Int) (z : Int) (b : Bool) : Prop := (o = none ∧ b = false) ∨ (o = some z ∧ b = true)
theorem OkIs.mon {z : Int} : OkIs (monO z) z (monB z) := by
 unfold monO
 split
 ·next h => exact .inr ⟨rfl, h⟩
 ·next h => exact .inl ⟨rfl, by simpa using h⟩
theorem OkIs.of {z : Int} (h : monB z = true) : OkIs (some z) z (monB z) := .inr ⟨rfl, h⟩
theorem rvgrow_below {w w' : World} {B : Nat} {v : Value} {l : List Int} (h : Grow w B v l) (hb : Below w.heap.size w w') : Grow w' B v l := by
 refine World.ownsRow.kept (row := none) h ⟨hb.os, hb.tape, hb.output, hb.size, fun k hk _ => hb.block k hk⟩ ?_
 cases v.ownBlock with
 | none => exact .inl rfl
 | some k => exact .inr (Option.some_ne_none k)
def kvN (l : List Ln) (kn : Kn) (vs : List Int) (kid : Nat → Ex) (q : Nat) : Int := ((kid q).val l kn vs).getD 0
def kvL (l : List Ln) (kn : Kn) (vs : List Int) (kid : Nat → Ex) (j : Nat) : List Int := (List.range j).map (kvN l kn vs kid)
theorem kvL_len (l : List Ln) (kn : Kn) (vs : List Int) (kid : Nat → Ex) (j : Nat) : (kvL l kn vs kid j).length = j := by simp [kvL]
theorem kvL_succ (l : List Ln) (kn : Kn) (vs : List Int) (kid : Nat → Ex) (j : Nat) : kvL l kn vs kid (j + 1) = kvL l kn vs kid j ++ [kvN l kn vs kid j] := by simp [kvL, List.range_succ]
theorem kvN_of {l : List Ln} {kn : Kn} {vs : List Int} {kid : Nat → Ex} {q : Nat} {z : Int} (h : (kid q).val l kn vs = some z) : kvN l kn vs kid q = z := by unfold kvN; rw [h]; rfl
theorem kvL_at (l : List Ln) (kn : Kn) (vs : List Int) (kid : Nat → Ex) {j q : Nat} (h : q < j) : nth (kvL l kn vs kid j) q = kvN l kn vs kid q := by simp [nth, kvL, List.getD_eq_getElem?_getD, h]
structure RvIn (w : World) (l : List Ln) (kn : Kn) (vs : List Int) (al : Option Addr) (nl : Nat) (av : Option Addr) (nv : Nat) (a1 a2 a3 : Option Addr) (n1 n2 n3 : Nat) : Prop where
 came : CameL w al l
 hl : l.length = nl
 ml : nl ≤ maxLen
 v : VAt w av vs
 hv : vs.length = nv
 vl : nv ≤ nl
 k : CameK w a1 a2 a3 kn
 h1 : kn.ins.length = n1
 h2 : kn.tbs.length = n2
 h3 : kn.yrs.length = n3
theorem RvIn.below {w w' : World} {l : List Ln} {kn : Kn} {vs : List Int} {al : Option Addr} {nl : Nat} {av : Option Addr} {nv : Nat} {a1 a2 a3 : Option Addr} {n1 n2 n3 : Nat} (h : RvIn w l kn vs al nl av nv a1 a2 a3 n1 n2 n3) (hb : Below w.heap.size w w') : RvIn w' l kn vs al nl av nv a1 a2 a3 n1 n2 n3 :=
 ⟨h.came.below hb, h.hl, h.ml, h.v.below hb, h.hv, h.vl, ⟨h.k.1.below hb, h.k.2.1.below hb, h.k.2.2.1.below hb, h.k.2.2.2⟩, h.h1, h.h2, h.h3⟩
def ValIs (l : List Ln) (kn : Kn) (vs : List Int) (x : Ex) : Prop := ∀ (a al av a1 a2 a3 : Option Addr) (c nl cl nv cv n1 c1 n2 c2 n3 c3 : Nat) (w : World), RvIn w l kn vs al nl av nv a1 a2 a3 n1 n2 n3 → KidsAt w x a →
    Calls Tryz.prog 40 #[.agg #[.int .i64 x.k, .int .i64 x.n, .string x.s, .slice a x.m c], .slice al nl cl, .slice av nv cv, .agg #[.slice a1 n1 c1, .slice a2 n2 c2, .slice a3 n3 c3]] w fun e w' => (∃ (z : Int) (b : Bool), e = .returned (.tuple #[.int .i64 z, .bool b]) ∧ OkIs (x.val l kn vs) z b) ∧ Below w.heap.size w w'
end Go.Proofs.YtmlpedgcpffpnaaGreatDoor
set_option linter.unusedSimpArgs false
namespace Go.Proofs.YtmlpedgcpffpnaaGreatDoor
open Go.RowKit Go.Maps Go.WideMaps Go.Lib
set_option maxRecDepth 100000 in
set_option maxHeartbeats 1000000 in
theorem val_1 (l : List Ln) (kn : Kn) (vs : List Int) (n : Int) (s : ByteArray) (kid : Nat → Ex) (hm : monB n = true) : ValIs l kn vs (.mk 1 n s 0 kid) := by
 have H : Hid ((Ex.mk 1 n s 0 kid).val l kn vs = some n) := Lib.hid (by unfold Ex.val; rfl)
 have HM := Lib.hid hm
 clear hm
 intro a al av a1 a2 a3 c nl cl nv cv n1 c1 n2 c2 n3 c3 w hin hk
 show Calls Tryz.prog 40 #[.agg #[.int .i64 1, .int .i64 n, .string s, .slice a (0 : Nat) c], .slice al nl cl, .slice av nv cv, .agg #[.slice a1 n1 c1, .slice a2 n2 c2, .slice a3 n3 c3]] w _
 have HBA := Lib.hid (kbelow_box w (.cells #[.int .i64 1, .int .i64 n, .string s, .slice a (0 : Nat) c] 50))
 have HXA := Lib.hid (XBox.made w 1 n s a 0 c 50)
 have hszA : (w.alloc (.cells #[.int .i64 1, .int .i64 n, .string s, .slice a (0 : Nat) c] 50)).heap.size = w.heap.size + 1 := by simp
 have HBB := Lib.hid (kbelow_box (w.alloc (.cells #[.int .i64 1, .int .i64 n, .string s, .slice a (0 : Nat) c] 50)) (.cells #[.slice a1 n1 c1, .slice a2 n2 c2, .slice a3 n3 c3] 26))
 have HK0 := Lib.hid (KAt.made (w.alloc (.cells #[.int .i64 1, .int .i64 n, .string s, .slice a (0 : Nat) c] 50)) (.slice a1 n1 c1) (.slice a2 n2 c2) (.slice a3 n3 c3) 26)
 rw [hszA] at HK0
 have HX0 := Lib.hid (HXA.out.below HBB.out)
 have HB0 := Lib.hid (HBA.out.trans (HBB.out.mono HBA.out.size))
 have HIN := Lib.hid (hin.below HB0.out)
 have HNM := Lib.hid (show s.size ≤ maxLen from hk.name)
 have HKD := Lib.hid (hk.below HB0.out)
 clear hin hk HBA HXA HBB hszA
 go_enter Tryz.func40, Tryz.ntmps40
 go_wp2_with fail
 generalize ((w.alloc (.cells #[.int .i64 1, .int .i64 n, .string s, .slice a (0 : Nat) c] 50)).alloc (.cells #[.slice a1 n1 c1, .slice a2 n2 c2, .slice a3 n3 c3] 26)) = W at *
 go_loopw [10, 11] (fun v i wr => v = .slice none 0 0 ∧ i = .int .i64 0 ∧ Below W.heap.size W wr) (fun _ _ _ => 0)
 case atStart => exact ⟨rfl, rfl, Below.refl _ _⟩
 case round =>
  obtain ⟨rfl, rfl, hb⟩ := hrel
  have HXr := Lib.hid (HX0.out.below hb)
  have HKr := Lib.hid (KAt.below HK0.out hb)
  have HINr := Lib.hid (HIN.out.below hb)
  have HBr := Lib.hid (HB0.out.trans (hb.mono HB0.out.size))
  obtain ⟨_, x0, x1, x2, x3⟩ := HXr.out
  obtain ⟨_, k0, k1, k2⟩ := HKr.out
  clear hb
  go_wp2_with (first | (go_at_call 39; refine (isMoney_ref _ _).mono ?_; rintro e w' ⟨rfl, h'⟩; subst w'))
  refine bodyPost_ret (v := .tuple #[.int .i64 (n), .bool (monB n)]) (by simp [results, Tryz.results40, go_sem] <;> rfl) rfl ?_
  exact ⟨⟨_, _, rfl, by rw [H.out]; exact OkIs.of HM.out⟩, HBr.out⟩
set_option maxRecDepth 100000 in
set_option maxHeartbeats 1000000 in
theorem val_3 (l : List Ln) (kn : Kn) (vs : List Int) (n : Int) (s : ByteArray) (kid : Nat → Ex) (hup : upN (fun j => (anth kn.yrs j).name) kn.yrs.length = true) (hym : ∀ j, j < kn.yrs.length → monB (anth kn.yrs j).mon = true) : ValIs l kn vs (.mk 3 n s 0 kid) := by
 have H : Hid ((Ex.mk 3 n s 0 kid).val l kn vs = some (yearV kn s)) := Lib.hid (by unfold Ex.val; rfl)
 have HUP := Lib.hid hup
 have HYM := Lib.hid hym
 clear hup hym
 intro a al av a1 a2 a3 c nl cl nv cv n1 c1 n2 c2 n3 c3 w hin hk
 show Calls Tryz.prog 40 #[.agg #[.int .i64 3, .int .i64 n, .string s, .slice a (0 : Nat) c], .slice al nl cl, .slice av nv cv, .agg #[.slice a1 n1 c1, .slice a2 n2 c2, .slice a3 n3 c3]] w _
 have HBA := Lib.hid (kbelow_box w (.cells #[.int .i64 3, .int .i64 n, .string s, .slice a (0 : Nat) c] 50))
 have HXA := Lib.hid (XBox.made w 3 n s a 0 c 50)
 have hszA : (w.alloc (.cells #[.int .i64 3, .int .i64 n, .string s, .slice a (0 : Nat) c] 50)).heap.size = w.heap.size + 1 := by simp
 have HBB := Lib.hid (kbelow_box (w.alloc (.cells #[.int .i64 3, .int .i64 n, .string s, .slice a (0 : Nat) c] 50)) (.cells #[.slice a1 n1 c1, .slice a2 n2 c2, .slice a3 n3 c3] 26))
 have HK0 := Lib.hid (KAt.made (w.alloc (.cells #[.int .i64 3, .int .i64 n, .string s, .slice a (0 : Nat) c] 50)) (.slice a1 n1 c1) (.slice a2 n2 c2) (.slice a3 n3 c3) 26)
 rw [hszA] at HK0
 have HX0 := Lib.hid (HXA.out.below HBB.out)
 have HB0 := Lib.hid (HBA.out.trans (HBB.out.mono HBA.out.size))
 have HIN := Lib.hid (hin.below HB0.out)
 have HNM := Lib.hid (show s.size ≤ maxLen from hk.name)
 have HKD := Lib.hid (hk.below HB0.out)
 clear hin hk HBA HXA HBB hszA
 go_enter Tryz.func40, Tryz.ntmps40
 go_wp2_with fail
 generalize ((w.alloc (.cells #[.int .i64 3, .int .i64 n, .string s, .slice a (0 : Nat) c] 50)).alloc (.cells #[.slice a1 n1 c1, .slice a2 n2 c2, .slice a3 n3 c3] 26)) = W at *
 go_loopw [10, 11] (fun v i wr => v = .slice none 0 0 ∧ i = .int .i64 0 ∧ Below W.heap.size W wr) (fun _ _ _ => 0)
 case atStart => exact ⟨rfl, rfl, Below.refl _ _⟩
 case round =>
  obtain ⟨rfl, rfl, hb⟩ := hrel
  have HXr := Lib.hid (HX0.out.below hb)
  have HKr := Lib.hid (KAt.below HK0.out hb)
  have HINr := Lib.hid (HIN.out.below hb)
  have HBr := Lib.hid (HB0.out.trans (hb.mono HB0.out.size))
  obtain ⟨_, x0, x1, x2, x3⟩ := HXr.out
  obtain ⟨_, k0, k1, k2⟩ := HKr.out
  clear hb
  have HYR : Hid (∀ W', Below wr.heap.size wr W' → Calls Tryz.prog 30 #[.slice a3 n3 c3, .string s] W' fun e w' => e = .returned (.int .i64 (optI (yrsG kn s))) ∧ Below W'.heap.size W' w') := fun W' hb => by
   have h := amountAt_ref a3 n3 c3 kn.yrs s W' (HINr.out.k.2.2.1.below hb) HINr.out.h3 (by have := HINr.out.k.2.2.2.2.2.2.2; have := HINr.out.h3; omega)
   rw [← HINr.out.h3, first_last HUP.out s] at h
   rw [← HINr.out.h3]
   exact h
  go_wp2_with fail
  refine (HYR.out _ (Below.refl _ _)).mono ?_
  rintro e w1 ⟨rfl, hb1⟩
  have HB1 := Lib.hid (HBr.out.trans (hb1.mono HBr.out.size))
  have HK1 := Lib.hid (KAt.below HKr.out hb1)
  have HY1 := Lib.hid (HINr.out.k.2.2.1.below hb1)
  clear hb1 x0 x1 x2 x3 k0 k1 k2
  obtain ⟨_, k0, k1, k2⟩ := HK1.out
  cases hg : yrsG kn s with
  | none =>
    have HV : Hid (yearV kn s = 0) := Lib.hid (by unfold yearV; rw [hg])
    go_wp2_with (first | (go_at_call 39; refine (isMoney_ref _ _).mono ?_; rintro e w' ⟨rfl, h'⟩; subst w'))
    refine bodyPost_ret (v := .tuple #[.int .i64 (0), .bool (monB 0)]) (by simp [results, Tryz.results40, go_sem] <;> rfl) rfl ?_
    exact ⟨⟨_, _, rfl, by rw [H.out, HV.out]; exact OkIs.of rfl⟩, HB1.out⟩
  | some q =>
    have hqn : q < kn.yrs.length := vlast_lt hg
    have HV : Hid (yearV kn s = (anth kn.yrs q).mon) := Lib.hid (by unfold yearV; rw [hg])
    have HMQ := Lib.hid (HYM.out q hqn)
    obtain ⟨b, o, rfl, hcell⟩ := HY1.out.open HINr.out.h3 (by have := HINr.out.h3; omega)
    obtain ⟨z0, z1⟩ := hcell _ (Below.refl _ _) q (by have := HINr.out.h3; omega)
    have hq3 : (q : Int) < (n3 : Int) := by have := HINr.out.h3; omega
    have hoi : optI (some q) = (q : Int) := rfl
    rw [hoi]
    clear hcell hg hoi
    generalize (anth kn.yrs q).mon = r at *
    generalize (anth kn.yrs q).name = nm at *
    go_wp2_with (first | (go_at_call 39; refine (isMoney_ref _ _).mono ?_; rintro e w' ⟨rfl, h'⟩; subst w'))
    refine bodyPost_ret (v := .tuple #[.int .i64 (r), .bool (monB r)]) (by simp [results, Tryz.results40, go_sem] <;> rfl) rfl ?_
    exact ⟨⟨_, _, rfl, by rw [H.out, HV.out]; exact OkIs.of HMQ.out⟩, HB1.out⟩
set_option maxRecDepth 100000 in
set_option maxHeartbeats 2000000 in
theorem val_2 (l : List Ln) (kn : Kn) (vs : List Int) (n : Int) (s : ByteArray) (kid : Nat → Ex) (hS : ScOk kn vs) (hN : NameOk l kn vs s) (hup : upN (fun j => (anth kn.ins j).name) kn.ins.length = true) : ValIs l kn vs (.mk 2 n s 0 kid) := by
 have H : Hid ((Ex.mk 2 n s 0 kid).val l kn vs = some (namV l kn vs s)) := Lib.hid (by unfold Ex.val; rfl)
 have HUP := Lib.hid hup
 have HSC := Lib.hid hS
 have HNO := Lib.hid hN
 clear hup hS hN
 intro a al av a1 a2 a3 c nl cl nv cv n1 c1 n2 c2 n3 c3 w hin hk
 show Calls Tryz.prog 40 #[.agg #[.int .i64 2, .int .i64 n, .string s, .slice a (0 : Nat) c], .slice al nl cl, .slice av nv cv, .agg #[.slice a1 n1 c1, .slice a2 n2 c2, .slice a3 n3 c3]] w _
 have HBA := Lib.hid (kbelow_box w (.cells #[.int .i64 2, .int .i64 n, .string s, .slice a (0 : Nat) c] 50))
 have HXA := Lib.hid (XBox.made w 2 n s a 0 c 50)
 have hszA : (w.alloc (.cells #[.int .i64 2, .int .i64 n, .string s, .slice a (0 : Nat) c] 50)).heap.size = w.heap.size + 1 := by simp
 have HBB := Lib.hid (kbelow_box (w.alloc (.cells #[.int .i64 2, .int .i64 n, .string s, .slice a (0 : Nat) c] 50)) (.cells #[.slice a1 n1 c1, .slice a2 n2 c2, .slice a3 n3 c3] 26))
 have HK0 := Lib.hid (KAt.made (w.alloc (.cells #[.int .i64 2, .int .i64 n, .string s, .slice a (0 : Nat) c] 50)) (.slice a1 n1 c1) (.slice a2 n2 c2) (.slice a3 n3 c3) 26)
 rw [hszA] at HK0
 have HX0 := Lib.hid (HXA.out.below HBB.out)
 have HB0 := Lib.hid (HBA.out.trans (HBB.out.mono HBA.out.size))
 have HIN := Lib.hid (hin.below HB0.out)
 have HNM := Lib.hid (show s.size ≤ maxLen from hk.name)
 have HKD := Lib.hid (hk.below HB0.out)
 clear hin hk HBA HXA HBB hszA
 go_enter Tryz.func40, Tryz.ntmps40
 go_wp2_with fail
 generalize ((w.alloc (.cells #[.int .i64 2, .int .i64 n, .string s, .slice a (0 : Nat) c] 50)).alloc (.cells #[.slice a1 n1 c1, .slice a2 n2 c2, .slice a3 n3 c3] 26)) = W at *
 go_loopw [10, 11] (fun v i wr => v = .slice none 0 0 ∧ i = .int .i64 0 ∧ Below W.heap.size W wr) (fun _ _ _ => 0)
 case atStart => exact ⟨rfl, rfl, Below.refl _ _⟩
 case round =>
  obtain ⟨rfl, rfl, hb⟩ := hrel
  have HXr := Lib.hid (HX0.out.below hb)
  have HKr := Lib.hid (KAt.below HK0.out hb)
  have HINr := Lib.hid (HIN.out.below hb)
  have HBr := Lib.hid (HB0.out.trans (hb.mono HB0.out.size))
  obtain ⟨_, x0, x1, x2, x3⟩ := HXr.out
  obtain ⟨_, k0, k1, k2⟩ := HKr.out
  clear hb
  have HLA := Lib.hid (lineAt_same al nl cl l s nv wr HINr.out.came HINr.out.hl HINr.out.ml HINr.out.vl)
  go_wp2_with fail
  refine HLA.out.mono ?_
  rintro e w' ⟨rfl, h'⟩
  subst w'
  cases hg : lnsG l s with
  | some q =>
    have hqv : q < vs.length := (HNO.out).1 q hg
    have hqn : q < nv := by have := HINr.out.hv; omega
    have hqn' : (q : Int) < (nv : Int) := by omega
    have hpre : lastN (fun j => (lnth l j).name) nv s = some q := last_pre hqn (by have := HINr.out.hl; have := HINr.out.vl; omega) hg
    have HV : Hid (namV l kn vs s = vs.getD q 0) := Lib.hid (by unfold namV; rw [hg])
    have HMQ := Lib.hid (HSC.out.2.2.2.2.2.2 q hqv)
    rw [hpre, show optI (some q) = (q : Int) from rfl]
    obtain ⟨b, o, rfl, _, hcell⟩ : ∃ b o, av = some ⟨b, o, none⟩ ∧ b < wr.heap.size ∧ ∀ j, j < vs.length → wr.cell? ⟨b, o + j, none⟩ = some (.int .i64 (vs.getD j 0)) := by
     rcases HINr.out.v with h | h
     ·omega
     ·exact h
    have z0 := hcell q hqv
    clear hcell hg hpre HLA
    generalize vs.getD q 0 = r at *
    go_wp2_with (first | (go_at_call 39; refine (isMoney_ref _ _).mono ?_; rintro e w' ⟨rfl, h'⟩; subst w'))
    refine bodyPost_ret (v := .tuple #[.int .i64 (r), .bool (monB r)]) (by simp [results, Tryz.results40, go_sem] <;> rfl) rfl ?_
    exact ⟨⟨_, _, rfl, by rw [H.out, HV.out]; exact OkIs.of HMQ.out⟩, HBr.out⟩
  | none =>
    obtain ⟨q, hq⟩ := Option.isSome_iff_exists.1 ((HNO.out).2 hg)
    have hqn : q < kn.ins.length := vlast_lt hq
    have hpre : lastN (fun j => (lnth l j).name) nv s = none := last_none_pre (by have := HINr.out.hl; have := HINr.out.vl; omega) hg
    have HV : Hid (namV l kn vs s = (anth kn.ins q).mon) := Lib.hid (by unfold namV; rw [hg, hq]; rfl)
    have HMQ := Lib.hid (HSC.out.2.2.2.1 q hqn)
    have HIA : Hid (∀ W', Below wr.heap.size wr W' → Calls Tryz.prog 30 #[.slice a1 n1 c1, .string s] W' fun e w' => e = .returned (.int .i64 (q : Int)) ∧ Below W'.heap.size W' w') := fun W' hb => by
     have h := amountAt_ref a1 n1 c1 kn.ins s W' (HINr.out.k.1.below hb) HINr.out.h1 (by have := HINr.out.k.2.2.2.2.2.1; have := HINr.out.h1; omega)
     rw [← HINr.out.h1, first_last HUP.out s, show lastN (fun j => (anth kn.ins j).name) kn.ins.length s = some q from hq] at h
     rw [← HINr.out.h1]
     exact h
    rw [hpre, show optI (none : Option Nat) = -1 from rfl]
    have hn1 := HINr.out.h1
    obtain ⟨b, o, rfl, hcell⟩ := HINr.out.k.1.open hn1 (by omega)
    obtain ⟨z0, z1⟩ := hcell _ (Below.refl _ _) q (by omega)
    have hq1 : (q : Int) < (n1 : Int) := by omega
    clear hcell hg hq hpre HLA
    generalize (anth kn.ins q).mon = r at *
    generalize (anth kn.ins q).name = nm at *
    go_wp2_with fail
    have y2 := cell_regrown x2
    have y3 := cell_regrown k0
    have y4 := cell_regrown z1
    refine wp_region_quiet_below (by kernel_rfl) (by kernel_rfl) ?_
    repeat (go_big_quiet_step (exact Calls.regrown_of (HIA.out _ (below_regrown wr _ _))))
    refine wpQuiet_nil ?_
    intro _ hw'
    obtain ⟨⟨dq, osq⟩, hw''⟩ := hw'
    subst hw''
    have HBN := Lib.hid (HBr.out.trans ((below_regrown wr dq osq).mono HBr.out.size))
    go_wp2_with (first | (go_at_call 39; refine (isMoney_ref _ _).mono ?_; rintro e w' ⟨rfl, h'⟩; subst w'))
    refine bodyPost_ret (v := .tuple #[.int .i64 (r), .bool (monB r)]) (by simp [results, Tryz.results40, go_sem] <;> rfl) rfl ?_
    exact ⟨⟨_, _, rfl, by rw [H.out, HV.out]; exact OkIs.of HMQ.out⟩, HBN.out⟩
end Go.Proofs.YtmlpedgcpffpnaaGreatDoor
set_option linter.unusedSimpArgs false
namespace Go.Proofs.YtmlpedgcpffpnaaGreatDoor
open Go.RowKit Go.Maps Go.WideMaps Go.Lib
theorem mul_bd {v n : Int} (h1 : -1000000000000 ≤ v) (h2 : v ≤ 1000000000000) (h3 : 0 ≤ n) (h4 : n ≤ 1000000) : -1000000000000000000 ≤ v * n ∧ v * n ≤ 1000000000000000000 := by
 have e1 := Int.mul_le_mul_of_nonneg_right h2 h3
 have e2 := Int.mul_le_mul_of_nonneg_right h1 h3
 omega
set_option maxRecDepth 100000 in
set_option maxHeartbeats 8000000 in
theorem rv_one (l : List Ln) (kn : Kn) (vs : List Int) (K n : Int) (s : ByteArray) (kid : Nat → Ex) (hK : K = 4 ∨ K = 5 ∨ K = 6 ∨ K = 9 ∨ K = 10) (hkid : ∀ j, j < 1 → ValIs l kn vs (kid j)) (hmon : ∀ j, j < 1 → ∀ v, (kid j).val l kn vs = some v → monB v = true) (h4 : K = 4 → 0 ≤ n ∧ n ≤ 1000000) (h9 : K = 9 ∨ K = 10 → 1 ≤ n ∧ n ≤ 1000000) (h5 : K = 5 → ∃ q, tbsG kn s = some q ∧ tblE (tnth kn.tbs q).name (tnth kn.tbs q).bks = 0 ∧ upN (fun j => (tnth kn.tbs j).name) kn.tbs.length = true) : ValIs l kn vs (.mk K n s 1 kid) := by
 have hK13 : (K != 13) = true := by rcases hK with rfl | rfl | rfl | rfl | rfl <;> rfl
 have HKID : Hid (∀ j, j < 1 → ValIs l kn vs (kid j)) := Lib.hid hkid
 have HMON : Hid (∀ j, j < 1 → ∀ v, (kid j).val l kn vs = some v → monB v = true) := Lib.hid hmon
 have HNONE : Hid (∀ j, j < 1 → (kid j).val l kn vs = none → (∀ q, q < j → (kid q).val l kn vs = some (kvN l kn vs kid q)) → (Ex.mk K n s 1 kid).val l kn vs = none) := Lib.hid (fun j hj h0 _ => by
  obtain rfl : j = 0 := by omega
  rw [Ex.val]
  rcases hK with rfl | rfl | rfl | rfl | rfl <;> simp [h0])
 have HSOME : Hid (∀ v, (kid 0).val l kn vs = some v → (Ex.mk K n s 1 kid).val l kn vs = oneO kn K n s v) := Lib.hid (fun v hv => by
  rw [Ex.val]
  rcases hK with rfl | rfl | rfl | rfl | rfl <;> simp [hv])
 have HKK := Lib.hid hK
 have H4 := Lib.hid h4
 have H5 := Lib.hid h5
 have H9 := Lib.hid h9
 clear hkid hmon hK h4 h5 h9
 intro a al av a1 a2 a3 c nl cl nv cv n1 c1 n2 c2 n3 c3 w hin hk
 show Calls Tryz.prog 40 #[.agg #[.int .i64 K, .int .i64 n, .string s, .slice a (1 : Nat) c], .slice al nl cl, .slice av nv cv, .agg #[.slice a1 n1 c1, .slice a2 n2 c2, .slice a3 n3 c3]] w _
 have HBA := Lib.hid (kbelow_box w (.cells #[.int .i64 K, .int .i64 n, .string s, .slice a (1 : Nat) c] 50))
 have HXA := Lib.hid (XBox.made w K n s a 1 c 50)
 have hszA : (w.alloc (.cells #[.int .i64 K, .int .i64 n, .string s, .slice a (1 : Nat) c] 50)).heap.size = w.heap.size + 1 := by simp
 have HBB := Lib.hid (kbelow_box (w.alloc (.cells #[.int .i64 K, .int .i64 n, .string s, .slice a (1 : Nat) c] 50)) (.cells #[.slice a1 n1 c1, .slice a2 n2 c2, .slice a3 n3 c3] 26))
 have HK0 := Lib.hid (KAt.made (w.alloc (.cells #[.int .i64 K, .int .i64 n, .string s, .slice a (1 : Nat) c] 50)) (.slice a1 n1 c1) (.slice a2 n2 c2) (.slice a3 n3 c3) 26)
 rw [hszA] at HK0
 have HX0 := Lib.hid (HXA.out.below HBB.out)
 have HB0 := Lib.hid (HBA.out.trans (HBB.out.mono HBA.out.size))
 have HIN := Lib.hid (hin.below HB0.out)
 have HNM := Lib.hid (show s.size ≤ maxLen from hk.name)
 have HKD := Lib.hid (hk.below HB0.out)
 clear hin hk HBA HXA HBB hszA
 go_enter Tryz.func40, Tryz.ntmps40
 go_wp2_with fail
 generalize ((w.alloc (.cells #[.int .i64 K, .int .i64 n, .string s, .slice a (1 : Nat) c] 50)).alloc (.cells #[.slice a1 n1 c1, .slice a2 n2 c2, .slice a3 n3 c3] 26)) = W at *
 go_loopw [10, 11] (fun v i wr => ∃ j : Nat, j ≤ 1 ∧ i = .int .i64 j ∧ Grow wr W.heap.size v (kvL l kn vs kid j) ∧ (∀ q, q < j → (kid q).val l kn vs = some (kvN l kn vs kid q)) ∧ Below W.heap.size W wr) (fun _ i _ => 1 - (RowKit.intOf i).toNat)
 case atStart => exact ⟨0, Nat.zero_le _, rfl, Grow.nil _ _, fun q hq => by omega, Below.refl _ _⟩
 case round =>
  obtain ⟨j, hj, rfl, hgr, hvq, hb⟩ := hrel
  have HG := Lib.hid hgr
  have HVQ := Lib.hid hvq
  have HB := Lib.hid hb
  have HXr := Lib.hid (HX0.out.below hb)
  have HKr := Lib.hid (KAt.below HK0.out hb)
  have HINr := Lib.hid (HIN.out.below hb)
  have HBr := Lib.hid (HB0.out.trans (hb.mono HB0.out.size))
  obtain ⟨_, x0, x1, x2, x3⟩ := HXr.out
  obtain ⟨_, k0, k1, k2⟩ := HKr.out
  clear hgr hvq hb
  by_cases hlt : j < 1
  ·have hltM : (j : Int) < (1 : Int) := by omega
   have hlt2 : (j : Int) < (2 : Int) := by omega
   obtain ⟨b, off, rfl, hcell⟩ := HKD.out.open (show 0 < 1 by omega)
   obtain ⟨aj, cj, ⟨y0, y1, y2, y3⟩, hkj⟩ := hcell wr HB.out j (show j < 1 by omega)
   have y0' : wr.cell? ⟨b, off + j * 4, none⟩ = some (.int .i64 (kid j).k) := y0
   have y1' : wr.cell? ⟨b, off + j * 4 + 1, none⟩ = some (.int .i64 (kid j).n) := y1
   have y2' : wr.cell? ⟨b, off + j * 4 + 2, none⟩ = some (.string (kid j).s) := y2
   have y3' : wr.cell? ⟨b, off + j * 4 + 3, none⟩ = some (.slice aj (kid j).m cj) := y3
   have HKJ : Hid (∀ W', Below wr.heap.size wr W' → Calls Tryz.prog 40 #[.agg #[.int .i64 (kid j).k, .int .i64 (kid j).n, .string (kid j).s, .slice aj (kid j).m cj], .slice al nl cl, .slice av nv cv, .agg #[.slice a1 n1 c1, .slice a2 n2 c2, .slice a3 n3 c3]] W' fun e w' => (∃ (z : Int) (b : Bool), e = .returned (.tuple #[.int .i64 z, .bool b]) ∧ OkIs ((kid j).val l kn vs) z b) ∧ Below W'.heap.size W' w') := fun W' hb' => HKID.out j (by omega) aj al av a1 a2 a3 cj nl cl nv cv n1 c1 n2 c2 n3 c3 W' (HINr.out.below hb') (KidsAt.below hb' hkj)
   clear y0 y1 y2 y3 hcell hkj
   generalize hok0 : (kid j).k = kk at *
   generalize hok1 : (kid j).n = kn' at *
   generalize hok2 : (kid j).s = ks at *
   generalize hok3 : (kid j).m = km at *
   clear hok0 hok1 hok2 hok3
   go_wp2_with fail
   go_region_held_law (fun w' => w'.cell? ⟨w.heap.size, 3, none⟩ = some (.slice (some ⟨b, off, none⟩) 1 c) ∧ w'.cell? ⟨b, off + j * 4, none⟩ = some (.int .i64 kk) ∧ w'.cell? ⟨b, off + j * 4 + 1, none⟩ = some (.int .i64 kn') ∧ w'.cell? ⟨b, off + j * 4 + 2, none⟩ = some (.string ks) ∧ w'.cell? ⟨b, off + j * 4 + 3, none⟩ = some (.slice aj km cj) ∧ w'.cell? ⟨w.heap.size + 1, 0, none⟩ = some (.slice a1 n1 c1) ∧ w'.cell? ⟨w.heap.size + 1, 1, none⟩ = some (.slice a2 n2 c2) ∧ w'.cell? ⟨w.heap.size + 1, 2, none⟩ = some (.slice a3 n3 c3)) (go_keep)
    (first
     | (go_at_call 40; refine (HKJ.out _ (kbelow_dN (Below.refl _ _) 1)).mono ?_; rintro e w1 ⟨⟨z, ok, rfl, hok⟩, hb1⟩
        have HB1' := Lib.hid (nfrom_drew hb1)
        have HB1 := Lib.hid (HB.out.trans ((nfrom_drew hb1).mono HB.out.size))
        have HOK := Lib.hid hok
        have r0 := (HB1'.out.cell (p := ⟨w.heap.size, 3, none⟩) (blt_of_cell x3)).trans x3
        have r1 := (HB1'.out.cell (p := ⟨b, off + j * 4, none⟩) (blt_of_cell y0')).trans y0'
        have r2 := (HB1'.out.cell (p := ⟨b, off + j * 4 + 1, none⟩) (blt_of_cell y1')).trans y1'
        have r3 := (HB1'.out.cell (p := ⟨b, off + j * 4 + 2, none⟩) (blt_of_cell y2')).trans y2'
        have r4 := (HB1'.out.cell (p := ⟨b, off + j * 4 + 3, none⟩) (blt_of_cell y3')).trans y3'
        have r5 := (HB1'.out.cell (p := ⟨w.heap.size + 1, 0, none⟩) (blt_of_cell k0)).trans k0
        have r6 := (HB1'.out.cell (p := ⟨w.heap.size + 1, 1, none⟩) (blt_of_cell k1)).trans k1
        have r7 := (HB1'.out.cell (p := ⟨w.heap.size + 1, 2, none⟩) (blt_of_cell k2)).trans k2
        clear hok hb1))
   have HGW := Lib.hid (rvgrow_below HG.out HB1'.out)
   have HBE := Lib.hid (HB0.out.trans (HB1.out.mono HB0.out.size))
   clear r0 r1 r2 r3 r4 r5 r6 r7 x0 x1 x2 x3 k0 k1 k2 y0' y1' y2' y3' HKJ
   rcases HOK.out with ⟨hno, rfl⟩ | ⟨hso, rfl⟩
   ·have HNO : Hid ((Ex.mk K n s 1 kid).val l kn vs = none) := Lib.hid (HNONE.out j hlt hno HVQ.out)
    clear hno
    go_wp2_with fail
    refine bodyPost_ret (v := .tuple #[.int .i64 (0), .bool (false)]) (by simp [results, Tryz.results40, go_sem] <;> rfl) rfl ?_
    exact ⟨⟨_, _, rfl, .inl ⟨HNO.out, rfl⟩⟩, HBE.out⟩
   ·have HSO := Lib.hid hso
    have HKV := Lib.hid (kvN_of hso)
    clear hso
    have hW1 : W.heap.size ≤ w1.heap.size := HB1.out.size
    have HBX := Lib.hid (kbelow_box w1 (.cells #[.int .i64 z] 3))
    have HGX := Lib.hid (rvgrow_below HGW.out HBX.out)
    have HBY := Lib.hid (HB1.out.trans (HBX.out.mono HB1.out.size))
    have hlen : (kvL l kn vs kid j).length ≤ 1000000000 := by rw [kvL_len]; omega
    go_wp2_with (at_builtin; refine wpList_app _ rfl _ _ rfl W.heap.size _ (kvL l kn vs kid j) rfl HGX.out ⟨w1.heap.size, 0, none⟩ 1 z rfl (by simp) hlen HBY.out.size ?_; intro v9 w9 hg9 hgr9 hd9 hs9; refine Hid.out ?_)
    have HG9 := Lib.hid hg9
    have HB9 := Lib.hid (HBY.out.grown hgr9 HBY.out.size fun k hk => (HGX.out.lt k hk).1)
    clear hg9 hgr9 hd9 hs9
    unfold Hid
    go_wp2_with fail
    go_roundw
    case rel => exact ⟨j + 1, by omega, by go_num, by rw [kvL_succ, HKV.out]; exact HG9.out, fun q hq => by
     by_cases e : q = j
     ·subst e; rw [HKV.out]; exact HSO.out
     ·exact HVQ.out q (by omega), HB9.out⟩
    case measure => simp [RowKit.intOf]; omega
  ·obtain rfl : j = 1 := by omega
   obtain ⟨g, cg, rfl, _, hog⟩ := HG.out.own (by rw [kvL_len]; omega)
   rw [kvL_len]
   have g0 := hog.cell (j := 0) (by rw [kvL_len]; omega)
   rw [kvL_at l kn vs kid (by omega)] at g0
   have HV0 := Lib.hid (HVQ.out 0 (by omega))
   have hm0 := HMON.out 0 (by omega) _ HV0.out
   have HM0 := Lib.hid hm0
   have hb0 := monB_iff.1 hm0
   obtain ⟨v0, hv0⟩ : ∃ v0, kvN l kn vs kid 0 = v0 := ⟨_, rfl⟩
   rw [hv0] at g0 HV0 hb0 HM0
   clear hog hm0 hv0
   rcases HKK.out with rfl | rfl | rfl | rfl | rfl
   ·obtain ⟨hn0, hn1⟩ := H4.out rfl
    obtain ⟨m1, m2⟩ := mul_bd hb0.1 hb0.2 hn0 hn1
    have i1 : IntKind.i64.wrap (v0 * n) = v0 * n := IntWalk.i64_in _ (by omega)
    have HRD : Hid (∀ W', Calls Tryz.prog 37 #[.int .i64 (v0 * n), .int .i64 10000, .int .i64 5] W' fun e w' => e = .returned (.int .i64 (rd (v0 * n) 10000 5)) ∧ Below W'.heap.size W' w') := fun W' => (rounded_ref (v0 * n) 10000 5 W' (by omega) (by omega) m1 m2 (by omega)).mono fun e w' ⟨q1, q2⟩ => ⟨q1, by rw [q2]; exact Below.refl _ _⟩
    go_wp2_with fail
    have y0 := cell_regrown g0
    have y1 := cell_regrown x1
    refine wp_region_quiet_below (by kernel_rfl) (by kernel_rfl) ?_
    repeat (go_big_quiet_step (exact Calls.regrown_of (HRD.out _)))
    refine wpQuiet_nil ?_
    intro _ hw'
    obtain ⟨⟨dq, osq⟩, hw''⟩ := hw'
    subst hw''
    have HBN := Lib.hid (HBr.out.trans ((below_regrown wr dq osq).mono HBr.out.size))
    generalize hr : rd (v0 * n) 10000 5 = r at *
    have HR := Lib.hid hr
    clear hr
    go_wp2_with fail
    go_wp2_with (first | (go_at_call 39; refine (isMoney_ref _ _).mono ?_; rintro e w' ⟨rfl, h'⟩; subst w'))
    refine bodyPost_ret (v := .tuple #[.int .i64 (r), .bool (monB (r))]) (by simp [results, Tryz.results40, go_sem] <;> rfl) rfl ?_
    exact ⟨⟨_, _, rfl, by rw [HSOME.out _ HV0.out, ← HR.out]; exact OkIs.mon⟩, HBN.out⟩
   ·obtain ⟨q, hq0, ht0, hu0⟩ := H5.out rfl
    have HQ := Lib.hid hq0
    have HTB := Lib.hid ht0
    have HUP := Lib.hid hu0
    clear hq0 ht0 hu0
    have hqn : q < kn.tbs.length := vlast_lt HQ.out
    have hq2 : (q : Int) < (n2 : Int) := by have := HINr.out.h2; omega
    have HTA : Hid (∀ W', Below wr.heap.size wr W' → Calls Tryz.prog 77 #[.slice a2 n2 c2, .string s] W' fun e w' => e = .returned (.int .i64 (q : Int)) ∧ Below W'.heap.size W' w') := fun W' hb => by
     have h := tableAt_ref a2 n2 c2 kn.tbs s W' (HINr.out.k.2.1.below hb) HINr.out.h2 (by have := HINr.out.k.2.2.2.2.2.2.1; have := HINr.out.h2; omega)
     rw [← HINr.out.h2, first_last HUP.out s, show lastN (fun j => (tnth kn.tbs j).name) kn.tbs.length s = some q from HQ.out] at h
     rw [← HINr.out.h2]
     exact h
    obtain ⟨b, o, rfl, hcell⟩ := HINr.out.k.2.1.open HINr.out.h2 (by have := HINr.out.h2; omega)
    obtain ⟨at', ct, z0, z1, hcb, hz2, hz3⟩ := hcell _ (Below.refl _ _) q (by have := HINr.out.h2; omega)
    have HTX : Hid (∀ W', Below wr.heap.size wr W' → Calls Tryz.prog 38 #[.agg #[.string (tnth kn.tbs q).name, .slice at' (tnth kn.tbs q).bks.length ct], .int .i64 v0] W' fun e w' => e = .returned (.int .i64 (taxN (tnth kn.tbs q).bks v0)) ∧ Below W'.heap.size W' w') := fun W' hb => taxOf_ref _ at' _ ct _ v0 W' (hcb.below hb) rfl (tblE_ok HTB.out).2 hb0.1 hb0.2
    have HTM : Hid (monB (taxN (tnth kn.tbs q).bks v0) = true) := Lib.hid (by
     have hl := tax_le (tblE_ok HTB.out).2 v0
     exact mon_of (by omega) (by omega))
    have HSO : Hid ((Ex.mk 5 n s 1 kid).val l kn vs = some (taxN (tnth kn.tbs q).bks v0)) := Lib.hid (by rw [HSOME.out _ HV0.out, oneO_5, HQ.out]; rfl)
    clear hcell hcb hz2 hz3
    generalize taxN (tnth kn.tbs q).bks v0 = r at *
    generalize (tnth kn.tbs q).bks.length = nb at *
    generalize (tnth kn.tbs q).name = nm at *
    go_wp2_with fail
    have y0 := cell_regrown g0
    have y1 := cell_regrown x2
    have y2 := cell_regrown k1
    have y3 := cell_regrown z0
    have y4 := cell_regrown z1
    refine wp_region_quiet_below (by kernel_rfl) (by kernel_rfl) ?_
    repeat (go_big_quiet_step (first | (go_at_call 77; exact Calls.regrown_of (HTA.out _ (below_regrown wr _ _))) | (go_at_call 38; exact Calls.regrown_of (HTX.out _ (below_regrown wr _ _)))))
    refine wpQuiet_nil ?_
    intro _ hw'
    obtain ⟨⟨dq, osq⟩, hw''⟩ := hw'
    subst hw''
    have HBN := Lib.hid (HBr.out.trans ((below_regrown wr dq osq).mono HBr.out.size))
    go_wp2_with fail
    go_wp2_with (first | (go_at_call 39; refine (isMoney_ref _ _).mono ?_; rintro e w' ⟨rfl, h'⟩; subst w'))
    refine bodyPost_ret (v := .tuple #[.int .i64 (r), .bool (monB (r))]) (by simp [results, Tryz.results40, go_sem] <;> rfl) rfl ?_
    exact ⟨⟨_, _, rfl, by rw [HSO.out]; exact OkIs.of HTM.out⟩, HBN.out⟩
   ·have i1 : IntKind.i64.wrap (-v0) = -v0 := IntWalk.i64_in _ (by omega)
    go_wp2_with fail
    go_wp2_with (first | (go_at_call 39; refine (isMoney_ref _ _).mono ?_; rintro e w' ⟨rfl, h'⟩; subst w'))
    refine bodyPost_ret (v := .tuple #[.int .i64 (-v0), .bool (monB (-v0))]) (by simp [results, Tryz.results40, go_sem] <;> rfl) rfl ?_
    exact ⟨⟨_, _, rfl, by rw [HSOME.out _ HV0.out]; exact OkIs.of (monB_iff.2 (by omega))⟩, HBr.out⟩
   ·obtain ⟨hn0, hn1⟩ := H9.out (.inl rfl)
    obtain ⟨m1, m2⟩ := mul_bd hb0.1 hb0.2 (show 0 ≤ n by omega) hn1
    have i1 : IntKind.i64.wrap (v0 * n) = v0 * n := IntWalk.i64_in _ (by omega)
    go_wp2_with fail
    have y0 := cell_regrown g0
    have y1 := cell_regrown x1
    refine wp_region_quiet_below (by kernel_rfl) (by kernel_rfl) ?_
    repeat (go_big_quiet_step (fail))
    refine wpQuiet_nil ?_
    intro _ hw'
    obtain ⟨⟨dq, osq⟩, hw''⟩ := hw'
    subst hw''
    have HBN := Lib.hid (HBr.out.trans ((below_regrown wr dq osq).mono HBr.out.size))
    go_wp2_with fail
    go_wp2_with (first | (go_at_call 39; refine (isMoney_ref _ _).mono ?_; rintro e w' ⟨rfl, h'⟩; subst w'))
    refine bodyPost_ret (v := .tuple #[.int .i64 (v0 * n), .bool (monB (v0 * n))]) (by simp [results, Tryz.results40, go_sem] <;> rfl) rfl ?_
    exact ⟨⟨_, _, rfl, by rw [HSOME.out _ HV0.out]; exact OkIs.mon⟩, HBN.out⟩
   ·obtain ⟨hn0, hn1⟩ := H9.out (.inr rfl)
    have HRD : Hid (∀ W', Calls Tryz.prog 37 #[.int .i64 v0, .int .i64 n, .int .i64 5] W' fun e w' => e = .returned (.int .i64 (rd v0 n 5)) ∧ Below W'.heap.size W' w') := fun W' => (rounded_ref v0 n 5 W' hn0 hn1 (by omega) (by omega) (by omega)).mono fun e w' ⟨q1, q2⟩ => ⟨q1, by rw [q2]; exact Below.refl _ _⟩
    go_wp2_with fail
    have y0 := cell_regrown g0
    have y1 := cell_regrown x1
    refine wp_region_quiet_below (by kernel_rfl) (by kernel_rfl) ?_
    repeat (go_big_quiet_step (exact Calls.regrown_of (HRD.out _)))
    refine wpQuiet_nil ?_
    intro _ hw'
    obtain ⟨⟨dq, osq⟩, hw''⟩ := hw'
    subst hw''
    have HBN := Lib.hid (HBr.out.trans ((below_regrown wr dq osq).mono HBr.out.size))
    generalize hr : rd v0 n 5 = r at *
    have HR := Lib.hid hr
    clear hr
    go_wp2_with fail
    go_wp2_with (first | (go_at_call 39; refine (isMoney_ref _ _).mono ?_; rintro e w' ⟨rfl, h'⟩; subst w'))
    refine bodyPost_ret (v := .tuple #[.int .i64 (r), .bool (monB (r))]) (by simp [results, Tryz.results40, go_sem] <;> rfl) rfl ?_
    exact ⟨⟨_, _, rfl, by rw [HSOME.out _ HV0.out, ← HR.out]; exact OkIs.mon⟩, HBN.out⟩
end Go.Proofs.YtmlpedgcpffpnaaGreatDoor
set_option linter.unusedSimpArgs false
namespace Go.Proofs.YtmlpedgcpffpnaaGreatDoor
open Go.RowKit Go.Maps Go.WideMaps Go.Lib
set_option maxRecDepth 100000 in
set_option maxHeartbeats 8000000 in
theorem rv_two (l : List Ln) (kn : Kn) (vs : List Int) (K n : Int) (s : ByteArray) (kid : Nat → Ex) (hK : K = 7 ∨ K = 8 ∨ K = 11 ∨ K = 12) (hkid : ∀ j, j < 2 → ValIs l kn vs (kid j)) (hmon : ∀ j, j < 2 → ∀ v, (kid j).val l kn vs = some v → monB v = true) : ValIs l kn vs (.mk K n s 2 kid) := by
 have hK13 : (K != 13) = true := by rcases hK with rfl | rfl | rfl | rfl <;> rfl
 have HKID : Hid (∀ j, j < 2 → ValIs l kn vs (kid j)) := Lib.hid hkid
 have HMON : Hid (∀ j, j < 2 → ∀ v, (kid j).val l kn vs = some v → monB v = true) := Lib.hid hmon
 have HNONE : Hid (∀ j, j < 2 → (kid j).val l kn vs = none → (∀ q, q < j → (kid q).val l kn vs = some (kvN l kn vs kid q)) → (Ex.mk K n s 2 kid).val l kn vs = none) := Lib.hid (fun j hj h0 hq => by
  rw [Ex.val]
  by_cases e : j = 0
  ·subst e; rcases hK with rfl | rfl | rfl | rfl <;> simp [h0]
  ·obtain rfl : j = 1 := by omega
   rcases hK with rfl | rfl | rfl | rfl <;> simp [h0, hq 0 (by omega)])
 have HSOME : Hid (∀ v u, (kid 0).val l kn vs = some v → (kid 1).val l kn vs = some u → (Ex.mk K n s 2 kid).val l kn vs = twoO K v u) := Lib.hid (fun v u hv hu => by
  rw [Ex.val]
  rcases hK with rfl | rfl | rfl | rfl <;> simp [hv, hu])
 have HKK := Lib.hid hK
 clear hkid hmon hK
 intro a al av a1 a2 a3 c nl cl nv cv n1 c1 n2 c2 n3 c3 w hin hk
 show Calls Tryz.prog 40 #[.agg #[.int .i64 K, .int .i64 n, .string s, .slice a (2 : Nat) c], .slice al nl cl, .slice av nv cv, .agg #[.slice a1 n1 c1, .slice a2 n2 c2, .slice a3 n3 c3]] w _
 have HBA := Lib.hid (kbelow_box w (.cells #[.int .i64 K, .int .i64 n, .string s, .slice a (2 : Nat) c] 50))
 have HXA := Lib.hid (XBox.made w K n s a 2 c 50)
 have hszA : (w.alloc (.cells #[.int .i64 K, .int .i64 n, .string s, .slice a (2 : Nat) c] 50)).heap.size = w.heap.size + 1 := by simp
 have HBB := Lib.hid (kbelow_box (w.alloc (.cells #[.int .i64 K, .int .i64 n, .string s, .slice a (2 : Nat) c] 50)) (.cells #[.slice a1 n1 c1, .slice a2 n2 c2, .slice a3 n3 c3] 26))
 have HK0 := Lib.hid (KAt.made (w.alloc (.cells #[.int .i64 K, .int .i64 n, .string s, .slice a (2 : Nat) c] 50)) (.slice a1 n1 c1) (.slice a2 n2 c2) (.slice a3 n3 c3) 26)
 rw [hszA] at HK0
 have HX0 := Lib.hid (HXA.out.below HBB.out)
 have HB0 := Lib.hid (HBA.out.trans (HBB.out.mono HBA.out.size))
 have HIN := Lib.hid (hin.below HB0.out)
 have HNM := Lib.hid (show s.size ≤ maxLen from hk.name)
 have HKD := Lib.hid (hk.below HB0.out)
 clear hin hk HBA HXA HBB hszA
 go_enter Tryz.func40, Tryz.ntmps40
 go_wp2_with fail
 generalize ((w.alloc (.cells #[.int .i64 K, .int .i64 n, .string s, .slice a (2 : Nat) c] 50)).alloc (.cells #[.slice a1 n1 c1, .slice a2 n2 c2, .slice a3 n3 c3] 26)) = W at *
 go_loopw [10, 11] (fun v i wr => ∃ j : Nat, j ≤ 2 ∧ i = .int .i64 j ∧ Grow wr W.heap.size v (kvL l kn vs kid j) ∧ (∀ q, q < j → (kid q).val l kn vs = some (kvN l kn vs kid q)) ∧ Below W.heap.size W wr) (fun _ i _ => 2 - (RowKit.intOf i).toNat)
 case atStart => exact ⟨0, Nat.zero_le _, rfl, Grow.nil _ _, fun q hq => by omega, Below.refl _ _⟩
 case round =>
  obtain ⟨j, hj, rfl, hgr, hvq, hb⟩ := hrel
  have HG := Lib.hid hgr
  have HVQ := Lib.hid hvq
  have HB := Lib.hid hb
  have HXr := Lib.hid (HX0.out.below hb)
  have HKr := Lib.hid (KAt.below HK0.out hb)
  have HINr := Lib.hid (HIN.out.below hb)
  have HBr := Lib.hid (HB0.out.trans (hb.mono HB0.out.size))
  obtain ⟨_, x0, x1, x2, x3⟩ := HXr.out
  obtain ⟨_, k0, k1, k2⟩ := HKr.out
  clear hgr hvq hb
  by_cases hlt : j < 2
  ·have hltM : (j : Int) < (2 : Int) := by omega
   have hlt2 : (j : Int) < (2 : Int) := by omega
   obtain ⟨b, off, rfl, hcell⟩ := HKD.out.open (show 0 < 2 by omega)
   obtain ⟨aj, cj, ⟨y0, y1, y2, y3⟩, hkj⟩ := hcell wr HB.out j (show j < 2 by omega)
   have y0' : wr.cell? ⟨b, off + j * 4, none⟩ = some (.int .i64 (kid j).k) := y0
   have y1' : wr.cell? ⟨b, off + j * 4 + 1, none⟩ = some (.int .i64 (kid j).n) := y1
   have y2' : wr.cell? ⟨b, off + j * 4 + 2, none⟩ = some (.string (kid j).s) := y2
   have y3' : wr.cell? ⟨b, off + j * 4 + 3, none⟩ = some (.slice aj (kid j).m cj) := y3
   have HKJ : Hid (∀ W', Below wr.heap.size wr W' → Calls Tryz.prog 40 #[.agg #[.int .i64 (kid j).k, .int .i64 (kid j).n, .string (kid j).s, .slice aj (kid j).m cj], .slice al nl cl, .slice av nv cv, .agg #[.slice a1 n1 c1, .slice a2 n2 c2, .slice a3 n3 c3]] W' fun e w' => (∃ (z : Int) (b : Bool), e = .returned (.tuple #[.int .i64 z, .bool b]) ∧ OkIs ((kid j).val l kn vs) z b) ∧ Below W'.heap.size W' w') := fun W' hb' => HKID.out j (by omega) aj al av a1 a2 a3 cj nl cl nv cv n1 c1 n2 c2 n3 c3 W' (HINr.out.below hb') (KidsAt.below hb' hkj)
   clear y0 y1 y2 y3 hcell hkj
   generalize hok0 : (kid j).k = kk at *
   generalize hok1 : (kid j).n = kn' at *
   generalize hok2 : (kid j).s = ks at *
   generalize hok3 : (kid j).m = km at *
   clear hok0 hok1 hok2 hok3
   go_wp2_with fail
   go_region_held_law (fun w' => w'.cell? ⟨w.heap.size, 3, none⟩ = some (.slice (some ⟨b, off, none⟩) 2 c) ∧ w'.cell? ⟨b, off + j * 4, none⟩ = some (.int .i64 kk) ∧ w'.cell? ⟨b, off + j * 4 + 1, none⟩ = some (.int .i64 kn') ∧ w'.cell? ⟨b, off + j * 4 + 2, none⟩ = some (.string ks) ∧ w'.cell? ⟨b, off + j * 4 + 3, none⟩ = some (.slice aj km cj) ∧ w'.cell? ⟨w.heap.size + 1, 0, none⟩ = some (.slice a1 n1 c1) ∧ w'.cell? ⟨w.heap.size + 1, 1, none⟩ = some (.slice a2 n2 c2) ∧ w'.cell? ⟨w.heap.size + 1, 2, none⟩ = some (.slice a3 n3 c3)) (go_keep)
    (first
     | (go_at_call 40; refine (HKJ.out _ (kbelow_dN (Below.refl _ _) 1)).mono ?_; rintro e w1 ⟨⟨z, ok, rfl, hok⟩, hb1⟩
        have HB1' := Lib.hid (nfrom_drew hb1)
        have HB1 := Lib.hid (HB.out.trans ((nfrom_drew hb1).mono HB.out.size))
        have HOK := Lib.hid hok
        have r0 := (HB1'.out.cell (p := ⟨w.heap.size, 3, none⟩) (blt_of_cell x3)).trans x3
        have r1 := (HB1'.out.cell (p := ⟨b, off + j * 4, none⟩) (blt_of_cell y0')).trans y0'
        have r2 := (HB1'.out.cell (p := ⟨b, off + j * 4 + 1, none⟩) (blt_of_cell y1')).trans y1'
        have r3 := (HB1'.out.cell (p := ⟨b, off + j * 4 + 2, none⟩) (blt_of_cell y2')).trans y2'
        have r4 := (HB1'.out.cell (p := ⟨b, off + j * 4 + 3, none⟩) (blt_of_cell y3')).trans y3'
        have r5 := (HB1'.out.cell (p := ⟨w.heap.size + 1, 0, none⟩) (blt_of_cell k0)).trans k0
        have r6 := (HB1'.out.cell (p := ⟨w.heap.size + 1, 1, none⟩) (blt_of_cell k1)).trans k1
        have r7 := (HB1'.out.cell (p := ⟨w.heap.size + 1, 2, none⟩) (blt_of_cell k2)).trans k2
        clear hok hb1))
   have HGW := Lib.hid (rvgrow_below HG.out HB1'.out)
   have HBE := Lib.hid (HB0.out.trans (HB1.out.mono HB0.out.size))
   clear r0 r1 r2 r3 r4 r5 r6 r7 x0 x1 x2 x3 k0 k1 k2 y0' y1' y2' y3' HKJ
   rcases HOK.out with ⟨hno, rfl⟩ | ⟨hso, rfl⟩
   ·have HNO : Hid ((Ex.mk K n s 2 kid).val l kn vs = none) := Lib.hid (HNONE.out j hlt hno HVQ.out)
    clear hno
    go_wp2_with fail
    refine bodyPost_ret (v := .tuple #[.int .i64 (0), .bool (false)]) (by simp [results, Tryz.results40, go_sem] <;> rfl) rfl ?_
    exact ⟨⟨_, _, rfl, .inl ⟨HNO.out, rfl⟩⟩, HBE.out⟩
   ·have HSO := Lib.hid hso
    have HKV := Lib.hid (kvN_of hso)
    clear hso
    have hW1 : W.heap.size ≤ w1.heap.size := HB1.out.size
    have HBX := Lib.hid (kbelow_box w1 (.cells #[.int .i64 z] 3))
    have HGX := Lib.hid (rvgrow_below HGW.out HBX.out)
    have HBY := Lib.hid (HB1.out.trans (HBX.out.mono HB1.out.size))
    have hlen : (kvL l kn vs kid j).length ≤ 1000000000 := by rw [kvL_len]; omega
    go_wp2_with (at_builtin; refine wpList_app _ rfl _ _ rfl W.heap.size _ (kvL l kn vs kid j) rfl HGX.out ⟨w1.heap.size, 0, none⟩ 1 z rfl (by simp) hlen HBY.out.size ?_; intro v9 w9 hg9 hgr9 hd9 hs9; refine Hid.out ?_)
    have HG9 := Lib.hid hg9
    have HB9 := Lib.hid (HBY.out.grown hgr9 HBY.out.size fun k hk => (HGX.out.lt k hk).1)
    clear hg9 hgr9 hd9 hs9
    unfold Hid
    go_wp2_with fail
    go_roundw
    case rel => exact ⟨j + 1, by omega, by go_num, by rw [kvL_succ, HKV.out]; exact HG9.out, fun q hq => by
     by_cases e : q = j
     ·subst e; rw [HKV.out]; exact HSO.out
     ·exact HVQ.out q (by omega), HB9.out⟩
    case measure => simp [RowKit.intOf]; omega
  ·obtain rfl : j = 2 := by omega
   obtain ⟨g, cg, rfl, _, hog⟩ := HG.out.own (by rw [kvL_len]; omega)
   rw [kvL_len]
   have g0 := hog.cell (j := 0) (by rw [kvL_len]; omega)
   have g1 := hog.cell (j := 1) (by rw [kvL_len]; omega)
   rw [kvL_at l kn vs kid (by omega)] at g0 g1
   have HV0 := Lib.hid (HVQ.out 0 (by omega))
   have HV1 := Lib.hid (HVQ.out 1 (by omega))
   have hb0 := monB_iff.1 (HMON.out 0 (by omega) _ HV0.out)
   have hb1 := monB_iff.1 (HMON.out 1 (by omega) _ HV1.out)
   obtain ⟨v0, hv0⟩ : ∃ v0, kvN l kn vs kid 0 = v0 := ⟨_, rfl⟩
   obtain ⟨v1, hv1⟩ : ∃ v1, kvN l kn vs kid 1 = v1 := ⟨_, rfl⟩
   rw [hv0] at g0 HV0 hb0
   rw [hv1] at g1 HV1 hb1
   clear hog hv0 hv1
   rcases HKK.out with rfl | rfl | rfl | rfl
   ·have i1 : IntKind.i64.wrap (v0 + v1) = v0 + v1 := IntWalk.i64_in _ (by omega)
    go_wp2_with fail
    have y0 := cell_regrown g0
    have y1 := cell_regrown g1
    refine wp_region_quiet_below (by kernel_rfl) (by kernel_rfl) ?_
    repeat (go_big_quiet_step (fail))
    refine wpQuiet_nil ?_
    intro _ hw'
    obtain ⟨⟨dq, osq⟩, hw''⟩ := hw'
    subst hw''
    have HBN := Lib.hid (HBr.out.trans ((below_regrown wr dq osq).mono HBr.out.size))
    go_wp2_with fail
    go_wp2_with (first | (go_at_call 39; refine (isMoney_ref _ _).mono ?_; rintro e w' ⟨rfl, h'⟩; subst w'))
    refine bodyPost_ret (v := .tuple #[.int .i64 (v0 + v1), .bool (monB (v0 + v1))]) (by simp [results, Tryz.results40, go_sem] <;> rfl) rfl ?_
    exact ⟨⟨_, _, rfl, by rw [HSOME.out _ _ HV0.out HV1.out]; exact OkIs.mon⟩, HBN.out⟩
   ·have i1 : IntKind.i64.wrap (v0 - v1) = v0 - v1 := IntWalk.i64_in _ (by omega)
    go_wp2_with fail
    have y0 := cell_regrown g0
    have y1 := cell_regrown g1
    refine wp_region_quiet_below (by kernel_rfl) (by kernel_rfl) ?_
    repeat (go_big_quiet_step (fail))
    refine wpQuiet_nil ?_
    intro _ hw'
    obtain ⟨⟨dq, osq⟩, hw''⟩ := hw'
    subst hw''
    have HBN := Lib.hid (HBr.out.trans ((below_regrown wr dq osq).mono HBr.out.size))
    go_wp2_with fail
    go_wp2_with (first | (go_at_call 39; refine (isMoney_ref _ _).mono ?_; rintro e w' ⟨rfl, h'⟩; subst w'))
    refine bodyPost_ret (v := .tuple #[.int .i64 (v0 - v1), .bool (monB (v0 - v1))]) (by simp [results, Tryz.results40, go_sem] <;> rfl) rfl ?_
    exact ⟨⟨_, _, rfl, by rw [HSOME.out _ _ HV0.out HV1.out]; exact OkIs.mon⟩, HBN.out⟩
   ·by_cases hlt1 : v1 < v0
    ·have HTW : Hid (OkIs (twoO 11 v0 v1) v1 (monB v1)) := Lib.hid (by rw [show twoO 11 v0 v1 = some (min v0 v1) from rfl, show min v0 v1 = v1 by omega]; exact OkIs.of (monB_iff.2 (by omega)))
     have hd : decide (v1 < v0) = true := decide_eq_true hlt1
     go_wp2_with fail
     have y0 := cell_regrown g0
     have y1 := cell_regrown g1
     have y2 := cell_regrown x0
     refine wp_region_quiet_below (by kernel_rfl) (by kernel_rfl) ?_
     repeat (go_big_quiet_step (fail))
     refine wpQuiet_nil ?_
     intro _ hw'
     obtain ⟨⟨dq, osq⟩, hw''⟩ := hw'
     subst hw''
     have HBN := Lib.hid (HBr.out.trans ((below_regrown wr dq osq).mono HBr.out.size))
     go_wp2_with fail
     go_wp2_with (first | (go_at_call 39; refine (isMoney_ref _ _).mono ?_; rintro e w' ⟨rfl, h'⟩; subst w'))
     refine bodyPost_ret (v := .tuple #[.int .i64 (v1), .bool (monB (v1))]) (by simp [results, Tryz.results40, go_sem] <;> rfl) rfl ?_
     exact ⟨⟨_, _, rfl, by rw [HSOME.out _ _ HV0.out HV1.out]; exact HTW.out⟩, HBN.out⟩
    ·have HTW : Hid (OkIs (twoO 11 v0 v1) v0 (monB v0)) := Lib.hid (by rw [show twoO 11 v0 v1 = some (min v0 v1) from rfl, show min v0 v1 = v0 by omega]; exact OkIs.of (monB_iff.2 (by omega)))
     have hd : decide (v1 < v0) = false := decide_eq_false hlt1
     go_wp2_with fail
     have y0 := cell_regrown g0
     have y1 := cell_regrown g1
     have y2 := cell_regrown x0
     refine wp_region_quiet_below (by kernel_rfl) (by kernel_rfl) ?_
     repeat (go_big_quiet_step (fail))
     refine wpQuiet_nil ?_
     intro _ hw'
     obtain ⟨⟨dq, osq⟩, hw''⟩ := hw'
     subst hw''
     have HBN := Lib.hid (HBr.out.trans ((below_regrown wr dq osq).mono HBr.out.size))
     go_wp2_with fail
     go_wp2_with (first | (go_at_call 39; refine (isMoney_ref _ _).mono ?_; rintro e w' ⟨rfl, h'⟩; subst w'))
     refine bodyPost_ret (v := .tuple #[.int .i64 (v0), .bool (monB (v0))]) (by simp [results, Tryz.results40, go_sem] <;> rfl) rfl ?_
     exact ⟨⟨_, _, rfl, by rw [HSOME.out _ _ HV0.out HV1.out]; exact HTW.out⟩, HBN.out⟩
   ·by_cases hlt1 : v1 < v0
    ·have HTW : Hid (OkIs (twoO 12 v0 v1) v0 (monB v0)) := Lib.hid (by rw [show twoO 12 v0 v1 = some (max v0 v1) from rfl, show max v0 v1 = v0 by omega]; exact OkIs.of (monB_iff.2 (by omega)))
     have hd : decide (v1 < v0) = true := decide_eq_true hlt1
     go_wp2_with fail
     have y0 := cell_regrown g0
     have y1 := cell_regrown g1
     have y2 := cell_regrown x0
     refine wp_region_quiet_below (by kernel_rfl) (by kernel_rfl) ?_
     repeat (go_big_quiet_step (fail))
     refine wpQuiet_nil ?_
     intro _ hw'
     obtain ⟨⟨dq, osq⟩, hw''⟩ := hw'
     subst hw''
     have HBN := Lib.hid (HBr.out.trans ((below_regrown wr dq osq).mono HBr.out.size))
     go_wp2_with fail
     go_wp2_with (first | (go_at_call 39; refine (isMoney_ref _ _).mono ?_; rintro e w' ⟨rfl, h'⟩; subst w'))
     refine bodyPost_ret (v := .tuple #[.int .i64 (v0), .bool (monB (v0))]) (by simp [results, Tryz.results40, go_sem] <;> rfl) rfl ?_
     exact ⟨⟨_, _, rfl, by rw [HSOME.out _ _ HV0.out HV1.out]; exact HTW.out⟩, HBN.out⟩
    ·have HTW : Hid (OkIs (twoO 12 v0 v1) v1 (monB v1)) := Lib.hid (by rw [show twoO 12 v0 v1 = some (max v0 v1) from rfl, show max v0 v1 = v1 by omega]; exact OkIs.of (monB_iff.2 (by omega)))
     have hd : decide (v1 < v0) = false := decide_eq_false hlt1
     go_wp2_with fail
     have y0 := cell_regrown g0
     have y1 := cell_regrown g1
     have y2 := cell_regrown x0
     refine wp_region_quiet_below (by kernel_rfl) (by kernel_rfl) ?_
     repeat (go_big_quiet_step (fail))
     refine wpQuiet_nil ?_
     intro _ hw'
     obtain ⟨⟨dq, osq⟩, hw''⟩ := hw'
     subst hw''
     have HBN := Lib.hid (HBr.out.trans ((below_regrown wr dq osq).mono HBr.out.size))
     go_wp2_with fail
     go_wp2_with (first | (go_at_call 39; refine (isMoney_ref _ _).mono ?_; rintro e w' ⟨rfl, h'⟩; subst w'))
     refine bodyPost_ret (v := .tuple #[.int .i64 (v1), .bool (monB (v1))]) (by simp [results, Tryz.results40, go_sem] <;> rfl) rfl ?_
     exact ⟨⟨_, _, rfl, by rw [HSOME.out _ _ HV0.out HV1.out]; exact HTW.out⟩, HBN.out⟩
end Go.Proofs.YtmlpedgcpffpnaaGreatDoor
