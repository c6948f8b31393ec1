/-
  Promise I1: what an expression with two Kids comes to: the walk of value's comesTo.
-/
import Derived.Test.YtmlpedgcpffpnaaGreatDoorKQE
import Derived.Deep.RegionWith
import Derived.Test.YtmlpedgcpffpnaaGreatDoorKQ4
set_option linter.unusedSimpArgs false
set_option maxRecDepth 100000
set_option maxHeartbeats 8000000
namespace Go.Proofs.YtmlpedgcpffpnaaGreatDoor
open Go.RowKit Go.Maps Go.WideMaps


def NameOk (l : List Ln) (kn : Kn) (vs : List Int) (s : ByteArray) : Prop := (∀ p, lnsG l s = some p -> p < vs.length) /\ (lnsG l s = none -> (insG kn s).isSome = true)
theorem firstE_zero {f : Nat -> Int} : ∀ {m : Nat}, firstE f m = 0 -> ∀ j, j < m -> f j = 0
 | 0, _, j, hj => by omega
 | m + 1, h, j, hj => by
   simp only [firstE] at h
   split at h
   ·rename_i h0
    by_cases e : j = m
    ·subst e; exact h
    ·exact firstE_zero h0 j (by omega)
   ·rename_i h0; exact absurd h h0
theorem allN_each {f : Nat -> Bool} : ∀ {m : Nat}, allN f m = true -> ∀ j, j < m -> f j = true
 | 0, _, j, hj => by omega
 | m + 1, h, j, hj => by
   simp only [allN, Bool.and_eq_true] at h
   by_cases e : j = m
   ·subst e; exact h.2
   ·exact allN_each h.1 j (by omega)
theorem own_parts {k n : Int} {s : ByteArray} {m : Nat} (h : ownE k n s m = 0) : 1 <= k /\ k <= 13 /\ (m : Int) = kidsOf k /\ (namedB k = true -> NameP s) /\ leastOf k <= n /\ n <= mostOf k := by
 unfold ownE at h
 split at h
 ·cases h
 ·split at h
  ·cases h
  ·split at h
   ·cases h
   ·split at h
    ·cases h
    ·split at h
     ·cases h
     ·rename_i h1 h2 h3 _ h5
      exact ⟨by omega, by omega, by simpa using h2, fun hn => Classical.byContradiction fun hc => h3 ⟨hn, hc⟩, by omega, by omega⟩
end Go.Proofs.YtmlpedgcpffpnaaGreatDoor
namespace Go.Proofs.YtmlpedgcpffpnaaGreatDoor
open Go.RowKit
theorem vlast_is {f : Nat -> ByteArray} : ∀ {n : Nat} {s : ByteArray} {p : Nat}, lastN f n s = some p -> (f p).data = s.data
 | 0, _, _, h => by cases h
 | n + 1, s, p, h => by
   simp only [lastN] at h
   split at h
   ·rename_i e; injection h with h; rw [<- h]; exact e
   ·exact vlast_is h
theorem vlast_has {f : Nat -> ByteArray} : ∀ {n : Nat} {s : ByteArray} {j : Nat}, j < n -> (f j).data = s.data -> (lastN f n s).isSome = true
 | 0, _, _, h, _ => by omega
 | n + 1, s, j, h, e => by
   simp only [lastN]
   split
   ·rfl
   ·by_cases ej : j = n
    ·subst ej; contradiction
    ·exact vlast_has (by omega) e
theorem vlast_same {f : Nat -> ByteArray} {s t : ByteArray} (e : s.data = t.data) : ∀ {n : Nat}, lastN f n s = lastN f n t
 | 0 => rfl
 | n + 1 => by simp only [lastN, e, vlast_same e (n := n)]
theorem line_new {l : List Ln} {kn : Kn} {q : Nat} (h : lineOk l kn q = 0) : (valsK l kn q (lnth l q).name).isSome = false := by
 unfold lineOk at h
 split at h
 ·cases h
 ·rename_i h1; simpa using h1
theorem vals_line {l : List Ln} {kn : Kn} {j : Nat} {s : ByteArray} (h : (lastN (fun j => (lnth l j).name) j s).isSome = true) : (valsK l kn j s).isSome = true := by
 unfold valsK
 cases hg : lastN (fun j => (lnth l j).name) j s with
 | none => rw [hg] at h; cases h
 | some p => rfl
theorem vals_ins {l : List Ln} {kn : Kn} {j : Nat} {s : ByteArray} (h : (insG kn s).isSome = true) : (valsK l kn j s).isSome = true := by
 unfold valsK
 cases hg : lastN (fun j => (lnth l j).name) j s with
 | none => exact h
 | some p => rfl
theorem name_ok {l : List Ln} {kn : Kn} {vs : List Int} (hok : ∀ q, q < l.length -> lineOk l kn q = 0) (hj : vs.length < l.length) {s : ByteArray} (h : (valsK l kn vs.length s).isSome = true) : NameOk l kn vs s := by
 cases hg : lastN (fun j => (lnth l j).name) vs.length s with
 | some p' =>
   have hp' := vlast_lt hg;have he' := vlast_is hg;refine ⟨fun p hp => ?_, fun hn => ?_⟩
   ·have hpl := vlast_lt hp;have he := vlast_is hp;refine Classical.byContradiction fun hc => ?_
    have h1 := line_new (hok p hpl);rw [vals_line (vlast_has (j := p') (by omega) (he'.trans he.symm))] at h1
    cases h1
   ·have := vlast_has (f := fun j => (lnth l j).name) (n := l.length) (s := s) (j := p') (by omega) he';rw [show lastN (fun j => (lnth l j).name) l.length s = none from hn] at this
    cases this
 | none =>
   have hi : (insG kn s).isSome = true := by
    unfold valsK at h;rw [hg] at h;exact h
   refine ⟨fun p hp => ?_, fun _ => hi⟩;have hpl := vlast_lt hp;have he := vlast_is hp;have h1 := line_new (hok p hpl);rw [vals_ins (by unfold insG at hi ⊢; rw [vlast_same he]; exact hi)] at h1
   cases h1
theorem line_knows {l : List Ln} {kn : Kn} {q : Nat} (h : lineOk l kn q = 0) : (lnth l q).ex.all (knowB (valsK l kn q) (linesG l) (tabsG kn)) = true := by
 unfold lineOk at h
 split at h
 ·cases h
 ·split at h
  ·assumption
  ·cases h
theorem lines_err {l : List Ln} (h : linesE l = 0) {j : Nat} (hj : j < l.length) : (lnth l j).ex.err = 0 := by
 unfold linesE at h
 split at h
 ·cases h
 ·have h1 := firstE_zero h j hj;simp only [lineE] at h1
  split at h1
  ·cases h1
  ·split at h1
   ·exact h1
   ·cases h1
end Go.Proofs.YtmlpedgcpffpnaaGreatDoor
