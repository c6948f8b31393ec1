/-
  Promise H2: the walks of the reference's LineAt, AmountAt and TableAt.
-/
import Derived.Test.YtoingnhiipfnlaaDoorNLines
namespace Go.Proofs.YtoingnhiipfnlaaDoor
open Go.RowKit

theorem eqS (a b : ByteArray) : (a.toList == b.toList) = decide (a.data = b.data) := by
  rw [ByteArray.toList_eq, ByteArray.toList_eq, Bool.eq_iff_iff]
  simp
/-- A place, or -1. -/
def optI : Option Nat → Int | some v => v | none => -1
/-- Of several alike the first one. -/
def firstN (f : Nat → ByteArray) : Nat → ByteArray → Option Nat
  | 0, _ => none
  | k + 1, s => match firstN f k s with | some v => some v | none => if (f k).data = s.data then some k else none
theorem firstN_miss {f : Nat → ByteArray} {k : Nat} {s : ByteArray} (h : firstN f k s = none) (hn : (f k).data ≠ s.data) : firstN f (k + 1) s = none := by simp [firstN, h, hn]
theorem firstN_hit {f : Nat → ByteArray} {n k : Nat} {s : ByteArray} (hk : k < n) (h : firstN f k s = none) (he : (f k).data = s.data) : firstN f n s = some k := by
  induction n with
  | zero => omega
  | succ q ih =>
    by_cases e : k = q
    · subst e; simp [firstN, h, he]
    · simp [firstN, ih (by omega)]
theorem firstN_some {f : Nat → ByteArray} {n : Nat} {s : ByteArray} : (firstN f n s).isSome = (lastN f n s).isSome := by
  induction n with
  | zero => rfl
  | succ q ih =>
    by_cases e : (f q).data = s.data
    · simp only [lastN, e, if_true, firstN]
      cases firstN f q s <;> rfl
    · simp only [lastN, firstN, if_neg e]
      rw [← ih]
      cases firstN f q s <;> rfl
theorem optI_ge (o : Option Nat) : decide (0 ≤ optI o) = o.isSome := by
  cases o
  · rfl
  · simp [optI]
theorem lastN_skip {f : Nat → ByteArray} {q : Nat} {s : ByteArray} (h : (f q).data ≠ s.data) : lastN f (q + 1) s = lastN f q s := by simp [lastN, h]
theorem lastN_hit {f : Nat → ByteArray} {q : Nat} {s : ByteArray} (h : (f q).data = s.data) : lastN f (q + 1) s = some q := by simp [lastN, h]
set_option maxRecDepth 100000 in
set_option maxHeartbeats 2000000 in
theorem lineAt_ref (a : Option Addr) (n cap : Nat) (l : List Ln) (s : ByteArray) (p : Nat) (w : World) (hc : CameL w a l) (hn : l.length = n) (hm : n ≤ maxLen) (hp : p ≤ n) :
    Calls Tryd.prog 33 #[.slice a n cap, .string s, .int .i64 p] w fun e w' => e = .returned (.int .i64 (optI (lastN (fun j => (lnth l j).name) p s))) ∧ Below w.heap.size w w' := by
  have hm' : n ≤ 9223372036854775807 := by unfold maxLen at hm; omega
  have HO := Lib.hid (fun h0 => hc.open hn h0)
  clear hm hc
  go_enter Tryd.func33, Tryd.ntmps33
  go_wp2_with fail
  go_loopw [7] (fun i wr => ∃ q : Nat, q ≤ p ∧ i = .int .i64 ((q : Int) - 1) ∧ lastN (fun j => (lnth l j).name) p s = lastN (fun j => (lnth l j).name) q s ∧ Below w.heap.size w wr) (fun i _ => (intOf i + 1).toNat)
  case atStart => exact ⟨p, Nat.le_refl _, by go_num, rfl, Below.refl _ _⟩
  case round =>
    obtain ⟨q, hq, rfl, hf, hb⟩ := hrel
    have HF := Lib.hid hf
    have HB := Lib.hid hb
    clear hf hb
    by_cases h0 : q = 0
    · subst h0
      have HR : Hid (optI (lastN (fun j => (lnth l j).name) p s) = -1) := by unfold Hid; rw [HF.out]; rfl
      go_wp2_with fail
      go_ret
      exact ⟨kret_int HR.out.symm, HB.out⟩
    · obtain ⟨r, rfl⟩ : ∃ r, q = r + 1 := ⟨q - 1, by omega⟩
      rw [show (((r + 1 : Nat) : Int) - 1) = (r : Int) by omega]
      have hr0 : (0 : Int) ≤ (r : Int) := by omega
      have hlt' : (r : Int) < (n : Int) := by omega
      obtain ⟨b, off, rfl, hcell⟩ := HO.out (by omega)
      obtain ⟨aj, cj, ⟨x0, x1, x2, x3, x4, x5⟩, _⟩ := hcell wr HB.out r (by omega)
      clear hcell
      by_cases e : (lnth l r).name.data = s.data
      · have hE : ((lnth l r).name.toList == s.toList) = true := by rw [eqS, decide_eq_true e]
        have HR : Hid (optI (lastN (fun j => (lnth l j).name) p s) = r) := by unfold Hid; rw [HF.out, lastN_hit (f := fun j => (lnth l j).name) e]; rfl
        go_wp2_with fail
        go_ret
        exact ⟨kret_int HR.out.symm, HB.out⟩
      · have hE : ((lnth l r).name.toList == s.toList) = false := by rw [eqS, decide_eq_false e]
        have HN : Hid (lastN (fun j => (lnth l j).name) p s = lastN (fun j => (lnth l j).name) r s) := by unfold Hid; rw [HF.out, lastN_skip (f := fun j => (lnth l j).name) e]
        go_wp2_with fail
        go_roundw
        case rel => exact ⟨r, by omega, by go_num, HN.out, HB.out⟩
        case measure => simp [intOf]
set_option maxRecDepth 100000 in
set_option maxHeartbeats 2000000 in
theorem amountAt_ref (a : Option Addr) (n cap : Nat) (l : List Am) (s : ByteArray) (w : World) (hc : CameA w a l) (hn : l.length = n) (hm : n ≤ maxLen) :
    Calls Tryd.prog 34 #[.slice a n cap, .string s] w fun e w' => e = .returned (.int .i64 (optI (firstN (fun j => (anth l j).name) n s))) ∧ Below w.heap.size w w' := by
  have hm' : n ≤ 9223372036854775807 := by unfold maxLen at hm; omega
  have HO := Lib.hid (fun h0 => hc.open hn h0)
  clear hm hc
  go_enter Tryd.func34, Tryd.ntmps34
  go_wp2_with fail
  go_loopw [5] (fun i wr => ∃ q : Nat, q ≤ n ∧ i = .int .i64 q ∧ firstN (fun j => (anth l j).name) q s = none ∧ Below w.heap.size w wr) (fun i _ => n - (intOf i).toNat)
  case atStart => exact ⟨0, Nat.zero_le _, rfl, rfl, Below.refl _ _⟩
  case round =>
    obtain ⟨q, hq, rfl, hf, hb⟩ := hrel
    have HF := Lib.hid hf
    have HB := Lib.hid hb
    clear hf hb
    by_cases hlt : q < n
    · have hlt' : (q : Int) < (n : Int) := by omega
      obtain ⟨b, off, rfl, hcell⟩ := HO.out (by omega)
      obtain ⟨x0, x1⟩ := hcell wr HB.out q hlt
      clear hcell
      by_cases e : (anth l q).name.data = s.data
      · have hE : ((anth l q).name.toList == s.toList) = true := by rw [eqS, decide_eq_true e]
        have HR : Hid (optI (firstN (fun j => (anth l j).name) n s) = q) := by unfold Hid; rw [firstN_hit (f := fun j => (anth l j).name) hlt HF.out e]; rfl
        go_wp2_with fail
        go_ret
        exact ⟨kret_int HR.out.symm, HB.out⟩
      · have hE : ((anth l q).name.toList == s.toList) = false := by rw [eqS, decide_eq_false e]
        have HN : Hid (firstN (fun j => (anth l j).name) (q + 1) s = none) := firstN_miss HF.out e
        go_wp2_with fail
        go_roundw
        case rel => exact ⟨q + 1, by omega, by go_num, HN.out, HB.out⟩
        case measure => simp [intOf]; omega
    · have hqn : q = n := by omega
      subst hqn
      have HR : Hid (optI (firstN (fun j => (anth l j).name) q s) = -1) := by unfold Hid; rw [HF.out]; rfl
      go_wp2_with fail
      go_ret
      exact ⟨kret_int HR.out.symm, HB.out⟩
set_option maxRecDepth 100000 in
set_option maxHeartbeats 2000000 in
theorem tableAt_ref (a : Option Addr) (n cap : Nat) (l : List Tb) (s : ByteArray) (w : World) (hc : CameT w a l) (hn : l.length = n) (hm : n ≤ maxLen) :
    Calls Tryd.prog 75 #[.slice a n cap, .string s] w fun e w' => e = .returned (.int .i64 (optI (firstN (fun j => (tnth l j).name) n s))) ∧ Below w.heap.size w w' := by
  have hm' : n ≤ 9223372036854775807 := by unfold maxLen at hm; omega
  have HO := Lib.hid (fun h0 => hc.open hn h0)
  clear hm hc
  go_enter Tryd.func75, Tryd.ntmps75
  go_wp2_with fail
  go_loopw [5] (fun i wr => ∃ q : Nat, q ≤ n ∧ i = .int .i64 q ∧ firstN (fun j => (tnth l j).name) q s = none ∧ Below w.heap.size w wr) (fun i _ => n - (intOf i).toNat)
  case atStart => exact ⟨0, Nat.zero_le _, rfl, rfl, Below.refl _ _⟩
  case round =>
    obtain ⟨q, hq, rfl, hf, hb⟩ := hrel
    have HF := Lib.hid hf
    have HB := Lib.hid hb
    clear hf hb
    by_cases hlt : q < n
    · have hlt' : (q : Int) < (n : Int) := by omega
      obtain ⟨b, off, rfl, hcell⟩ := HO.out (by omega)
      obtain ⟨ax, cx, x0, x1, _⟩ := hcell wr HB.out q hlt
      clear hcell
      by_cases e : (tnth l q).name.data = s.data
      · have hE : ((tnth l q).name.toList == s.toList) = true := by rw [eqS, decide_eq_true e]
        have HR : Hid (optI (firstN (fun j => (tnth l j).name) n s) = q) := by unfold Hid; rw [firstN_hit (f := fun j => (tnth l j).name) hlt HF.out e]; rfl
        go_wp2_with fail
        go_ret
        exact ⟨kret_int HR.out.symm, HB.out⟩
      · have hE : ((tnth l q).name.toList == s.toList) = false := by rw [eqS, decide_eq_false e]
        have HN : Hid (firstN (fun j => (tnth l j).name) (q + 1) s = none) := firstN_miss HF.out e
        go_wp2_with fail
        go_roundw
        case rel => exact ⟨q + 1, by omega, by go_num, HN.out, HB.out⟩
        case measure => simp [intOf]; omega
    · have hqn : q = n := by omega
      subst hqn
      have HR : Hid (optI (firstN (fun j => (tnth l j).name) q s) = -1) := by unfold Hid; rw [HF.out]; rfl
      go_wp2_with fail
      go_ret
      exact ⟨kret_int HR.out.symm, HB.out⟩
end Go.Proofs.YtoingnhiipfnlaaDoor
