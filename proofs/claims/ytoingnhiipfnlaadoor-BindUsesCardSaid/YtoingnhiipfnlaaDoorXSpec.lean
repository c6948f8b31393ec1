/-
  Promise F2: what is asked of expressions: how many there are, how deep, and which is wrong first.
-/
import Derived.Test.YtoingnhiipfnlaaDoorXOpen
namespace Go.Proofs.YtoingnhiipfnlaaDoor
open Go.RowKit

/-- Sums, greatest ones, and first errors over numbers below one. -/
def sumN (f : Nat → Nat) : Nat → Nat
  | 0 => 0
  | j + 1 => sumN f j + f j
def maxN (f : Nat → Nat) : Nat → Nat
  | 0 => 0
  | j + 1 => max (maxN f j) (f j)
def firstE (f : Nat → Int) : Nat → Int
  | 0 => 0
  | j + 1 => if firstE f j = 0 then f j else firstE f j
theorem firstE_ok {f : Nat → Int} {j : Nat} (h : firstE f j = 0) : firstE f (j + 1) = f j := by simp [firstE, h]
theorem firstE_err {f : Nat → Int} {m j : Nat} (hj : j < m) (h : firstE f j = 0) (he : f j ≠ 0) : firstE f m = f j := by
  induction m with
  | zero => omega
  | succ q ih =>
    by_cases e : j = q
    · subst e; exact firstE_ok h
    · have h' := ih (by omega)
      show (if firstE f q = 0 then f q else firstE f q) = f j
      rw [h', if_neg he]
/-- How many expressions there are in one, itself too. -/
def Ex.parts : Ex → Nat
  | .no => 1
  | .mk _ _ _ m kid => 1 + sumN (fun j => (kid j).parts) m
/-- How deep it is. -/
def Ex.depth : Ex → Nat
  | .no => 1
  | .mk _ _ _ m kid => 1 + maxN (fun j => (kid j).depth) m
theorem Ex.parts_pos (x : Ex) : 1 ≤ x.parts := by cases x <;> simp [Ex.parts]
theorem Ex.depth_pos (x : Ex) : 1 ≤ x.depth := by cases x <;> simp [Ex.depth]
/-- How many there may still be behind Kids; below 0: too many. -/
def kidsI (f : Nat → Int → Int) : Nat → Int → Int
  | 0, l => l
  | j + 1, l => if kidsI f j l < 0 then kidsI f j l else f j (kidsI f j l)
def Ex.left : Ex → Int → Int → Int
  | .no, d, l => if d = 0 ∨ l = 0 then -1 else l - 1
  | .mk _ _ _ m kid, d, l => if d = 0 ∨ l = 0 then -1 else kidsI (fun j r => (kid j).left (d - 1) r) m (l - 1)
theorem kidsI_eq {f : Nat → Int → Int} {dp pt : Nat → Nat} {d : Nat} (hf : ∀ j (l : Nat), f j l = if dp j ≤ d ∧ pt j ≤ l then (l : Int) - pt j else -1) (l : Nat) :
    ∀ m, kidsI f m l = if maxN dp m ≤ d ∧ sumN pt m ≤ l then (l : Int) - sumN pt m else -1 := by
  intro m
  induction m with
  | zero => simp [kidsI, maxN, sumN]
  | succ q ih =>
    have e0 : kidsI f (q + 1) l = if kidsI f q l < 0 then kidsI f q l else f q (kidsI f q l) := rfl
    have e1 : maxN dp (q + 1) = max (maxN dp q) (dp q) := rfl
    have e2 : sumN pt (q + 1) = sumN pt q + pt q := rfl
    rw [e0, ih]
    by_cases h : maxN dp q ≤ d ∧ sumN pt q ≤ l
    · rw [if_pos h]
      rw [if_neg (by omega), show (l : Int) - (sumN pt q : Nat) = ((l - sumN pt q : Nat) : Int) by omega, hf]
      by_cases h2 : dp q ≤ d ∧ pt q ≤ l - sumN pt q
      · rw [if_pos h2, if_pos (by omega)]; omega
      · rw [if_neg h2, if_neg (by omega)]
    · rw [if_neg h]
      simp only [show ((-1 : Int) < 0) by omega, if_true]
      rw [if_neg (by omega)]
theorem left_eq (x : Ex) : ∀ d l : Nat, x.left d l = if x.depth ≤ d ∧ x.parts ≤ l then (l : Int) - x.parts else -1 := by
  induction x with
  | no =>
    intro d l
    have e0 : Ex.no.left d l = if (d : Int) = 0 ∨ (l : Int) = 0 then -1 else (l : Int) - 1 := by rw [Ex.left]
    have e1 : Ex.no.depth = 1 := by rw [Ex.depth]
    have e2 : Ex.no.parts = 1 := by rw [Ex.parts]
    rw [e0]
    by_cases h : d = 0 ∨ l = 0
    · rw [if_pos (by omega), if_neg (by omega)]
    · rw [if_neg (by omega), if_pos (by omega)]; omega
  | mk k n s m kid ih =>
    intro d l
    have e0 : (Ex.mk k n s m kid).left d l = if (d : Int) = 0 ∨ (l : Int) = 0 then -1 else kidsI (fun j r => (kid j).left ((d : Int) - 1) r) m ((l : Int) - 1) := by rw [Ex.left]
    have e1 : (Ex.mk k n s m kid).depth = 1 + maxN (fun j => (kid j).depth) m := by rw [Ex.depth]
    have e2 : (Ex.mk k n s m kid).parts = 1 + sumN (fun j => (kid j).parts) m := by rw [Ex.parts]
    rw [e0]
    by_cases h : d = 0 ∨ l = 0
    · rw [if_pos (by omega), if_neg (by omega)]
    · rw [if_neg (by omega), show (l : Int) - 1 = ((l - 1 : Nat) : Int) by omega, kidsI_eq (d := d - 1) (dp := fun j => (kid j).depth) (pt := fun j => (kid j).parts) (fun j l' => ?_) (l - 1) m]
      · by_cases h2 : maxN (fun j => (kid j).depth) m ≤ d - 1 ∧ sumN (fun j => (kid j).parts) m ≤ l - 1
        · rw [if_pos h2, if_pos (by omega)]; omega
        · rw [if_neg h2, if_neg (by omega)]
      · rw [show (d : Int) - 1 = ((d - 1 : Nat) : Int) by omega]
        exact ih j (d - 1) l'
theorem kidsI_neg {f : Nat → Int → Int} {l : Int} {m j : Nat} (hj : j < m) (h0 : ¬ kidsI f j l < 0) (h : f j (kidsI f j l) < 0) : kidsI f m l = f j (kidsI f j l) := by
  induction m with
  | zero => omega
  | succ q ih =>
    by_cases e : j = q
    · subst e; simp [kidsI, h0]
    · have h' := ih (by omega)
      show (if kidsI f q l < 0 then kidsI f q l else f q (kidsI f q l)) = _
      rw [h', if_pos h]
theorem sumN_le {f : Nat → Nat} {j m : Nat} (h : j ≤ m) : sumN f j ≤ sumN f m := by
  induction m with
  | zero => have : j = 0 := by omega
            subst this; exact Nat.le_refl _
  | succ q ih =>
    by_cases e : j = q + 1
    · subst e; exact Nat.le_refl _
    · exact Nat.le_trans (ih (by omega)) (by simp [sumN])
theorem maxN_le {f : Nat → Nat} {j m : Nat} (h : j ≤ m) : maxN f j ≤ maxN f m := by
  induction m with
  | zero => have : j = 0 := by omega
            subst this; exact Nat.le_refl _
  | succ q ih =>
    by_cases e : j = q + 1
    · subst e; exact Nat.le_refl _
    · exact Nat.le_trans (ih (by omega)) (by simp [maxN]; omega)
theorem sumN_pos {f : Nat → Nat} (hf : ∀ j, 1 ≤ f j) (m : Nat) : m ≤ sumN f m := by
  induction m with
  | zero => exact Nat.zero_le _
  | succ q ih => have := hf q; simp only [sumN]; omega
/-- How many Kids, from where and to where the Number, of a kind. -/
def kidsOf (k : Int) : Int := if k ≤ 3 then 0 else if k ≤ 6 then 1 else if k ≤ 8 then 2 else if k ≤ 10 then 1 else if k ≤ 12 then 2 else 4
def namedB (k : Int) : Bool := decide (k = 2 ∨ k = 3 ∨ k = 5)
def leastOf (k : Int) : Int := if k = 9 ∨ k = 10 ∨ k = 13 then 1 else 0
def mostOf (k : Int) : Int := if k = 1 then 1000000000000 else if k = 4 ∨ k = 9 ∨ k = 10 then 1000000 else if k = 13 then 3 else 0
/-- What is wrong with an expression by itself: 0 nothing. -/
def ownE (k n : Int) (s : ByteArray) (m : Nat) : Int :=
  if k < 1 ∨ 13 < k then 7 else if (m : Int) ≠ kidsOf k then 1 else if namedB k = true ∧ ¬ NameP s then 1 else if namedB k = false ∧ s.size ≠ 0 then 1 else if n < leastOf k ∨ mostOf k < n then 3 else 0
/-- What is wrong first, each ahead of its Kids. -/
def Ex.err : Ex → Int
  | .no => 0
  | .mk k n s m kid => if ownE k n s m = 0 then firstE (fun j => (kid j).err) m else ownE k n s m
end Go.Proofs.YtoingnhiipfnlaaDoor
