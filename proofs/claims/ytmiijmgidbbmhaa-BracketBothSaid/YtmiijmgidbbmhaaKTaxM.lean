/-
  Promise G2, plain mathematics: what a base owes by brackets, reckoned in two ways; how it goes with the base.
-/
import Derived.Test.YtmiijmgidbbmhaaKTbl
namespace Go.Proofs.Ytmiijmgidbbmhaa

/-- What a base has above the From of a bracket (behind the last one: nothing). -/
def hb (l : List Bk) (base : Int) (j : Nat) : Int := if j < l.length then max 0 (base - (bnth l j).frm) else 0
/-- The parts of the first brackets, as the program takes them. -/
def pP (l : List Bk) (base : Int) : Nat → Int
  | 0 => 0
  | k + 1 => pP l base k + (hb l base k - hb l base (k + 1)) * (bnth l k).rate
/-- What a bracket adds to the rate. -/
def more (l : List Bk) (j : Nat) : Int := if j = 0 then (bnth l 0).rate else (bnth l j).rate - (bnth l (j - 1)).rate
/-- The parts, as the reference takes them. -/
def rP (l : List Bk) (base : Int) : Nat → Int
  | 0 => 0
  | k + 1 => rP l base k + hb l base k * more l k
theorem pr_step (l : List Bk) (base : Int) : ∀ k, pP l base (k + 1) = rP l base (k + 1) - hb l base (k + 1) * (bnth l k).rate
  | 0 => by
    simp only [pP, rP, more, if_true]
    rw [Int.sub_mul]
    omega
  | k + 1 => by
    have ih := pr_step l base k
    have e1 : pP l base (k + 1 + 1) = pP l base (k + 1) + (hb l base (k + 1) - hb l base (k + 1 + 1)) * (bnth l (k + 1)).rate := rfl
    have e2 : rP l base (k + 1 + 1) = rP l base (k + 1) + hb l base (k + 1) * more l (k + 1) := rfl
    have e3 : more l (k + 1) = (bnth l (k + 1)).rate - (bnth l k).rate := by simp [more]
    rw [e1, e2, e3, ih, Int.sub_mul, Int.mul_sub]
    omega
theorem pr_same {l : List Bk} (h : 1 ≤ l.length) (base : Int) : pP l base l.length = rP l base l.length := by
  obtain ⟨k, hk⟩ : ∃ k, l.length = k + 1 := ⟨l.length - 1, by omega⟩
  rw [hk, pr_step]
  have : hb l base (k + 1) = 0 := by unfold hb; rw [if_neg (by omega)]
  rw [this]
  omega
theorem right_nth {l : List Bk} (h : Right l) {j : Nat} (hj : j < l.length) : 0 ≤ (bnth l j).frm ∧ (bnth l j).frm ≤ 1000000000000 ∧ 0 ≤ (bnth l j).rate ∧ (bnth l j).rate ≤ 10000 := bkB_iff.1 (bksB_nth h.2.2.1 hj)
theorem right_up {l : List Bk} (h : Right l) {j : Nat} (hj : j + 1 < l.length) : (bnth l j).frm < (bnth l (j + 1)).frm := upB_iff.1 h.2.2.2.2 j hj
theorem hb_nonneg (l : List Bk) (base : Int) (j : Nat) : 0 ≤ hb l base j := by
  unfold hb
  split <;> omega
theorem hb_le {l : List Bk} (h : Right l) (base : Int) (j : Nat) : hb l base j ≤ max 0 base := by
  unfold hb
  split
  · have := right_nth h ‹_›
    omega
  · omega
theorem hb_zero {l : List Bk} (h : Right l) (base : Int) : hb l base 0 = max 0 base := by
  unfold hb
  rw [if_pos (by have := h.1; omega), h.2.2.2.1]
  omega
/-- What a bracket takes of a base. -/
theorem hb_top {l : List Bk} (h : Right l) (base : Int) {j : Nat} (hj : j < l.length) : max 0 ((if j + 1 < l.length then min base (bnth l (j + 1)).frm else base) - (bnth l j).frm) = hb l base j - hb l base (j + 1) := by
  unfold hb
  rw [if_pos hj]
  by_cases h1 : j + 1 < l.length
  · rw [if_pos h1, if_pos h1]
    have := right_up h h1
    omega
  · rw [if_neg h1, if_neg h1]
    omega
theorem hb_falls {l : List Bk} (h : Right l) (base : Int) {j : Nat} (hj : j < l.length) : 0 ≤ hb l base j - hb l base (j + 1) := by
  rw [← hb_top h base hj]
  omega
/-- Bounds of the parts. -/
theorem pP_bd {l : List Bk} (h : Right l) {base : Int} : ∀ k, k ≤ l.length → 0 ≤ pP l base k ∧ pP l base k ≤ (hb l base 0 - hb l base k) * 10000
  | 0, _ => by simp [pP]
  | k + 1, hk => by
    have ih := pP_bd h (base := base) k (by omega)
    have hd := hb_falls h base (j := k) (by omega)
    have hr := right_nth h (j := k) (by omega)
    have e : pP l base (k + 1) = pP l base k + (hb l base k - hb l base (k + 1)) * (bnth l k).rate := rfl
    have m1 : 0 ≤ (hb l base k - hb l base (k + 1)) * (bnth l k).rate := Int.mul_nonneg hd hr.2.2.1
    have m2 : (hb l base k - hb l base (k + 1)) * (bnth l k).rate ≤ (hb l base k - hb l base (k + 1)) * 10000 := Int.mul_le_mul_of_nonneg_left hr.2.2.2 hd
    rw [e]
    omega
theorem pP_bound {l : List Bk} (h : Right l) {base : Int} (hb' : base ≤ 1000000000000) {k : Nat} (hk : k ≤ l.length) : 0 ≤ pP l base k ∧ pP l base k ≤ 10000000000000000 := by
  have h1 := pP_bd h (base := base) k hk
  have h2 := hb_nonneg l base k
  have h3 := hb_le h base 0
  omega
theorem rP_bound {l : List Bk} (h : Right l) {base : Int} (hb' : base ≤ 1000000000000) : ∀ k, k ≤ l.length → -(10000000000000000 * (k : Int)) ≤ rP l base k ∧ rP l base k ≤ 10000000000000000 * (k : Int)
  | 0, _ => by simp [rP]
  | k + 1, hk => by
    have ih := rP_bound h hb' k (by omega)
    have h0 := hb_nonneg l base k
    have h1 := hb_le h base k
    have hm : -10000 ≤ more l k ∧ more l k ≤ 10000 := by
      unfold more
      have hr := right_nth h (j := k) (by omega)
      split
      · subst_vars; omega
      · have hr' := right_nth h (j := k - 1) (by omega)
        omega
    have e : rP l base (k + 1) = rP l base k + hb l base k * more l k := rfl
    have m1 : hb l base k * more l k ≤ hb l base k * 10000 := Int.mul_le_mul_of_nonneg_left hm.2 h0
    have m2 : hb l base k * (-10000) ≤ hb l base k * more l k := Int.mul_le_mul_of_nonneg_left hm.1 h0
    rw [e]
    omega
/-- The tax. -/
def taxN (l : List Bk) (base : Int) : Int := rd (pP l base l.length) 10000 5
/-- A unit more of base: none to a whole rate more of parts. -/
theorem pP_step {l : List Bk} (h : Right l) (base : Int) : ∀ k, k ≤ l.length → 0 ≤ pP l (base + 1) k - pP l base k ∧ pP l (base + 1) k - pP l base k ≤ ((hb l (base + 1) 0 - hb l (base + 1) k) - (hb l base 0 - hb l base k)) * 10000
  | 0, _ => by simp [pP]
  | k + 1, hk => by
    have ih := pP_step h base k (by omega)
    have hr := right_nth h (j := k) (by omega)
    have e : pP l base (k + 1) = pP l base k + (hb l base k - hb l base (k + 1)) * (bnth l k).rate := rfl
    have e' : pP l (base + 1) (k + 1) = pP l (base + 1) k + (hb l (base + 1) k - hb l (base + 1) (k + 1)) * (bnth l k).rate := rfl
    have hd : 0 ≤ (hb l (base + 1) k - hb l (base + 1) (k + 1)) - (hb l base k - hb l base (k + 1)) := by
      rw [← hb_top h base (j := k) (by omega), ← hb_top h (base + 1) (j := k) (by omega)]
      split <;> omega
    have m1 : 0 ≤ ((hb l (base + 1) k - hb l (base + 1) (k + 1)) - (hb l base k - hb l base (k + 1))) * (bnth l k).rate := Int.mul_nonneg hd hr.2.2.1
    have m2 : ((hb l (base + 1) k - hb l (base + 1) (k + 1)) - (hb l base k - hb l base (k + 1))) * (bnth l k).rate ≤ ((hb l (base + 1) k - hb l (base + 1) (k + 1)) - (hb l base k - hb l base (k + 1))) * 10000 := Int.mul_le_mul_of_nonneg_left hr.2.2.2 hd
    rw [Int.sub_mul] at m1 m2
    rw [e, e']
    omega
theorem hb_end (l : List Bk) (base : Int) : hb l base l.length = 0 := by unfold hb; rw [if_neg (by omega)]
theorem rd_plus (n : Int) (h : 0 ≤ n) : rd (n + 10000) 10000 5 = rd n 10000 5 + 1 := by
  have h1 : (n + 10000) % 10000 = n % 10000 := by omega
  have h2 : (n + 10000) / 10000 = n / 10000 + 1 := by omega
  unfold rd goesUp
  rw [h1, h2]
  by_cases h0 : n % 10000 = 0
  · rw [if_pos h0, if_pos h0]
  · rw [if_neg h0, if_neg h0]
    have hn : 0 < n := by omega
    have hn' : 0 < n + 10000 := by omega
    simp [hn, hn']
    split <;> rfl
theorem tax_step {l : List Bk} (h : Right l) (base : Int) : taxN l base ≤ taxN l (base + 1) ∧ taxN l (base + 1) ≤ taxN l base + 1 := by
  have hs := pP_step h base l.length (Nat.le_refl _)
  rw [hb_end, hb_end, hb_zero h, hb_zero h] at hs
  have hp := (pP_bd h (base := base) l.length (Nat.le_refl _)).1
  have u1 : pP l base l.length ≤ pP l (base + 1) l.length := by omega
  have u2 : pP l (base + 1) l.length ≤ pP l base l.length + 10000 := by omega
  refine ⟨rd_mono _ _ 10000 5 (by omega) (by omega) (by omega) u1, ?_⟩
  unfold taxN
  rw [← rd_plus _ hp]
  exact rd_mono _ _ 10000 5 (by omega) (by omega) (by omega) u2
theorem tax_neg {l : List Bk} (h : Right l) {base : Int} (hb' : base ≤ 0) : taxN l base = 0 := by
  have := pP_bd h (base := base) l.length (Nat.le_refl _)
  rw [hb_end, hb_zero h] at this
  have e : pP l base l.length = 0 := by omega
  unfold taxN
  rw [e]
  decide
theorem tax_far {l : List Bk} (h : Right l) (base : Int) : ∀ m : Nat, taxN l base ≤ taxN l (base + m) ∧ taxN l (base + m) ≤ taxN l base + m
  | 0 => by simp
  | m + 1 => by
    have ih := tax_far h base m
    have st := tax_step h (base + m)
    have e : base + ((m + 1 : Nat) : Int) = base + m + 1 := by omega
    rw [e]
    omega
/-- What is left never falls. -/
theorem left_up {l : List Bk} (h : Right l) {x y : Int} (hxy : x ≤ y) : x - taxN l x ≤ y - taxN l y := by
  obtain ⟨m, rfl⟩ : ∃ m : Nat, y = x + m := ⟨(y - x).toNat, by omega⟩
  have := tax_far h x m
  omega
theorem tax_le {l : List Bk} (h : Right l) (base : Int) : 0 ≤ taxN l base ∧ taxN l base ≤ max 0 base := by
  by_cases hb' : base ≤ 0
  · rw [tax_neg h hb']; omega
  · obtain ⟨m, rfl⟩ : ∃ m : Nat, base = 0 + (m : Int) := ⟨base.toNat, by omega⟩
    have := tax_far h 0 m
    rw [tax_neg h (Int.le_refl 0)] at this
    omega
/-- Where rates rise, bases together owe no less. -/
theorem rP_bends {l : List Bk} (h : Right l) (hr : ∀ j, j + 1 < l.length → (bnth l j).rate ≤ (bnth l (j + 1)).rate) {a b : Int} (ha : 0 ≤ a) (hb' : 0 ≤ b) : ∀ k, k ≤ l.length → rP l a k + rP l b k ≤ rP l (a + b) k
  | 0, _ => by simp [rP]
  | k + 1, hk => by
    have ih := rP_bends h hr ha hb' k (by omega)
    have hm : 0 ≤ more l k := by
      unfold more
      have hq := right_nth h (j := k) (by omega)
      split
      · subst_vars; omega
      · have := hr (k - 1) (by omega)
        rw [show k - 1 + 1 = k by omega] at this
        omega
    have hh : hb l a k + hb l b k ≤ hb l (a + b) k := by
      unfold hb
      have hq := right_nth h (j := k) (by omega)
      rw [if_pos (by omega), if_pos (by omega), if_pos (by omega)]
      omega
    have m1 : (hb l a k + hb l b k) * more l k ≤ hb l (a + b) k * more l k := Int.mul_le_mul_of_nonneg_right hh hm
    rw [Int.add_mul] at m1
    have e1 : rP l a (k + 1) = rP l a k + hb l a k * more l k := rfl
    have e2 : rP l b (k + 1) = rP l b k + hb l b k * more l k := rfl
    have e3 : rP l (a + b) (k + 1) = rP l (a + b) k + hb l (a + b) k * more l k := rfl
    rw [e1, e2, e3]
    omega
theorem tax_bends {l : List Bk} (h : Right l) (hr : ∀ j, j + 1 < l.length → (bnth l j).rate ≤ (bnth l (j + 1)).rate) {a b : Int} (ha : 0 ≤ a) (hb' : 0 ≤ b) : taxN l a + taxN l b ≤ taxN l (a + b) + 1 := by
  have hp := rP_bends h hr ha hb' l.length (Nat.le_refl _)
  rw [← pr_same h.1, ← pr_same h.1, ← pr_same h.1] at hp
  have r1 := rd_half (pP l a l.length) 10000 5 (by omega) (.inl rfl)
  have r2 := rd_half (pP l b l.length) 10000 5 (by omega) (.inl rfl)
  have r3 := rd_half (pP l (a + b) l.length) 10000 5 (by omega) (.inl rfl)
  unfold taxN
  omega
end Go.Proofs.Ytmiijmgidbbmhaa
