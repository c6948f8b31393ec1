/-
  Promise G2, plain mathematics: what a base owes by brackets, reckoned in two ways; how it goes with the base.
  Promise G2: walks of taxOf, rateUpTo and of the reference's TaxOf and RateOf.
  Promise G2: walks of the reference's TaxOf and RateOf.
  Promise G3: walks of what Gross asks of a base, of the search and of Gross.
  Promises G2, G3: walks of checkBase, Tax, Rate and Gross; what must be in any case (bracketBegun).
  Promise I1: what lines and steps make of numbers: the walks of reckon's Money, sure, Rate, Over, Holds: each returns, or gives up.
  Promise I1: what a table asks of an amount: the walk of reckon's Tax.
  Promise I1: what a name comes to: the walks of value's named and inYear.
  Promise I1: what an expression with one Kid makes of what that comes to: the walk of value's ofOne.
  Promise I1: what a table asks of what an expression's one Kid comes to: value's ofOne, at a table.
  Promise I1: what an expression comes to: what is said of value's comesTo, kind by kind.
-/
import Derived.Test.YtjpjnmhjfpmglaaGreatDoorJA
import Derived.Deep.RegionHeld3
import Derived.Test.YtjpjnmhjfpmglaaGreatDoorJB
import Derived.Recover
import Derived.Lib.Hide
import Derived.Test.YtjpjnmhjfpmglaaGreatDoorJE
import Derived.Test.YtjpjnmhjfpmglaaGreatDoorJC
namespace Go.Proofs.YtjpjnmhjfpmglaaGreatDoor

/-- What a base has above the From of a bracket (behind the last one: nothing). -/
def hb (l : List Bk) (base : Int) (j : Nat) : Int := if j < l.length then max 0 (base - (bnth l j).frm) else 0
/-- The parts of the first brackets, as the program takes them. -/
def pP (l : List Bk) (base : Int) : Nat → Int
  | 0 => 0
  | k + 1 => pP l base k + (hb l base k - hb l base (k + 1)) * (bnth l k).rate
/-- What a bracket adds to the rate. -/
def more (l : List Bk) (j : Nat) : Int := if j = 0 then (bnth l 0).rate else (bnth l j).rate - (bnth l (j - 1)).rate
/-- The parts, as the reference takes them. -/
def rP (l : List Bk) (base : Int) : Nat → Int
  | 0 => 0
  | k + 1 => rP l base k + hb l base k * more l k
theorem pr_step (l : List Bk) (base : Int) : ∀ k, pP l base (k + 1) = rP l base (k + 1) - hb l base (k + 1) * (bnth l k).rate
  | 0 => by
    simp only [pP, rP, more, if_true]
    rw [Int.sub_mul]
    omega
  | k + 1 => by
    have ih := pr_step l base k
    have e1 : pP l base (k + 1 + 1) = pP l base (k + 1) + (hb l base (k + 1) - hb l base (k + 1 + 1)) * (bnth l (k + 1)).rate := rfl
    have e2 : rP l base (k + 1 + 1) = rP l base (k + 1) + hb l base (k + 1) * more l (k + 1) := rfl
    have e3 : more l (k + 1) = (bnth l (k + 1)).rate - (bnth l k).rate := by simp [more]
    rw [e1, e2, e3, ih, Int.sub_mul, Int.mul_sub]
    omega
theorem pr_same {l : List Bk} (h : 1 ≤ l.length) (base : Int) : pP l base l.length = rP l base l.length := by
  obtain ⟨k, hk⟩ : ∃ k, l.length = k + 1 := ⟨l.length - 1, by omega⟩
  rw [hk, pr_step]
  have : hb l base (k + 1) = 0 := by unfold hb; rw [if_neg (by omega)]
  rw [this]
  omega
theorem right_nth {l : List Bk} (h : Right l) {j : Nat} (hj : j < l.length) : 0 ≤ (bnth l j).frm ∧ (bnth l j).frm ≤ 1000000000000 ∧ 0 ≤ (bnth l j).rate ∧ (bnth l j).rate ≤ 10000 := bkB_iff.1 (bksB_nth h.2.2.1 hj)
theorem right_up {l : List Bk} (h : Right l) {j : Nat} (hj : j + 1 < l.length) : (bnth l j).frm < (bnth l (j + 1)).frm := upB_iff.1 h.2.2.2.2 j hj
theorem hb_nonneg (l : List Bk) (base : Int) (j : Nat) : 0 ≤ hb l base j := by
  unfold hb
  split <;> omega
theorem hb_le {l : List Bk} (h : Right l) (base : Int) (j : Nat) : hb l base j ≤ max 0 base := by
  unfold hb
  split
  · have := right_nth h ‹_›
    omega
  · omega
theorem hb_zero {l : List Bk} (h : Right l) (base : Int) : hb l base 0 = max 0 base := by
  unfold hb
  rw [if_pos (by have := h.1; omega), h.2.2.2.1]
  omega
/-- What a bracket takes of a base. -/
theorem hb_top {l : List Bk} (h : Right l) (base : Int) {j : Nat} (hj : j < l.length) : max 0 ((if j + 1 < l.length then min base (bnth l (j + 1)).frm else base) - (bnth l j).frm) = hb l base j - hb l base (j + 1) := by
  unfold hb
  rw [if_pos hj]
  by_cases h1 : j + 1 < l.length
  · rw [if_pos h1, if_pos h1]
    have := right_up h h1
    omega
  · rw [if_neg h1, if_neg h1]
    omega
theorem hb_falls {l : List Bk} (h : Right l) (base : Int) {j : Nat} (hj : j < l.length) : 0 ≤ hb l base j - hb l base (j + 1) := by
  rw [← hb_top h base hj]
  omega
/-- Bounds of the parts. -/
theorem pP_bd {l : List Bk} (h : Right l) {base : Int} : ∀ k, k ≤ l.length → 0 ≤ pP l base k ∧ pP l base k ≤ (hb l base 0 - hb l base k) * 10000
  | 0, _ => by simp [pP]
  | k + 1, hk => by
    have ih := pP_bd h (base := base) k (by omega)
    have hd := hb_falls h base (j := k) (by omega)
    have hr := right_nth h (j := k) (by omega)
    have e : pP l base (k + 1) = pP l base k + (hb l base k - hb l base (k + 1)) * (bnth l k).rate := rfl
    have m1 : 0 ≤ (hb l base k - hb l base (k + 1)) * (bnth l k).rate := Int.mul_nonneg hd hr.2.2.1
    have m2 : (hb l base k - hb l base (k + 1)) * (bnth l k).rate ≤ (hb l base k - hb l base (k + 1)) * 10000 := Int.mul_le_mul_of_nonneg_left hr.2.2.2 hd
    rw [e]
    omega
theorem pP_bound {l : List Bk} (h : Right l) {base : Int} (hb' : base ≤ 1000000000000) {k : Nat} (hk : k ≤ l.length) : 0 ≤ pP l base k ∧ pP l base k ≤ 10000000000000000 := by
  have h1 := pP_bd h (base := base) k hk
  have h2 := hb_nonneg l base k
  have h3 := hb_le h base 0
  omega
theorem rP_bound {l : List Bk} (h : Right l) {base : Int} (hb' : base ≤ 1000000000000) : ∀ k, k ≤ l.length → -(10000000000000000 * (k : Int)) ≤ rP l base k ∧ rP l base k ≤ 10000000000000000 * (k : Int)
  | 0, _ => by simp [rP]
  | k + 1, hk => by
    have ih := rP_bound h hb' k (by omega)
    have h0 := hb_nonneg l base k
    have h1 := hb_le h base k
    have hm : -10000 ≤ more l k ∧ more l k ≤ 10000 := by
      unfold more
      have hr := right_nth h (j := k) (by omega)
      split
      · subst_vars; omega
      · have hr' := right_nth h (j := k - 1) (by omega)
        omega
    have e : rP l base (k + 1) = rP l base k + hb l base k * more l k := rfl
    have m1 : hb l base k * more l k ≤ hb l base k * 10000 := Int.mul_le_mul_of_nonneg_left hm.2 h0
    have m2 : hb l base k * (-10000) ≤ hb l base k * more l k := Int.mul_le_mul_of_nonneg_left hm.1 h0
    rw [e]
    omega
/-- The tax. -/
def taxN (l : List Bk) (base : Int) : Int := rd (pP l base l.length) 10000 5
/-- A unit more of base: none to a whole rate more of parts. -/
theorem pP_step {l : List Bk} (h : Right l) (base : Int) : ∀ k, k ≤ l.length → 0 ≤ pP l (base + 1) k - pP l base k ∧ pP l (base + 1) k - pP l base k ≤ ((hb l (base + 1) 0 - hb l (base + 1) k) - (hb l base 0 - hb l base k)) * 10000
  | 0, _ => by simp [pP]
  | k + 1, hk => by
    have ih := pP_step h base k (by omega)
    have hr := right_nth h (j := k) (by omega)
    have e : pP l base (k + 1) = pP l base k + (hb l base k - hb l base (k + 1)) * (bnth l k).rate := rfl
    have e' : pP l (base + 1) (k + 1) = pP l (base + 1) k + (hb l (base + 1) k - hb l (base + 1) (k + 1)) * (bnth l k).rate := rfl
    have hd : 0 ≤ (hb l (base + 1) k - hb l (base + 1) (k + 1)) - (hb l base k - hb l base (k + 1)) := by
      rw [← hb_top h base (j := k) (by omega), ← hb_top h (base + 1) (j := k) (by omega)]
      split <;> omega
    have m1 : 0 ≤ ((hb l (base + 1) k - hb l (base + 1) (k + 1)) - (hb l base k - hb l base (k + 1))) * (bnth l k).rate := Int.mul_nonneg hd hr.2.2.1
    have m2 : ((hb l (base + 1) k - hb l (base + 1) (k + 1)) - (hb l base k - hb l base (k + 1))) * (bnth l k).rate ≤ ((hb l (base + 1) k - hb l (base + 1) (k + 1)) - (hb l base k - hb l base (k + 1))) * 10000 := Int.mul_le_mul_of_nonneg_left hr.2.2.2 hd
    rw [Int.sub_mul] at m1 m2
    rw [e, e']
    omega
theorem hb_end (l : List Bk) (base : Int) : hb l base l.length = 0 := by unfold hb; rw [if_neg (by omega)]
theorem rd_plus (n : Int) (h : 0 ≤ n) : rd (n + 10000) 10000 5 = rd n 10000 5 + 1 := by
  have h1 : (n + 10000) % 10000 = n % 10000 := by omega
  have h2 : (n + 10000) / 10000 = n / 10000 + 1 := by omega
  unfold rd goesUp
  rw [h1, h2]
  by_cases h0 : n % 10000 = 0
  · rw [if_pos h0, if_pos h0]
  · rw [if_neg h0, if_neg h0]
    have hn : 0 < n := by omega
    have hn' : 0 < n + 10000 := by omega
    simp [hn, hn']
    split <;> rfl
theorem tax_step {l : List Bk} (h : Right l) (base : Int) : taxN l base ≤ taxN l (base + 1) ∧ taxN l (base + 1) ≤ taxN l base + 1 := by
  have hs := pP_step h base l.length (Nat.le_refl _)
  rw [hb_end, hb_end, hb_zero h, hb_zero h] at hs
  have hp := (pP_bd h (base := base) l.length (Nat.le_refl _)).1
  have u1 : pP l base l.length ≤ pP l (base + 1) l.length := by omega
  have u2 : pP l (base + 1) l.length ≤ pP l base l.length + 10000 := by omega
  refine ⟨rd_mono _ _ 10000 5 (by omega) (by omega) (by omega) u1, ?_⟩
  unfold taxN
  rw [← rd_plus _ hp]
  exact rd_mono _ _ 10000 5 (by omega) (by omega) (by omega) u2
theorem tax_neg {l : List Bk} (h : Right l) {base : Int} (hb' : base ≤ 0) : taxN l base = 0 := by
  have := pP_bd h (base := base) l.length (Nat.le_refl _)
  rw [hb_end, hb_zero h] at this
  have e : pP l base l.length = 0 := by omega
  unfold taxN
  rw [e]
  decide
theorem tax_far {l : List Bk} (h : Right l) (base : Int) : ∀ m : Nat, taxN l base ≤ taxN l (base + m) ∧ taxN l (base + m) ≤ taxN l base + m
  | 0 => by simp
  | m + 1 => by
    have ih := tax_far h base m
    have st := tax_step h (base + m)
    have e : base + ((m + 1 : Nat) : Int) = base + m + 1 := by omega
    rw [e]
    omega
/-- What is left never falls. -/
theorem left_up {l : List Bk} (h : Right l) {x y : Int} (hxy : x ≤ y) : x - taxN l x ≤ y - taxN l y := by
  obtain ⟨m, rfl⟩ : ∃ m : Nat, y = x + m := ⟨(y - x).toNat, by omega⟩
  have := tax_far h x m
  omega
theorem tax_le {l : List Bk} (h : Right l) (base : Int) : 0 ≤ taxN l base ∧ taxN l base ≤ max 0 base := by
  by_cases hb' : base ≤ 0
  · rw [tax_neg h hb']; omega
  · obtain ⟨m, rfl⟩ : ∃ m : Nat, base = 0 + (m : Int) := ⟨base.toNat, by omega⟩
    have := tax_far h 0 m
    rw [tax_neg h (Int.le_refl 0)] at this
    omega
/-- Where rates rise, bases together owe no less. -/
theorem rP_bends {l : List Bk} (h : Right l) (hr : ∀ j, j + 1 < l.length → (bnth l j).rate ≤ (bnth l (j + 1)).rate) {a b : Int} (ha : 0 ≤ a) (hb' : 0 ≤ b) : ∀ k, k ≤ l.length → rP l a k + rP l b k ≤ rP l (a + b) k
  | 0, _ => by simp [rP]
  | k + 1, hk => by
    have ih := rP_bends h hr ha hb' k (by omega)
    have hm : 0 ≤ more l k := by
      unfold more
      have hq := right_nth h (j := k) (by omega)
      split
      · subst_vars; omega
      · have := hr (k - 1) (by omega)
        rw [show k - 1 + 1 = k by omega] at this
        omega
    have hh : hb l a k + hb l b k ≤ hb l (a + b) k := by
      unfold hb
      have hq := right_nth h (j := k) (by omega)
      rw [if_pos (by omega), if_pos (by omega), if_pos (by omega)]
      omega
    have m1 : (hb l a k + hb l b k) * more l k ≤ hb l (a + b) k * more l k := Int.mul_le_mul_of_nonneg_right hh hm
    rw [Int.add_mul] at m1
    have e1 : rP l a (k + 1) = rP l a k + hb l a k * more l k := rfl
    have e2 : rP l b (k + 1) = rP l b k + hb l b k * more l k := rfl
    have e3 : rP l (a + b) (k + 1) = rP l (a + b) k + hb l (a + b) k * more l k := rfl
    rw [e1, e2, e3]
    omega
theorem tax_bends {l : List Bk} (h : Right l) (hr : ∀ j, j + 1 < l.length → (bnth l j).rate ≤ (bnth l (j + 1)).rate) {a b : Int} (ha : 0 ≤ a) (hb' : 0 ≤ b) : taxN l a + taxN l b ≤ taxN l (a + b) + 1 := by
  have hp := rP_bends h hr ha hb' l.length (Nat.le_refl _)
  rw [← pr_same h.1, ← pr_same h.1, ← pr_same h.1] at hp
  have r1 := rd_half (pP l a l.length) 10000 5 (by omega) (.inl rfl)
  have r2 := rd_half (pP l b l.length) 10000 5 (by omega) (.inl rfl)
  have r3 := rd_half (pP l (a + b) l.length) 10000 5 (by omega) (.inl rfl)
  unfold taxN
  omega
end Go.Proofs.YtjpjnmhjfpmglaaGreatDoor
namespace Go.Proofs.YtjpjnmhjfpmglaaGreatDoor
open Go.RowKit

set_option maxRecDepth 100000 in
set_option maxHeartbeats 1000000 in
theorem taxOf_any (a : Option Addr) (n cap : Nat) (l : List Bk) (base : Int) (w : World) (hc : CameB w a l) (hn : l.length = n) (hl : Right l) (h1 : -1000000000000 ≤ base) (h2 : base ≤ 1000000000000) :
    Calls Tryz.prog 145 #[.slice a n cap, .int .i64 base] w fun e w' => e = .returned (.int .i64 (taxN l base)) ∧ Below w.heap.size w w' := by
  have hn12 : n ≤ 12 := by rw [← hn]; exact hl.2.1
  have HL := Lib.hid hl
  obtain ⟨b, off, rfl, hcell⟩ := hc.open hn (by rw [← hn]; exact hl.1)
  have HO := Lib.hid hcell
  clear hcell hc hl
  go_enter Tryz.func145, Tryz.ntmps145
  go_wp2_with fail
  go_loopw [5, 13] (fun p i wr => ∃ k : Nat, k ≤ n ∧ i = .int .i64 k ∧ p = .int .i64 (pP l base k) ∧ Below w.heap.size w wr) (fun _ i _ => n - (intOf i).toNat)
  case atStart => exact ⟨0, Nat.zero_le _, rfl, rfl, Below.refl _ _⟩
  case round =>
    obtain ⟨k, hk, rfl, rfl, hb⟩ := hrel
    have HB := Lib.hid hb
    clear hb
    have hpb := pP_bound HL.out h2 (k := k) (by omega)
    by_cases hlt : k < n
    · have hlt' : (k : Int) < (n : Int) := by omega
      obtain ⟨x0, x1⟩ := HO.out wr HB.out k hlt
      have hq := right_nth HL.out (j := k) (by omega)
      have HT0 := Lib.hid (hb_top HL.out base (j := k) (by omega))
      have HM : (0 ≤ (hb l base k - hb l base (k + 1)) * (bnth l k).rate ∧ (hb l base k - hb l base (k + 1)) * (bnth l k).rate ≤ 10000000000000000) := by
        have hd := hb_falls HL.out base (j := k) (by omega)
        have u1 := hb_le HL.out base k
        have u2 := hb_nonneg l base (k + 1)
        refine ⟨Int.mul_nonneg hd hq.2.2.1, ?_⟩
        have := Int.mul_le_mul_of_nonneg_left hq.2.2.2 hd
        omega
      have HR : Hid ((bnth l k).rate = (bnth l k).rate) := rfl
      by_cases hk1 : k + 1 < n
      · have hk1' : (k : Int) + 1 < (n : Int) := by omega
        obtain ⟨y0, _⟩ := HO.out wr HB.out (k + 1) hk1
        have hq' := right_nth HL.out (j := k + 1) (by omega)
        have HTOP := HT0
        rw [if_pos (by omega)] at HTOP
        clear HT0
        have htn : ((k : Int) + 1).toNat = k + 1 := by omega
        have y0' : (wr.alloc (.cells #[.int .i64 (bnth l k).frm, .int .i64 (bnth l k).rate] 142)).cell? ⟨b, off + (k + 1) * 2, none⟩ = some (.int .i64 (bnth l (k + 1)).frm) := ((HO.out _ (HB.out.alloc HB.out.size _)) (k + 1) hk1).1
        generalize hf : (bnth l k).frm = f at *
        generalize hr : (bnth l k).rate = r at *
        generalize hg : (bnth l (k + 1)).frm = g at *
        clear hf hg
        have HR : Hid (r = (bnth l k).rate) := hr.symm
        clear hr
        have HS : Hid (pP l base k + (hb l base k - hb l base (k + 1)) * r = pP l base (k + 1)) := by
          unfold Hid
          rw [HR.out]
          rfl
        have hq2 := pP_bound HL.out h2 (k := k + 1) (by omega)
        go_wp2_with fail
        go_roundw
        case rel =>
          refine ⟨k + 1, by omega, by go_num, ?_, HB.out.alloc HB.out.size _⟩
          rw [show (if f < if g < base then g else base then (if g < base then g else base) - f else 0) = hb l base k - hb l base (k + 1) by rw [← HTOP.out]; (repeat' split) <;> omega, IntWalk.wrap64_in ((hb l base k - hb l base (k + 1)) * r) (by omega), IntWalk.wrap64_in _ (by omega), HS.out]
        case measure => simp [intOf]; omega
      · have hk1' : decide ((k : Int) + 1 < (n : Int)) = false := decide_eq_false (by omega)
        have HTOP := HT0
        rw [if_neg (by omega)] at HTOP
        clear HT0
        generalize hf : (bnth l k).frm = f at *
        generalize hr : (bnth l k).rate = r at *
        clear hf
        have HR : Hid (r = (bnth l k).rate) := hr.symm
        clear hr
        have HS : Hid (pP l base k + (hb l base k - hb l base (k + 1)) * r = pP l base (k + 1)) := by
          unfold Hid
          rw [HR.out]
          rfl
        have hq2 := pP_bound HL.out h2 (k := k + 1) (by omega)
        go_wp2_with fail
        go_roundw
        case rel =>
          refine ⟨k + 1, by omega, by go_num, ?_, HB.out.alloc HB.out.size _⟩
          rw [show (if f < base then base - f else 0) = hb l base k - hb l base (k + 1) by rw [← HTOP.out]; (repeat' split) <;> omega, IntWalk.wrap64_in ((hb l base k - hb l base (k + 1)) * r) (by omega), IntWalk.wrap64_in _ (by omega), HS.out]
        case measure => simp [intOf]; omega
    · have hkn : k = n := by omega
      subst hkn
      have HE : Hid (rvN (pP l base k) 10000 5 = taxN l base) := by
        unfold Hid taxN
        rw [hn]
        exact (rv_ok (n := pP l base k) (d := 10000) (way := 5) rfl (decide_eq_true ⟨by omega, by omega, by omega, by omega⟩)).1
      go_wp2_with fail
      refine (round_any _ _ _ _).mono ?_
      rintro e w2 ⟨rfl, j, rfl⟩
      go_wp2_with fail
      go_ret
      exact ⟨kret_int HE.out, kbelow_dN HB.out _⟩
/-- The rate up to a base, by the first brackets. -/
def rU (l : List Bk) (base : Int) : Nat → Int
  | 0 => (bnth l 0).rate
  | k + 1 => if (bnth l k).frm < base then (bnth l k).rate else rU l base k
def rateN (l : List Bk) (base : Int) : Int := rU l base l.length
theorem rU_bd {l : List Bk} (h : Right l) (base : Int) : ∀ k, k ≤ l.length → 0 ≤ rU l base k ∧ rU l base k ≤ 10000
  | 0, _ => by
    have := right_nth h (j := 0) (by have := h.1; omega)
    simp only [rU]
    omega
  | k + 1, hk => by
    have := right_nth h (j := k) (by omega)
    have ih := rU_bd h base k (by omega)
    simp only [rU]
    split <;> omega
end Go.Proofs.YtjpjnmhjfpmglaaGreatDoor
namespace Go.Proofs.YtjpjnmhjfpmglaaGreatDoor
open Go.RowKit

set_option maxRecDepth 100000 in
set_option maxHeartbeats 1000000 in
theorem taxOf_ref (s : ByteArray) (a : Option Addr) (n cap : Nat) (l : List Bk) (base : Int) (w : World) (hc : CameB w a l) (hn : l.length = n) (hl : Right l) (h1 : -1000000000000 ≤ base) (h2 : base ≤ 1000000000000) :
    Calls Tryz.prog 65 #[.agg #[.string s, .slice a n cap], .int .i64 base] w fun e w' => e = .returned (.int .i64 (taxN l base)) ∧ Below w.heap.size w w' := by
  have hn12 : n ≤ 12 := by rw [← hn]; exact hl.2.1
  have hn1 : 1 ≤ n := by rw [← hn]; exact hl.1
  have HL := Lib.hid hl
  obtain ⟨b, off, rfl, hcell⟩ := hc.open hn (by rw [← hn]; exact hl.1)
  have HO := Lib.hid hcell
  clear hcell hc hl
  have HB0 := Lib.hid (kbelow_box w (.cells #[.string s, .slice (some ⟨b, off, none⟩) n cap] 108))
  obtain ⟨_, x0, x1⟩ := TIs.made w s (some ⟨b, off, none⟩) n cap 108
  go_enter Tryz.func65, Tryz.ntmps65
  go_wp2_with fail
  go_loop [5, 6] (fun p i => ∃ k : Nat, k ≤ n ∧ i = .int .i64 k ∧ p = .int .i64 (rP l base k)) (fun _ i => n - (intOf i).toNat)
  case atStart => exact ⟨0, Nat.zero_le _, rfl, rfl⟩
  case round =>
    obtain ⟨k, hk, rfl, rfl⟩ := hrel
    have hpb := rP_bound HL.out h2 k (by omega)
    by_cases hlt : k < n
    · have hlt' : (k : Int) < (n : Int) := by omega
      obtain ⟨y0, y1⟩ := HO.out _ HB0.out k hlt
      have hq := right_nth HL.out (j := k) (by omega)
      have hpb2 := rP_bound HL.out h2 (k + 1) (by omega)
      have HS : Hid (rP l base k + hb l base k * more l k = rP l base (k + 1)) := rfl
      have HH : Hid (hb l base k = max 0 (base - (bnth l k).frm)) := by unfold Hid hb; rw [if_pos (by omega)]
      by_cases hk0 : k = 0
      · subst hk0
        have HMo : Hid (more l 0 = (bnth l 0).rate) := rfl
        simp only [Nat.zero_mul, Nat.add_zero] at y0 y1
        by_cases hb0 : (bnth l 0).frm < base
        · have HV : Hid ((base - (bnth l 0).frm) * (bnth l 0).rate = hb l base 0 * more l 0) := by unfold Hid; rw [HH.out, HMo.out, show max 0 (base - (bnth l 0).frm) = base - (bnth l 0).frm by omega]
          go_wp2_with fail
          go_round
          case rel =>
            have hS := HS.out
            refine ⟨0 + 1, by omega, by go_num, ?_⟩
            rw [HV.out, IntWalk.wrap64_in (hb l base 0 * more l 0) (by omega), IntWalk.wrap64_in _ (by omega), HS.out]
          case measure => simp [intOf]; omega
        · have hbB : decide ((bnth l 0).frm < base) = false := decide_eq_false hb0
          have HV : Hid (rP l base 0 = rP l base (0 + 1)) := by unfold Hid; rw [← HS.out, HH.out, show max 0 (base - (bnth l 0).frm) = 0 by omega]; omega
          go_wp2_with fail
          go_round
          case rel => exact ⟨0 + 1, by omega, by go_num, by rw [← HV.out]⟩
          case measure => simp [intOf]; omega
      · obtain ⟨q, rfl⟩ : ∃ q, k = q + 1 := ⟨k - 1, by omega⟩
        obtain ⟨_, z1⟩ := HO.out _ HB0.out q (by omega)
        have hq' := right_nth HL.out (j := q) (by omega)
        rw [show ((q + 1 : Nat) : Int) = (q : Int) + 1 by omega]
        rw [show ((q + 1 : Nat) : Int) = (q : Int) + 1 by omega] at hlt'
        have hsub : (q : Int) + 1 - 1 = (q : Int) := by omega
        have htn : ((q : Int) + 1).toNat = q + 1 := by omega
        have hlq : (q : Int) < (n : Int) := by omega
        have hp' : (0 : Int) < (q : Int) + 1 := by omega
        have HMo : Hid (more l (q + 1) = (bnth l (q + 1)).rate - (bnth l q).rate) := by unfold Hid more; rw [if_neg (by omega)]; rfl
        by_cases hb0 : (bnth l (q + 1)).frm < base
        · have HV : Hid ((base - (bnth l (q + 1)).frm) * ((bnth l (q + 1)).rate - (bnth l q).rate) = hb l base (q + 1) * more l (q + 1)) := by unfold Hid; rw [HH.out, HMo.out, show max 0 (base - (bnth l (q + 1)).frm) = base - (bnth l (q + 1)).frm by omega]
          have hS := HS.out
          go_wp2_with fail
          go_round
          case rel =>
            refine ⟨q + 1 + 1, by omega, by go_num, ?_⟩
            rw [HV.out, IntWalk.wrap64_in (hb l base (q + 1) * more l (q + 1)) (by omega), IntWalk.wrap64_in _ (by omega), HS.out]
          case measure => simp [intOf]; omega
        · have hbB : decide ((bnth l (q + 1)).frm < base) = false := decide_eq_false hb0
          have HV : Hid (rP l base (q + 1) = rP l base (q + 1 + 1)) := by unfold Hid; rw [← HS.out, HH.out, show max 0 (base - (bnth l (q + 1)).frm) = 0 by omega]; omega
          go_wp2_with fail
          go_round
          case rel => exact ⟨q + 1 + 1, by omega, by go_num, by rw [← HV.out]⟩
          case measure => simp [intOf]; omega
    · have hkn : k = n := by omega
      subst hkn
      have HE : Hid (rd (rP l base k) 10000 5 = taxN l base) := by unfold Hid taxN; rw [pr_same HL.out.1, hn]
      go_wp2_with fail
      refine (rounded_ref _ 10000 5 _ (by omega) (by omega) (by omega) (by omega) (by omega)).mono ?_
      rintro e w2 ⟨rfl, h'⟩
      subst w2
      go_wp2_with fail
      go_ret
      exact ⟨kret_int HE.out, HB0.out⟩
end Go.Proofs.YtjpjnmhjfpmglaaGreatDoor
namespace Go.Proofs.YtjpjnmhjfpmglaaGreatDoor
open Go.RowKit

theorem kfrom_drew {W w2 : World} (h : Below W.drew.heap.size W.drew w2) : Below W.heap.size W w2 := (Below.refl W.heap.size W).drew.trans h
/-- Is enough left of a base? -/
def okB (l : List Bk) (net x : Int) : Bool := decide (net ≤ x - taxN l x)
/-- The least that is enough, or one more than all. -/
def LeastIs (l : List Bk) (net i : Int) : Prop := 0 ≤ i ∧ i ≤ 1000000000001 ∧ (∀ x, 0 ≤ x → x < i → okB l net x = false) ∧ (i ≤ 1000000000000 → okB l net i = true)
theorem okB_up {l : List Bk} (hl : Right l) {net x y : Int} (hxy : x ≤ y) (h : okB l net x = true) : okB l net y = true := by
  unfold okB at *
  have := left_up hl hxy
  have h' := of_decide_eq_true h
  exact decide_eq_true (by omega)
theorem LeastIs.unique {l : List Bk} {net i j : Int} (h : LeastIs l net i) (h' : LeastIs l net j) : i = j := by
  obtain ⟨a1, a2, a3, a4⟩ := h
  obtain ⟨b1, b2, b3, b4⟩ := h'
  rcases (show i < j ∨ i = j ∨ j < i by omega) with e | e | e
  · have := b3 i a1 e
    rw [a4 (by omega)] at this
    cases this
  · exact e
  · have := a3 j b1 e
    rw [b4 (by omega)] at this
    cases this
end Go.Proofs.YtjpjnmhjfpmglaaGreatDoor
namespace Go.Proofs.YtjpjnmhjfpmglaaGreatDoor
open Go.RowKit

/-- What is wrong with a table and a base. -/
def baseE (s : ByteArray) (l : List Bk) (base : Int) : Int := if tblE s l ≠ 0 then tblE s l else if monB base = true then 0 else 3
theorem baseE_tbl {s : ByteArray} {l : List Bk} {base : Int} (h : tblE s l ≠ 0) : baseE s l base = tblE s l := by unfold baseE; rw [if_pos h]
theorem baseE_far {s : ByteArray} {l : List Bk} {base : Int} (h : tblE s l = 0) (h2 : monB base = false) : baseE s l base = 3 := by unfold baseE; rw [if_neg (by simpa using h), if_neg (by simp [h2])]
theorem baseE_yes {s : ByteArray} {l : List Bk} {base : Int} (h : tblE s l = 0) (h2 : monB base = true) : baseE s l base = 0 := by unfold baseE; rw [if_neg (by simpa using h), if_pos h2]
theorem baseE_ok {s : ByteArray} {l : List Bk} {base : Int} (h : baseE s l base = 0) : Right l ∧ -1000000000000 ≤ base ∧ base ≤ 1000000000000 ∧ tblE s l = 0 := by
  unfold baseE at h
  split at h
  · exact absurd h ‹_›
  · split at h
    · rename_i h1 h2
      have h2' : -1000000000000 ≤ base ∧ base ≤ 1000000000000 := of_decide_eq_true h2
      have h1' : tblE s l = 0 := by simpa using h1
      exact ⟨(tblE_ok h1').2, h2'.1, h2'.2, h1'⟩
    · cases h
set_option maxRecDepth 100000 in
set_option maxHeartbeats 1000000 in
theorem checkBase_any (s : ByteArray) (a : Option Addr) (n cap : Nat) (l : List Bk) (base : Int) (w : World) (hc : CameB w a l) (hn : l.length = n) (hm : n ≤ maxLen) :
    Calls Tryz.prog 144 #[.agg #[.string s, .slice a n cap], .int .i64 base] w fun e w' => e = .returned (.int .i64 (baseE s l base)) ∧ Below w.heap.size w w' := by
  have HC := Lib.hid hc
  have HM := Lib.hid hm
  clear hm hc
  have HB0 := Lib.hid (kbelow_box w (.cells #[.string s, .slice a n cap] 108))
  go_enter Tryz.func144, Tryz.ntmps144
  go_wp2_with fail
  refine (Check_any s a n cap l _ (HC.out.below HB0.out) hn HM.out).mono ?_
  rintro e w1 ⟨rfl, hbel⟩
  have HB1 := Lib.hid (HB0.out.trans (hbel.mono HB0.out.size))
  clear hbel
  by_cases h0 : tblE s l = 0
  · rw [h0]
    go_wp2_with fail
    refine (isMoney_any _ _).mono ?_
    rintro e w' ⟨rfl, h'⟩
    subst w'
    cases hb : monB base
    · have HE : Hid (baseE s l base = 3) := baseE_far h0 hb
      go_wp2_with fail
      go_ret
      exact ⟨kret_int (HE.out.symm), HB1.out⟩
    · have HE : Hid (baseE s l base = 0) := baseE_yes h0 hb
      go_wp2_with fail
      go_ret
      exact ⟨kret_int (HE.out.symm), HB1.out⟩
  · have HE : Hid (baseE s l base = tblE s l) := baseE_tbl h0
    have h0N : (tblE s l != 0) = true := by simp [h0]
    have h0B : decide (tblE s l = 0) = false := decide_eq_false h0
    go_wp2_with fail
    go_ret
    exact ⟨kret_int (HE.out.symm), HB1.out⟩
/-- What Tax and Rate answer. -/
def taxR (s : ByteArray) (l : List Bk) (base : Int) : Int := if baseE s l base = 0 then taxN l base else 0
def rateR (s : ByteArray) (l : List Bk) (base : Int) : Int := if baseE s l base = 0 then rateN l base else 0
theorem kret2 {a b c d : Int} (h : a = b) (k : c = d) : Ending.returned (.tuple #[.int .i64 a, .int .i64 c]) = .returned (.tuple #[.int .i64 b, .int .i64 d]) := by rw [h, k]
set_option maxRecDepth 100000 in
set_option maxHeartbeats 1000000 in
theorem Tax_any (s : ByteArray) (a : Option Addr) (n cap : Nat) (l : List Bk) (base : Int) (w : World) (hc : CameB w a l) (hn : l.length = n) (hm : n ≤ maxLen) :
    Calls Tryz.prog 122 #[.agg #[.string s, .slice a n cap], .int .i64 base] w fun e w' => e = .returned (.tuple #[.int .i64 (taxR s l base), .int .i64 (baseE s l base)]) ∧ Below w.heap.size w w' := by
  have HC := Lib.hid hc
  have HM := Lib.hid hm
  clear hm hc
  have HB0 := Lib.hid (kbelow_box w (.cells #[.string s, .slice a n cap] 108))
  have HT0 := Lib.hid (TIs.made w s a n cap 108)
  go_enter Tryz.func122, Tryz.ntmps122
  go_wp2_with fail
  refine (checkBase_any s a n cap l base _ (HC.out.below HB0.out) hn HM.out).mono ?_
  rintro e w1 ⟨rfl, hbel⟩
  have HB1 := Lib.hid (HB0.out.trans (hbel.mono HB0.out.size))
  have HT1 := Lib.hid (HT0.out.below hbel HT0.out.1)
  clear hbel
  obtain ⟨_, x0, x1⟩ := HT1.out
  by_cases h0 : baseE s l base = 0
  · have HR : Hid (taxR s l base = taxN l base) := by unfold Hid taxR; rw [if_pos h0]
    obtain ⟨hl, hb1, hb2, _⟩ := baseE_ok h0
    have HL := Lib.hid hl
    have HE := Lib.hid h0
    rw [h0]
    clear hl h0
    go_wp2_with fail
    refine (taxOf_any a n cap l base _ (HC.out.below HB1.out) hn HL.out hb1 hb2).mono ?_
    rintro e w2 ⟨rfl, hb⟩
    have HB2 := Lib.hid (HB1.out.trans (hb.mono HB1.out.size))
    clear hb
    go_wp2_with fail
    go_ret2
    exact ⟨kret2 HR.out.symm HE.out.symm, HB2.out⟩
  · have HR : Hid (taxR s l base = 0) := by unfold Hid taxR; rw [if_neg h0]
    have h0N : (baseE s l base != 0) = true := by simp [h0]
    have h0B : decide (baseE s l base = 0) = false := decide_eq_false h0
    go_wp2_with fail
    go_ret2
    exact ⟨kret2 HR.out.symm rfl, HB1.out⟩
/-- What Gross answers. -/
def GrossIs (s : ByteArray) (l : List Bk) (net g e : Int) : Prop := (tblE s l ≠ 0 ∧ g = 0 ∧ e = tblE s l) ∨ (tblE s l = 0 ∧ (((net < 0 ∨ 1000000000000 < net) ∧ g = 0 ∧ e = 3) ∨ ((0 ≤ net ∧ net ≤ 1000000000000) ∧ ∃ i, LeastIs l net i ∧ ((1000000000000 < i ∧ g = 0 ∧ e = 5) ∨ (i ≤ 1000000000000 ∧ g = i ∧ e = 0)))))
end Go.Proofs.YtjpjnmhjfpmglaaGreatDoor
namespace Go.Proofs.YtjpjnmhjfpmglaaGreatDoor
open Go.RowKit

theorem vret_int {k : IntKind} {a b : Int} (h : a = b) : Ending.returned (.int k a) = .returned (.int k b) := by rw [h]
theorem vret_bool {a b : Bool} (h : a = b) : Ending.returned (.bool a) = .returned (.bool b) := by rw [h]
/-- What is given up with. -/
def gaveU (e : Int) : List PanicEntry := [{ v := .iface 110 (.int .i64 e), recovered := false }]
/-- A number, or it is given up. -/
def vEnd : Option Int → Ending
  | some n => .returned (.int .i64 n)
  | none => .panicked (gaveU 3)
/-- Money, or none. -/
def monO (n : Int) : Option Int := if monB n = true then some n else none
set_option maxHeartbeats 1000000 in
theorem rMoney_any (n : Int) (w : World) : Calls Tryz.prog 86 #[.int .i64 n] w fun e w' => e = vEnd (monO n) ∧ w' = w := by
  cases hm : monB n
  · have H : Hid (monO n = none) := Lib.hid (by unfold monO; rw [hm]; rfl)
    rw [H.out]
    go_enter Tryz.func86, Tryz.ntmps86
    go_wp2_with (first | (go_at_call 114; refine (isMoney_any _ _).mono ?_; rintro e w' ⟨rfl, h'⟩; subst w'; rw [hm]))
    exact ⟨rfl, rfl, rfl⟩
  · have H : Hid (monO n = some n) := Lib.hid (by unfold monO; rw [hm]; rfl)
    rw [H.out]
    go_enter Tryz.func86, Tryz.ntmps86
    go_wp2_with (first | (go_at_call 114; refine (isMoney_any _ _).mono ?_; rintro e w' ⟨rfl, h'⟩; subst w'; rw [hm]))
    go_ret
    exact ⟨rfl, rfl⟩
set_option maxHeartbeats 1000000 in
theorem sure_ok (n : Int) (w : World) : Calls Tryz.prog 120 #[.int .i64 n, .int .i64 0] w fun e w' => e = vEnd (monO n) ∧ w' = w := by
  have HK := Lib.hid (fun w => rMoney_any n w)
  cases ho : monO n with
  | none =>
    rw [ho] at HK
    simp only [vEnd] at HK
    go_enter Tryz.func120, Tryz.ntmps120
    go_wp2_with fail
    refine (HK.out _).mono ?_
    rintro e w1 ⟨rfl, h'⟩
    subst w1
    go_wp2_with fail
    exact ⟨rfl, rfl, rfl⟩
  | some m =>
    rw [ho] at HK
    simp only [vEnd] at HK
    go_enter Tryz.func120, Tryz.ntmps120
    go_wp2_with fail
    refine (HK.out _).mono ?_
    rintro e w1 ⟨rfl, h'⟩
    subst w1
    go_wp2_with fail
    go_ret
    exact ⟨rfl, rfl⟩
theorem vbelow_dN {B : Nat} {a w : World} (h : Below B a w) (k : Nat) : Below B a (w.drewN k) := h.trans ⟨rfl, rfl, rfl, Nat.le_refl _, fun _ _ => rfl⟩
set_option maxHeartbeats 1000000 in
theorem rRate_any (n r : Int) (w : World) (hn : monB n = true) (hr : ratB r = true) : Calls Tryz.prog 88 #[.int .i64 n, .int .i64 r] w fun e w' => e = vEnd (monO (rd (n * r) 10000 5)) ∧ Below w.heap.size w w' := by
  have HP : Hid (∀ w, Calls Tryz.prog 121 #[.int .i64 n, .int .i64 r, .int .i64 5] w fun e w' => e = .returned (.tuple #[.int .i64 (rd (n * r) 10000 5), .int .i64 0]) ∧ ∃ k, w' = w.drewN k) := fun w => by
    have h := part_any n r 5 w
    have e1 : paN n r 5 = rd (n * r) 10000 5 := by unfold paN; rw [if_pos ⟨rfl, hn, hr⟩]
    have e2 : paE n r 5 = 0 := by unfold paE; rw [if_pos (show wayB 5 = true from rfl), if_pos ⟨hn, hr⟩]
    rw [e1, e2] at h
    exact h
  clear hn hr
  generalize rd (n * r) 10000 5 = v at *
  have HS := Lib.hid (fun w => sure_ok v w)
  cases ho : monO v with
  | none =>
    rw [ho] at HS
    simp only [vEnd] at HS
    go_enter Tryz.func88, Tryz.ntmps88
    go_wp2_with fail
    refine (HP.out _).mono ?_
    rintro e w1 ⟨rfl, k, rfl⟩
    go_wp2_with fail
    refine (HS.out _).mono ?_
    rintro e w2 ⟨rfl, h'⟩
    subst w2
    go_wp2_with fail
    exact ⟨rfl, rfl, vbelow_dN (Below.refl _ _) k⟩
  | some m =>
    rw [ho] at HS
    simp only [vEnd] at HS
    go_enter Tryz.func88, Tryz.ntmps88
    go_wp2_with fail
    refine (HP.out _).mono ?_
    rintro e w1 ⟨rfl, k, rfl⟩
    go_wp2_with fail
    refine (HS.out _).mono ?_
    rintro e w2 ⟨rfl, h'⟩
    subst w2
    go_wp2_with fail
    go_ret
    exact ⟨rfl, vbelow_dN (Below.refl _ _) k⟩
set_option maxHeartbeats 1000000 in
theorem rOver_any (n d : Int) (w : World) (hn : monB n = true) (h1 : 1 ≤ d) (h2 : d ≤ 1000000) : Calls Tryz.prog 90 #[.int .i64 n, .int .i64 d] w fun e w' => e = vEnd (monO (rd n d 5)) ∧ Below w.heap.size w w' := by
  have HP : Hid (∀ w, Calls Tryz.prog 123 #[.int .i64 n, .int .i64 d, .int .i64 5] w fun e w' => e = .returned (.tuple #[.int .i64 (rd n d 5), .int .i64 0]) ∧ ∃ k, w' = w.drewN k) := fun w => by
    have h := round_any n d 5 w
    have hm := of_decide_eq_true hn
    obtain ⟨e1, e2⟩ := rv_ok (n := n) (d := d) (way := 5) rfl (decide_eq_true (by omega))
    rw [e1, e2] at h
    exact h
  clear hn h1 h2
  generalize rd n d 5 = v at *
  have HS := Lib.hid (fun w => sure_ok v w)
  cases ho : monO v with
  | none =>
    rw [ho] at HS
    simp only [vEnd] at HS
    go_enter Tryz.func90, Tryz.ntmps90
    go_wp2_with fail
    refine (HP.out _).mono ?_
    rintro e w1 ⟨rfl, k, rfl⟩
    go_wp2_with fail
    refine (HS.out _).mono ?_
    rintro e w2 ⟨rfl, h'⟩
    subst w2
    go_wp2_with fail
    exact ⟨rfl, rfl, vbelow_dN (Below.refl _ _) k⟩
  | some m =>
    rw [ho] at HS
    simp only [vEnd] at HS
    go_enter Tryz.func90, Tryz.ntmps90
    go_wp2_with fail
    refine (HP.out _).mono ?_
    rintro e w1 ⟨rfl, k, rfl⟩
    go_wp2_with fail
    refine (HS.out _).mono ?_
    rintro e w2 ⟨rfl, h'⟩
    subst w2
    go_wp2_with fail
    go_ret
    exact ⟨rfl, vbelow_dN (Below.refl _ _) k⟩
/-- Does a test hold? -/
def holdB (t a b : Int) : Bool := if t = 1 then decide (a < b) else if t = 2 then decide (a ≤ b) else a == b
set_option maxHeartbeats 1000000 in
theorem rHolds_any (t a b : Int) (w : World) : Calls Tryz.prog 87 #[.int .i64 t, .int .i64 a, .int .i64 b] w fun e w' => e = .returned (.bool (holdB t a b)) ∧ w' = w := by
  by_cases h1 : t = 1
  · have H : Hid (holdB t a b = decide (a < b)) := Lib.hid (by unfold holdB; rw [if_pos h1])
    have h1' : (t == 1) = true := by simp [h1]
    clear h1
    go_enter Tryz.func87, Tryz.ntmps87
    go_wp2_with fail
    go_ret
    exact ⟨vret_bool H.out.symm, rfl⟩
  · have h1' : (t == 1) = false := by simp [h1]
    by_cases h2 : t = 2
    · have H : Hid (holdB t a b = decide (a ≤ b)) := Lib.hid (by unfold holdB; rw [if_neg h1, if_pos h2])
      have h2' : (t == 2) = true := by simp [h2]
      clear h1 h2
      go_enter Tryz.func87, Tryz.ntmps87
      go_wp2_with fail
      go_ret
      exact ⟨vret_bool H.out.symm, rfl⟩
    · have H : Hid (holdB t a b = (a == b)) := Lib.hid (by unfold holdB; rw [if_neg h1, if_neg h2])
      have h2' : (t == 2) = false := by simp [h2]
      clear h1 h2
      go_enter Tryz.func87, Tryz.ntmps87
      go_wp2_with fail
      go_ret
      exact ⟨vret_bool (by rw [H.out]), rfl⟩
/-- What two come to. -/
def twoO (k a b : Int) : Option Int := if k = 7 then monO (a + b) else if k = 8 then monO (a - b) else if k = 11 then some (min a b) else some (max a b)
set_option maxHeartbeats 2000000 in
theorem ofTwo_any (k a b : Int) (w : World) (ha : monB a = true) (hb : monB b = true) : Calls Tryz.prog 57 #[.int .i64 k, .int .i64 a, .int .i64 b] w fun e w' => e = vEnd (twoO k a b) ∧ w' = w := by
  have ha' := of_decide_eq_true ha
  have hb' := of_decide_eq_true hb
  have hw1 : IntKind.i64.wrap (a + b) = a + b := IntWalk.i64_in _ (by omega)
  have hw2 : IntKind.i64.wrap (a - b) = a - b := IntWalk.i64_in _ (by omega)
  clear ha hb
  by_cases h7 : k = 7
  · have h7' : (k == 7) = true := by simp [h7]
    have HK := Lib.hid (fun w => rMoney_any (a + b) w)
    cases ho : monO (a + b) with
    | none =>
      rw [ho] at HK
      simp only [vEnd] at HK
      have H : Hid (twoO k a b = none) := Lib.hid (by unfold twoO; rw [if_pos h7]; exact ho)
      rw [H.out]
      go_enter Tryz.func57, Tryz.ntmps57
      go_wp2_with fail
      refine (HK.out _).mono ?_
      rintro e w1 ⟨rfl, h'⟩
      subst w1
      go_wp2_with fail
      exact ⟨rfl, rfl, rfl⟩
    | some m =>
      rw [ho] at HK
      simp only [vEnd] at HK
      have H : Hid (twoO k a b = some m) := Lib.hid (by unfold twoO; rw [if_pos h7]; exact ho)
      rw [H.out]
      go_enter Tryz.func57, Tryz.ntmps57
      go_wp2_with fail
      refine (HK.out _).mono ?_
      rintro e w1 ⟨rfl, h'⟩
      subst w1
      go_wp2_with fail
      go_ret
      exact ⟨rfl, rfl⟩
  · have h7' : (k == 7) = false := by simp [h7]
    by_cases h8 : k = 8
    · have h8' : (k == 8) = true := by simp [h8]
      have HK := Lib.hid (fun w => rMoney_any (a - b) w)
      cases ho : monO (a - b) with
      | none =>
        rw [ho] at HK
        simp only [vEnd] at HK
        have H : Hid (twoO k a b = none) := Lib.hid (by unfold twoO; rw [if_neg h7, if_pos h8]; exact ho)
        rw [H.out]
        go_enter Tryz.func57, Tryz.ntmps57
        go_wp2_with fail
        refine (HK.out _).mono ?_
        rintro e w1 ⟨rfl, h'⟩
        subst w1
        go_wp2_with fail
        exact ⟨rfl, rfl, rfl⟩
      | some m =>
        rw [ho] at HK
        simp only [vEnd] at HK
        have H : Hid (twoO k a b = some m) := Lib.hid (by unfold twoO; rw [if_neg h7, if_pos h8]; exact ho)
        rw [H.out]
        go_enter Tryz.func57, Tryz.ntmps57
        go_wp2_with fail
        refine (HK.out _).mono ?_
        rintro e w1 ⟨rfl, h'⟩
        subst w1
        go_wp2_with fail
        go_ret
        exact ⟨rfl, rfl⟩
    · have h8' : (k == 8) = false := by simp [h8]
      by_cases h11 : k = 11
      · have h11' : (k == 11) = true := by simp [h11]
        have H : Hid (twoO k a b = some (min a b)) := Lib.hid (by unfold twoO; rw [if_neg h7, if_neg h8, if_pos h11])
        rw [H.out]
        clear h7 h8 h11
        by_cases hlt : b < a
        · have hmin : min a b = b := by omega
          rw [hmin]
          go_enter Tryz.func57, Tryz.ntmps57
          go_wp2_with fail
          go_ret
          exact ⟨rfl, rfl⟩
        · have hmin : min a b = a := by omega
          rw [hmin]
          go_enter Tryz.func57, Tryz.ntmps57
          go_wp2_with fail
          go_ret
          exact ⟨rfl, rfl⟩
      · have h11' : (k == 11) = false := by simp [h11]
        have H : Hid (twoO k a b = some (max a b)) := Lib.hid (by unfold twoO; rw [if_neg h7, if_neg h8, if_neg h11])
        rw [H.out]
        clear h7 h8 h11
        by_cases hlt : a < b
        · have hmax : max a b = b := by omega
          rw [hmax]
          go_enter Tryz.func57, Tryz.ntmps57
          go_wp2_with fail
          go_ret
          exact ⟨rfl, rfl⟩
        · have hmax : max a b = a := by omega
          rw [hmax]
          go_enter Tryz.func57, Tryz.ntmps57
          go_wp2_with fail
          go_ret
          exact ⟨rfl, rfl⟩
end Go.Proofs.YtjpjnmhjfpmglaaGreatDoor
namespace Go.Proofs.YtjpjnmhjfpmglaaGreatDoor
open Go.RowKit

set_option maxRecDepth 100000 in
set_option maxHeartbeats 1000000 in
theorem rTax_any (s : ByteArray) (a : Option Addr) (n cap : Nat) (l : List Bk) (base : Int) (w : World) (hc : CameB w a l) (hn : l.length = n) (hm : n ≤ maxLen) (ht : tblE s l = 0) (hb : monB base = true) :
    Calls Tryz.prog 89 #[.agg #[.string s, .slice a n cap], .int .i64 base] w fun e w' => e = .returned (.int .i64 (taxN l base)) ∧ Below w.heap.size w w' := by
  have HB0 := Lib.hid (kbelow_box w (.cells #[.string s, .slice a n cap] 108))
  have h0 := baseE_yes (s := s) (l := l) (base := base) ht hb
  have hR : taxR s l base = taxN l base := by unfold taxR; rw [if_pos h0]
  have HT := Lib.hid (fun w (hc : CameB w a l) => Tax_any s a n cap l base w hc hn hm)
  rw [h0, hR] at HT
  have hmo : monO (taxN l base) = some (taxN l base) := by
    have hl := tax_le (tblE_ok ht).2 base
    have hm' := of_decide_eq_true hb
    unfold monO
    rw [if_pos (show monB (taxN l base) = true from decide_eq_true (by omega))]
  have HS := Lib.hid (fun w => sure_ok (taxN l base) w)
  rw [hmo] at HS
  simp only [vEnd] at HS
  have HC := Lib.hid hc
  clear hc h0 hR hmo hm hn ht hb
  generalize taxN l base = v at *
  go_enter Tryz.func89, Tryz.ntmps89
  go_wp2_with fail
  refine (HT.out _ (HC.out.below HB0.out)).mono ?_
  rintro e w1 ⟨rfl, hb1⟩
  have HB1 := Lib.hid (HB0.out.trans (hb1.mono HB0.out.size))
  clear hb1
  go_wp2_with fail
  refine (HS.out _).mono ?_
  rintro e w2 ⟨rfl, h'⟩
  subst w2
  go_wp2_with fail
  go_ret
  exact ⟨rfl, HB1.out⟩
end Go.Proofs.YtjpjnmhjfpmglaaGreatDoor
namespace Go.Proofs.YtjpjnmhjfpmglaaGreatDoor
open Go.RowKit Go.Maps Go.WideMaps

/-- Numbers in memory. -/
def VAt (w : World) (a : Option Addr) (vs : List Int) : Prop := vs.length = 0 ∨ ∃ b o, a = some ⟨b, o, none⟩ ∧ b < w.heap.size ∧ ∀ j, j < vs.length → w.cell? ⟨b, o + j, none⟩ = some (.int .i64 (vs.getD j 0))
theorem VAt.below {w w' : World} {a : Option Addr} {vs : List Int} (h : VAt w a vs) (hb : Below w.heap.size w w') : VAt w' a vs := by
  rcases h with h | ⟨b, o, rfl, hB, h⟩
  · exact .inl h
  · exact .inr ⟨b, o, rfl, Nat.lt_of_lt_of_le hB hb.size, fun j hj => (hb.cell (p := ⟨b, o + j, none⟩) hB).trans (h j hj)⟩
/-- The eight cells of a scope in its box. -/
def ScBox (w : World) (sb : Nat) (a1 a2 a3 av : Option Addr) (n1 n2 n3 nv c1 c2 c3 cv b1 b2 b3 b4 : Nat) : Prop := sb < w.heap.size ∧ w.cell? ⟨sb, 0, none⟩ = some (.slice a1 n1 c1) ∧ w.cell? ⟨sb, 1, none⟩ = some (.slice a2 n2 c2) ∧ w.cell? ⟨sb, 2, none⟩ = some (.slice a3 n3 c3) ∧ w.cell? ⟨sb, 3, none⟩ = some (.map (some b1)) ∧ w.cell? ⟨sb, 4, none⟩ = some (.map (some b2)) ∧ w.cell? ⟨sb, 5, none⟩ = some (.map (some b3)) ∧ w.cell? ⟨sb, 6, none⟩ = some (.map (some b4)) ∧ w.cell? ⟨sb, 7, none⟩ = some (.slice av nv cv)
theorem ScBox.below {w w' : World} {sb : Nat} {a1 a2 a3 av : Option Addr} {n1 n2 n3 nv c1 c2 c3 cv b1 b2 b3 b4 : Nat} (h : ScBox w sb a1 a2 a3 av n1 n2 n3 nv c1 c2 c3 cv b1 b2 b3 b4) (hb : Below w.heap.size w w') : ScBox w' sb a1 a2 a3 av n1 n2 n3 nv c1 c2 c3 cv b1 b2 b3 b4 := by
  obtain ⟨hB, h0, h1, h2, h3, h4, h5, h6, h7⟩ := h
  exact ⟨Nat.lt_of_lt_of_le hB hb.size, (hb.cell (p := ⟨sb, 0, none⟩) hB).trans h0, (hb.cell (p := ⟨sb, 1, none⟩) hB).trans h1, (hb.cell (p := ⟨sb, 2, none⟩) hB).trans h2, (hb.cell (p := ⟨sb, 3, none⟩) hB).trans h3, (hb.cell (p := ⟨sb, 4, none⟩) hB).trans h4, (hb.cell (p := ⟨sb, 5, none⟩) hB).trans h5, (hb.cell (p := ⟨sb, 6, none⟩) hB).trans h6, (hb.cell (p := ⟨sb, 7, none⟩) hB).trans h7⟩
theorem MeantIs.below {w w' : World} {b1 b2 b3 b4 : Nat} {l : List Ln} {k : Kn} (h : MeantIs w b1 b2 b3 b4 l k) (hb : Below w.heap.size w w') : MeantIs w' b1 b2 b3 b4 l k := ⟨h.1.below hb, h.2.1.below hb, h.2.2.1.below hb, h.2.2.2.below hb⟩
/-- The scope of lines, of what is known, and of what the lines ahead came to. -/
def VSc (w : World) (sb : Nat) (l : List Ln) (k : Kn) (vs : List Int) : Prop := ∃ (a1 a2 a3 av : Option Addr) (c1 c2 c3 cv b1 b2 b3 b4 : Nat), ScBox w sb a1 a2 a3 av k.ins.length k.tbs.length k.yrs.length vs.length c1 c2 c3 cv b1 b2 b3 b4 ∧ CameA w a1 k.ins ∧ CameT w a2 k.tbs ∧ CameA w a3 k.yrs ∧ VAt w av vs ∧ MeantIs w b1 b2 b3 b4 l k
theorem VSc.below {w w' : World} {sb : Nat} {l : List Ln} {k : Kn} {vs : List Int} (h : VSc w sb l k vs) (hb : Below w.heap.size w w') : VSc w' sb l k vs := by
  obtain ⟨a1, a2, a3, av, c1, c2, c3, cv, b1, b2, b3, b4, hx, h1, h2, h3, h4, h5⟩ := h
  exact ⟨a1, a2, a3, av, c1, c2, c3, cv, b1, b2, b3, b4, hx.below hb, h1.below hb, h2.below hb, h3.below hb, h4.below hb, h5.below hb⟩
theorem vlast_lt {f : Nat → ByteArray} : ∀ {n : Nat} {s : ByteArray} {p : Nat}, lastN f n s = some p → p < n
  | 0, _, _, h => by cases h
  | n + 1, s, p, h => by
    simp only [lastN] at h
    split at h
    · injection h with h; omega
    · have := vlast_lt h; omega
/-- What stands under a name: among lines, inputs, tables, years. -/
def lnsG (l : List Ln) : ByteArray → Option Nat := lastN (fun j => (lnth l j).name) l.length
def insG (k : Kn) : ByteArray → Option Nat := lastN (fun j => (anth k.ins j).name) k.ins.length
def tbsG (k : Kn) : ByteArray → Option Nat := lastN (fun j => (tnth k.tbs j).name) k.tbs.length
def yrsG (k : Kn) : ByteArray → Option Nat := lastN (fun j => (anth k.yrs j).name) k.yrs.length
def namV (l : List Ln) (k : Kn) (vs : List Int) (s : ByteArray) : Int := match lnsG l s with | some p => vs.getD p 0 | none => (anth k.ins ((insG k s).getD 0)).mon
def yearV (k : Kn) (s : ByteArray) : Int := match yrsG k s with | some p => (anth k.yrs p).mon | none => 0
theorem lit_int {a b : Int} (h : (DataW.lit (.int .i64 a) : DataW Unit) = .lit (.int .i64 b)) : a = b := by injection h with h; injection h
set_option maxRecDepth 100000 in
set_option maxHeartbeats 1000000 in
theorem inYear_any (s : ByteArray) (sb : Nat) (l : List Ln) (k : Kn) (vs : List Int) (w : World) (hs : s.size ≤ maxLen) (hsc : VSc w sb l k vs) (h30 : k.yrs.length ≤ 30) :
    Calls Tryz.prog 56 #[.pointer (some ⟨sb, 0, none⟩), .string s] w fun e w' => e = .returned (.int .i64 (yearV k s)) ∧ Below w.heap.size w w' := by
  obtain ⟨a1, a2, a3, av, c1, c2, c3, cv, b1, b2, b3, b4, ⟨hB, x0, x1, x2, x3, x4, x5, x6, x7⟩, _, _, hy, _, _, _, _, D, hown, hD⟩ := hsc
  have hkey := key_of hs
  have hD1 := (hD s).1
  have HD2 := Lib.hid (hD s).2
  clear hD
  cases hg : yrsG k s with
  | none =>
    have HR : Hid (yearV k s = 0) := Lib.hid (by unfold yearV; rw [hg])
    have hhas : Maps.has D (.string s.data.toList) = false := by rw [hD1]; show (yrsG k s).isSome = false; rw [hg]; rfl
    clear hD1
    go_enter Tryz.func56, Tryz.ntmps56
    go_wp2_with (first
      | (at_lookup; refine wpList_lookup_own_ok_int _ rfl _ _ 62 rfl 9 3 .i64 strLaw Tryz.underlying62 Tryz.underlying3 (zeroInt _) _ _ _ rfl hown _ _ rfl hkey ?_; intro c0 hat hwc; rw [hhas]))
    go_ret
    exact ⟨vret_int HR.out.symm, Below.refl _ _⟩
  | some p =>
    have hp : p < k.yrs.length := vlast_lt hg
    have HR : Hid (yearV k s = (anth k.yrs p).mon) := Lib.hid (by unfold yearV; rw [hg])
    have hhas : Maps.has D (.string s.data.toList) = true := by rw [hD1]; show (yrsG k s).isSome = true; rw [hg]; rfl
    have HC : Hid (D.atKey (.string s.data.toList) (.lit (.int .i64 0)) = .lit (.int .i64 (p : Int))) := by
      have h := HD2.out
      rw [show lastN (fun j => (anth k.yrs j).name) k.yrs.length s = some p from hg] at h
      exact h
    obtain ⟨b, o, rfl, hcell⟩ := hy.open rfl (by omega)
    obtain ⟨z0, z1⟩ := hcell w (Below.refl _ _) p hp
    clear hcell hD1
    generalize k.yrs.length = n3 at *
    have hp' : (p : Int) < (n3 : Int) := by omega
    go_enter Tryz.func56, Tryz.ntmps56
    go_wp2_with (first
      | (at_lookup; refine wpList_lookup_own_ok_int _ rfl _ _ 62 rfl 9 3 .i64 strLaw Tryz.underlying62 Tryz.underlying3 (zeroInt _) _ _ _ rfl hown _ _ rfl hkey ?_; intro c0 hat hwc; rw [hhas]; obtain rfl := lit_int (hat.symm.trans HC.out)))
    go_ret
    exact ⟨vret_int HR.out.symm, Below.refl _ _⟩
set_option maxRecDepth 100000 in
set_option maxHeartbeats 2000000 in
theorem named_any (s : ByteArray) (sb : Nat) (l : List Ln) (k : Kn) (vs : List Int) (w : World) (hs : s.size ≤ maxLen) (hsc : VSc w sb l k vs) (h30 : k.ins.length ≤ 30) (hv : ∀ p, lnsG l s = some p → p < vs.length) (hi : lnsG l s = none → (insG k s).isSome = true) :
    Calls Tryz.prog 55 #[.pointer (some ⟨sb, 0, none⟩), .string s] w fun e w' => e = .returned (.int .i64 (namV l k vs s)) ∧ Below w.heap.size w w' := by
  obtain ⟨a1, a2, a3, av, c1, c2, c3, cv, b1, b2, b3, b4, ⟨hB, x0, x1, x2, x3, x4, x5, x6, x7⟩, hin, _, _, hva, ⟨D, hown, hD⟩, hm2, _⟩ := hsc
  obtain ⟨E, hownE, hE⟩ := hm2.below (show Below w.heap.size w w.drew from kbelow_dN (Below.refl _ w) 1)
  have hkey := key_of hs
  have hD1 := (hD s).1
  have HD2 := Lib.hid (hD s).2
  have HE2 := Lib.hid (hE s).2
  clear hD hE
  cases hg : lnsG l s with
  | none =>
    obtain ⟨q, hq⟩ := Option.isSome_iff_exists.1 (hi hg)
    have hqn : q < k.ins.length := vlast_lt hq
    have HR : Hid (namV l k vs s = (anth k.ins q).mon) := Lib.hid (by unfold namV; rw [hg, hq]; rfl)
    have hhas : Maps.has D (.string s.data.toList) = false := by rw [hD1]; show (lnsG l s).isSome = false; rw [hg]; rfl
    have hC : E.atKey (.string s.data.toList) (.lit (.int .i64 0)) = .lit (.int .i64 (q : Int)) := by
      have h := HE2.out
      rw [show lastN (fun j => (anth k.ins j).name) k.ins.length s = some q from hq] at h
      exact h
    obtain ⟨c, hrun, hat, _⟩ := hownE.lookup_int strLaw Tryz.underlying62 Tryz.underlying3 (zeroInt _) hkey
    obtain rfl := lit_int (hat.symm.trans hC)
    obtain ⟨b, o, rfl, hcell⟩ := hin.open rfl (by omega)
    obtain ⟨z0, z1⟩ := hcell w (Below.refl _ _) q hqn
    clear hcell hD1 hat hC hv hi hva HD2 HE2
    generalize k.ins.length = n1 at *
    have hp' : (q : Int) < (n1 : Int) := by omega
    go_enter Tryz.func55, Tryz.ntmps55
    go_wp2_with (first
      | (at_lookup; refine wpList_lookup_own_ok_int _ rfl _ _ 62 rfl 9 3 .i64 strLaw Tryz.underlying62 Tryz.underlying3 (zeroInt _) _ _ _ rfl hown _ _ rfl hkey ?_; intro c0 hat hwc; rw [hhas]))
    go_region
    go_wp2_with fail
    go_ret
    exact ⟨vret_int HR.out.symm, vbelow_dN (Below.refl _ _) 1⟩
  | some p =>
    have hp : p < vs.length := hv p hg
    have HR : Hid (namV l k vs s = vs.getD p 0) := Lib.hid (by unfold namV; rw [hg])
    have hhas : Maps.has D (.string s.data.toList) = true := by rw [hD1]; show (lnsG l s).isSome = true; rw [hg]; rfl
    have HC : Hid (D.atKey (.string s.data.toList) (.lit (.int .i64 0)) = .lit (.int .i64 (p : Int))) := by
      have h := HD2.out
      rw [show lastN (fun j => (lnth l j).name) l.length s = some p from hg] at h
      exact h
    obtain h | ⟨b, o, rfl, _, hcell⟩ := hva
    · omega
    have z1 := hcell p hp
    clear hcell hD1 hv hi HD2 HE2
    generalize vs.length = nv at *
    have hp' : (p : Int) < (nv : Int) := by omega
    go_enter Tryz.func55, Tryz.ntmps55
    go_wp2_with (first
      | (at_lookup; refine wpList_lookup_own_ok_int _ rfl _ _ 62 rfl 9 3 .i64 strLaw Tryz.underlying62 Tryz.underlying3 (zeroInt _) _ _ _ rfl hown _ _ rfl hkey ?_; intro c0 hat hwc; rw [hhas]; obtain rfl := lit_int (hat.symm.trans HC.out)))
    go_ret
    exact ⟨vret_int HR.out.symm, Below.refl _ _⟩
end Go.Proofs.YtjpjnmhjfpmglaaGreatDoor
namespace Go.Proofs.YtjpjnmhjfpmglaaGreatDoor
open Go.RowKit Go.Maps Go.WideMaps

/-- What one comes to. -/
def oneO (kn : Kn) (k n : Int) (s : ByteArray) (v : Int) : Option Int := if k = 4 then monO (rd (v * n) 10000 5) else if k = 5 then some (taxN (tnth kn.tbs ((tbsG kn s).getD 0)).bks v) else if k = 9 then monO (v * n) else if k = 10 then monO (rd v n 5) else some (-v)
set_option maxRecDepth 100000 in
set_option maxHeartbeats 2000000 in
theorem ofOne_4 (n : Int) (s : ByteArray) (a : Option Addr) (m c : Nat) (v : Int) (sb : Nat) (kn : Kn) (w : World) (hv : monB v = true) (hn : ratB n = true) :
    Calls Tryz.prog 59 #[.pointer (some ⟨sb, 0, none⟩), .agg #[.int .i64 4, .int .i64 n, .string s, .slice a m c], .int .i64 v] w fun e w' => e = vEnd (oneO kn 4 n s v) ∧ Below w.heap.size w w'
    := by
  have HB0 := Lib.hid (kbelow_box w (.cells #[.int .i64 4, .int .i64 n, .string s, .slice a m c] 42))
  have HK := Lib.hid (fun w => rRate_any v n w hv hn)
  clear hv hn
  cases ho : monO (rd (v * n) 10000 5) with
  | none =>
    rw [ho] at HK
    simp only [vEnd] at HK
    have H : Hid (oneO kn 4 n s v = none) := Lib.hid ho
    rw [H.out]
    go_enter Tryz.func59, Tryz.ntmps59
    go_wp2_with fail
    refine (HK.out _).mono ?_
    rintro e w1 ⟨rfl, h'⟩
    have HB1 := Lib.hid (HB0.out.trans (h'.mono HB0.out.size))
    clear h'
    go_wp2_with fail
    exact ⟨rfl, rfl, HB1.out⟩
  | some m' =>
    rw [ho] at HK
    simp only [vEnd] at HK
    have H : Hid (oneO kn 4 n s v = some m') := Lib.hid ho
    rw [H.out]
    go_enter Tryz.func59, Tryz.ntmps59
    go_wp2_with fail
    refine (HK.out _).mono ?_
    rintro e w1 ⟨rfl, h'⟩
    have HB1 := Lib.hid (HB0.out.trans (h'.mono HB0.out.size))
    clear h'
    go_wp2_with fail
    go_ret
    exact ⟨rfl, HB1.out⟩
set_option maxRecDepth 100000 in
set_option maxHeartbeats 2000000 in
theorem ofOne_10 (n : Int) (s : ByteArray) (a : Option Addr) (m c : Nat) (v : Int) (sb : Nat) (kn : Kn) (w : World) (hv : monB v = true) (h1 : 1 ≤ n) (h2 : n ≤ 1000000) :
    Calls Tryz.prog 59 #[.pointer (some ⟨sb, 0, none⟩), .agg #[.int .i64 10, .int .i64 n, .string s, .slice a m c], .int .i64 v] w fun e w' => e = vEnd (oneO kn 10 n s v) ∧ Below w.heap.size w w'
    := by
  have HB0 := Lib.hid (kbelow_box w (.cells #[.int .i64 10, .int .i64 n, .string s, .slice a m c] 42))
  have HK := Lib.hid (fun w => rOver_any v n w hv h1 h2)
  clear hv h1 h2
  cases ho : monO (rd v n 5) with
  | none =>
    rw [ho] at HK
    simp only [vEnd] at HK
    have H : Hid (oneO kn 10 n s v = none) := Lib.hid ho
    rw [H.out]
    go_enter Tryz.func59, Tryz.ntmps59
    go_wp2_with fail
    refine (HK.out _).mono ?_
    rintro e w1 ⟨rfl, h'⟩
    have HB1 := Lib.hid (HB0.out.trans (h'.mono HB0.out.size))
    clear h'
    go_wp2_with fail
    exact ⟨rfl, rfl, HB1.out⟩
  | some m' =>
    rw [ho] at HK
    simp only [vEnd] at HK
    have H : Hid (oneO kn 10 n s v = some m') := Lib.hid ho
    rw [H.out]
    go_enter Tryz.func59, Tryz.ntmps59
    go_wp2_with fail
    refine (HK.out _).mono ?_
    rintro e w1 ⟨rfl, h'⟩
    have HB1 := Lib.hid (HB0.out.trans (h'.mono HB0.out.size))
    clear h'
    go_wp2_with fail
    go_ret
    exact ⟨rfl, HB1.out⟩
set_option maxRecDepth 100000 in
set_option maxHeartbeats 2000000 in
theorem ofOne_9 (n : Int) (s : ByteArray) (a : Option Addr) (m c : Nat) (v : Int) (sb : Nat) (kn : Kn) (w : World) (hv : monB v = true) (h1 : 1 ≤ n) (h2 : n ≤ 1000000) :
    Calls Tryz.prog 59 #[.pointer (some ⟨sb, 0, none⟩), .agg #[.int .i64 9, .int .i64 n, .string s, .slice a m c], .int .i64 v] w fun e w' => e = vEnd (oneO kn 9 n s v) ∧ Below w.heap.size w w'
    := by
  have HB0 := Lib.hid (kbelow_box w (.cells #[.int .i64 9, .int .i64 n, .string s, .slice a m c] 42))
  have HK := Lib.hid (fun w => rMoney_any (v * n) w)
  have hw1 : IntKind.i64.wrap (v * n) = v * n := IntWalk.i64_in _ (by
    have hm := of_decide_eq_true hv
    have u1 : v * n ≤ 1000000000000 * n := Int.mul_le_mul_of_nonneg_right hm.2 (by omega)
    have u2 : -1000000000000 * n ≤ v * n := Int.mul_le_mul_of_nonneg_right hm.1 (by omega)
    omega)
  clear hv h1 h2
  cases ho : monO (v * n) with
  | none =>
    rw [ho] at HK
    simp only [vEnd] at HK
    have H : Hid (oneO kn 9 n s v = none) := Lib.hid ho
    rw [H.out]
    go_enter Tryz.func59, Tryz.ntmps59
    go_wp2_with fail
    refine (HK.out _).mono ?_
    rintro e w1 ⟨rfl, h'⟩
    have HB1 := Lib.hid ((show Below w.heap.size w w1 by subst w1; exact HB0.out))
    clear h'
    go_wp2_with fail
    exact ⟨rfl, rfl, HB1.out⟩
  | some m' =>
    rw [ho] at HK
    simp only [vEnd] at HK
    have H : Hid (oneO kn 9 n s v = some m') := Lib.hid ho
    rw [H.out]
    go_enter Tryz.func59, Tryz.ntmps59
    go_wp2_with fail
    refine (HK.out _).mono ?_
    rintro e w1 ⟨rfl, h'⟩
    have HB1 := Lib.hid ((show Below w.heap.size w w1 by subst w1; exact HB0.out))
    clear h'
    go_wp2_with fail
    go_ret
    exact ⟨rfl, HB1.out⟩
set_option maxRecDepth 100000 in
set_option maxHeartbeats 2000000 in
theorem ofOne_6 (n : Int) (s : ByteArray) (a : Option Addr) (m c : Nat) (v : Int) (sb : Nat) (kn : Kn) (w : World) (hv : monB v = true) :
    Calls Tryz.prog 59 #[.pointer (some ⟨sb, 0, none⟩), .agg #[.int .i64 6, .int .i64 n, .string s, .slice a m c], .int .i64 v] w fun e w' => e = vEnd (oneO kn 6 n s v) ∧ Below w.heap.size w w'
    := by
  have HB0 := Lib.hid (kbelow_box w (.cells #[.int .i64 6, .int .i64 n, .string s, .slice a m c] 42))
  have hw1 : IntKind.i64.wrap (-v) = -v := IntWalk.i64_in _ (by
    have hm := of_decide_eq_true hv
    omega)
  clear hv
  have H : Hid (oneO kn 6 n s v = some (-v)) := Lib.hid rfl
  rw [H.out]
  go_enter Tryz.func59, Tryz.ntmps59
  go_wp2_with fail
  go_ret
  exact ⟨rfl, HB0.out⟩
end Go.Proofs.YtjpjnmhjfpmglaaGreatDoor
namespace Go.Proofs.YtjpjnmhjfpmglaaGreatDoor
open Go.RowKit Go.Maps Go.WideMaps

theorem oneO_5 (kn : Kn) (n : Int) (s : ByteArray) (v : Int) : oneO kn 5 n s v = some (taxN (tnth kn.tbs ((tbsG kn s).getD 0)).bks v) := rfl
set_option maxRecDepth 100000 in
set_option maxHeartbeats 4000000 in
theorem ofOne_5 (n : Int) (s : ByteArray) (a : Option Addr) (m c : Nat) (v : Int) (sb : Nat) (l : List Ln) (kn : Kn) (vs : List Int) (q : Nat) (w : World) (hs : s.size ≤ maxLen) (hsc : VSc w sb l kn vs) (h30 : kn.tbs.length ≤ 30) (hq : tbsG kn s = some q) (ht : tblE (tnth kn.tbs q).name (tnth kn.tbs q).bks = 0) (hv : monB v = true) :
    Calls Tryz.prog 59 #[.pointer (some ⟨sb, 0, none⟩), .agg #[.int .i64 5, .int .i64 n, .string s, .slice a m c], .int .i64 v] w fun e w' => e = vEnd (oneO kn 5 n s v) ∧ Below w.heap.size w w' := by
  have hqn : q < kn.tbs.length := vlast_lt hq
  have H : Hid (vEnd (oneO kn 5 n s v) = .returned (.int .i64 (taxN (tnth kn.tbs q).bks v))) := Lib.hid (by rw [oneO_5, hq]; rfl)
  rw [H.out]
  clear H
  have HB0 := Lib.hid (kbelow_box w (.cells #[.int .i64 5, .int .i64 n, .string s, .slice a m c] 42))
  have hbox : (w.alloc (.cells #[.int .i64 5, .int .i64 n, .string s, .slice a m c] 42)).cell? ⟨w.heap.size, 2, none⟩ = some (.string s) := by simp
  obtain ⟨a1, a2, a3, av, c1, c2, c3, cv, b1, b2, b3, b4, ⟨hB, x0, x1, x2, x3, x4, x5, x6, x7⟩, _, htb, _, _, _, _, hm3, _⟩ := hsc.below HB0.out
  clear hsc x0 x2 x3 x4 x6 x7
  have hkey := key_of hs
  obtain ⟨E, hownE, hE⟩ := hm3.below (show Below _ _ (w.alloc (.cells #[.int .i64 5, .int .i64 n, .string s, .slice a m c] 42)).drew from kbelow_dN (Below.refl _ _) 1)
  obtain ⟨c, hrun, hat, _⟩ := hownE.lookup_int strLaw Tryz.underlying62 Tryz.underlying3 (zeroInt _) hkey
  have hC : E.atKey (.string s.data.toList) (.lit (.int .i64 0)) = .lit (.int .i64 (q : Int)) := by
    have h := (hE s).2
    rw [show lastN (fun j => (tnth kn.tbs j).name) kn.tbs.length s = some q from hq] at h
    exact h
  obtain rfl := lit_int (hat.symm.trans hC)
  obtain ⟨b, o, rfl, hcell⟩ := htb.open rfl (by omega)
  obtain ⟨at', ct, z0, z1, hcb, hz2, hz3⟩ := hcell _ (Below.refl _ _) q hqn
  have HCB := Lib.hid hcb
  have HT := Lib.hid (fun w (hc : CameB w at' (tnth kn.tbs q).bks) => rTax_any _ at' _ ct _ v w hc rfl hz3 ht hv)
  clear hcell hat hC hE hownE hm3 htb hcb ht hv hq hs hkey hz2
  generalize taxN (tnth kn.tbs q).bks v = r at *
  generalize (tnth kn.tbs q).bks = bks at *
  generalize (tnth kn.tbs q).name = nm at *
  generalize bks.length = nb at *
  generalize kn.tbs.length = n2 at *
  have hp' : (q : Int) < (n2 : Int) := by omega
  go_enter Tryz.func59, Tryz.ntmps59
  go_wp2_with fail
  generalize (w.alloc (.cells #[.int .i64 5, .int .i64 n, .string s, .slice a m c] 42)) = W at *
  go_region_held3 (fun w' => w'.cell? ⟨sb, 1, none⟩ = some (.slice (some ⟨b, o, none⟩) n2 c2) ∧ w'.cell? ⟨sb, 5, none⟩ = some (.map (some b3)) ∧ w'.cell? ⟨w.heap.size, 2, none⟩ = some (.string s) ∧ w'.cell? ⟨b, o + q * 2, none⟩ = some (.string nm) ∧ w'.cell? ⟨b, o + q * 2 + 1, none⟩ = some (.slice at' nb ct)) (go_keep)
    (first
      | (go_at_call 89; refine (HT.out _ (HCB.out.below (kbelow_dN (Below.refl _ _) 1))).mono ?_; rintro e w1 ⟨rfl, hb1⟩
         have HB1 := Lib.hid (HB0.out.trans ((nfrom_drew hb1).mono HB0.out.size))
         have hX := nfrom_drew hb1
         have r0 := (hX.cell (p := ⟨sb, 1, none⟩) hB).trans x1
         have r1 := (hX.cell (p := ⟨sb, 5, none⟩) hB).trans x5
         have r2 := (hX.cell (p := ⟨w.heap.size, 2, none⟩) (blt_of_cell hbox)).trans hbox
         have r3 := (hX.cell (p := ⟨b, o + q * 2, none⟩) (blt_of_cell z0)).trans z0
         have r4 := (hX.cell (p := ⟨b, o + q * 2 + 1, none⟩) (blt_of_cell z1)).trans z1
         clear hb1 hX))
  go_wp2_with fail
  go_ret
  exact ⟨rfl, HB1.out⟩
end Go.Proofs.YtjpjnmhjfpmglaaGreatDoor
namespace Go.Proofs.YtjpjnmhjfpmglaaGreatDoor
open Go.RowKit Go.Maps Go.WideMaps

/-- What an expression comes to; none: something that is looked at is no money. -/
def Ex.val (l : List Ln) (kn : Kn) (vs : List Int) : Ex → Option Int
  | .no => none
  | .mk k n s _ kid =>
    if k = 1 then some n else if k = 2 then some (namV l kn vs s) else if k = 3 then some (yearV kn s)
    else if k = 7 ∨ k = 8 ∨ k = 11 ∨ k = 12 then ((kid 0).val l kn vs).bind fun a => ((kid 1).val l kn vs).bind fun b => twoO k a b
    else if k = 13 then ((kid 0).val l kn vs).bind fun a => ((kid 1).val l kn vs).bind fun b => if holdB n a b = true then (kid 2).val l kn vs else (kid 3).val l kn vs
    else ((kid 0).val l kn vs).bind fun a => oneO kn k n s a
/-- What the walk of an expression says. -/
def ComesIs (l : List Ln) (kn : Kn) (vs : List Int) (x : Ex) : Prop := ∀ (a : Option Addr) (c sb : Nat) (w : World), VSc w sb l kn vs → KidsAt w x a →
    Calls Tryz.prog 30 #[.pointer (some ⟨sb, 0, none⟩), .agg #[.int .i64 x.k, .int .i64 x.n, .string x.s, .slice a x.m c]] w fun e w' => e = vEnd (x.val l kn vs) ∧ Below w.heap.size w w'
set_option maxRecDepth 100000 in
set_option maxHeartbeats 1000000 in
theorem comes_1 (l : List Ln) (kn : Kn) (vs : List Int) (n : Int) (s : ByteArray) (kid : Nat → Ex) : ComesIs l kn vs (.mk 1 n s 0 kid) := by
  intro a c sb w hsc hk
  show Calls Tryz.prog 30 #[.pointer (some ⟨sb, 0, none⟩), .agg #[.int .i64 1, .int .i64 n, .string s, .slice a (0 : Nat) c]] w _
  have HB0 := Lib.hid (kbelow_box w (.cells #[.int .i64 1, .int .i64 n, .string s, .slice a (0 : Nat) c] 42))
  have H : Hid ((Ex.mk 1 n s 0 kid).val l kn vs = some n) := Lib.hid (by unfold Ex.val; rfl)
  rw [H.out]
  clear hsc hk
  go_enter Tryz.func30, Tryz.ntmps30
  go_wp2_with fail
  go_ret
  exact ⟨rfl, HB0.out⟩
set_option maxRecDepth 100000 in
set_option maxHeartbeats 1000000 in
theorem comes_2 (l : List Ln) (kn : Kn) (vs : List Int) (n : Int) (s : ByteArray) (kid : Nat → Ex) (h30 : kn.ins.length ≤ 30) (hv : ∀ p, lnsG l s = some p → p < vs.length) (hi : lnsG l s = none → (insG kn s).isSome = true) : ComesIs l kn vs (.mk 2 n s 0 kid) := by
  intro a c sb w hsc hk
  show Calls Tryz.prog 30 #[.pointer (some ⟨sb, 0, none⟩), .agg #[.int .i64 2, .int .i64 n, .string s, .slice a (0 : Nat) c]] w _
  have HB0 := Lib.hid (kbelow_box w (.cells #[.int .i64 2, .int .i64 n, .string s, .slice a (0 : Nat) c] 42))
  have H : Hid ((Ex.mk 2 n s 0 kid).val l kn vs = some (namV l kn vs s)) := Lib.hid (by unfold Ex.val; rfl)
  rw [H.out]
  have HS := Lib.hid (hsc.below HB0.out)
  have HN := Lib.hid (show s.size ≤ maxLen from hk.name)
  clear hsc hk
  go_enter Tryz.func30, Tryz.ntmps30
  go_wp2_with fail
  refine (named_any s sb l kn vs _ HN.out HS.out h30 hv hi).mono ?_
  rintro e w1 ⟨rfl, hb1⟩
  have HB1 := Lib.hid (HB0.out.trans (hb1.mono HB0.out.size))
  clear hb1
  go_wp2_with fail
  go_ret
  exact ⟨rfl, HB1.out⟩
set_option maxRecDepth 100000 in
set_option maxHeartbeats 1000000 in
theorem comes_3 (l : List Ln) (kn : Kn) (vs : List Int) (n : Int) (s : ByteArray) (kid : Nat → Ex) (h30 : kn.yrs.length ≤ 30) : ComesIs l kn vs (.mk 3 n s 0 kid) := by
  intro a c sb w hsc hk
  show Calls Tryz.prog 30 #[.pointer (some ⟨sb, 0, none⟩), .agg #[.int .i64 3, .int .i64 n, .string s, .slice a (0 : Nat) c]] w _
  have HB0 := Lib.hid (kbelow_box w (.cells #[.int .i64 3, .int .i64 n, .string s, .slice a (0 : Nat) c] 42))
  have H : Hid ((Ex.mk 3 n s 0 kid).val l kn vs = some (yearV kn s)) := Lib.hid (by unfold Ex.val; rfl)
  rw [H.out]
  have HS := Lib.hid (hsc.below HB0.out)
  have HN := Lib.hid (show s.size ≤ maxLen from hk.name)
  clear hsc hk
  go_enter Tryz.func30, Tryz.ntmps30
  go_wp2_with fail
  refine (inYear_any s sb l kn vs _ HN.out HS.out h30).mono ?_
  rintro e w1 ⟨rfl, hb1⟩
  have HB1 := Lib.hid (HB0.out.trans (hb1.mono HB0.out.size))
  clear hb1
  go_wp2_with fail
  go_ret
  exact ⟨rfl, HB1.out⟩
end Go.Proofs.YtjpjnmhjfpmglaaGreatDoor
