/-
  Promise G2: walks of taxOf, rateUpTo and of the reference's TaxOf and RateOf.
-/
import Derived.Test.YtmiijmgidbbmhaaKTaxM
namespace Go.Proofs.Ytmiijmgidbbmhaa
open Go.RowKit

set_option maxRecDepth 100000 in
set_option maxHeartbeats 1000000 in
theorem taxOf_any (a : Option Addr) (n cap : Nat) (l : List Bk) (base : Int) (w : World) (hc : CameB w a l) (hn : l.length = n) (hl : Right l) (h1 : -1000000000000 ≤ base) (h2 : base ≤ 1000000000000) :
    Calls Try.prog 34 #[.slice a n cap, .int .i64 base] w fun e w' => e = .returned (.int .i64 (taxN l base)) ∧ Below w.heap.size w w' := by
  have hn12 : n ≤ 12 := by rw [← hn]; exact hl.2.1
  have HL := Lib.hid hl
  obtain ⟨b, off, rfl, hcell⟩ := hc.open hn (by rw [← hn]; exact hl.1)
  have HO := Lib.hid hcell
  clear hcell hc hl
  go_enter Try.func34, Try.ntmps34
  go_wp2_with fail
  go_loopw [5, 13] (fun p i wr => ∃ k : Nat, k ≤ n ∧ i = .int .i64 k ∧ p = .int .i64 (pP l base k) ∧ Below w.heap.size w wr) (fun _ i _ => n - (intOf i).toNat)
  case atStart => exact ⟨0, Nat.zero_le _, rfl, rfl, Below.refl _ _⟩
  case round =>
    obtain ⟨k, hk, rfl, rfl, hb⟩ := hrel
    have HB := Lib.hid hb
    clear hb
    have hpb := pP_bound HL.out h2 (k := k) (by omega)
    by_cases hlt : k < n
    · have hlt' : (k : Int) < (n : Int) := by omega
      obtain ⟨x0, x1⟩ := HO.out wr HB.out k hlt
      have hq := right_nth HL.out (j := k) (by omega)
      have HT0 := Lib.hid (hb_top HL.out base (j := k) (by omega))
      have HM : (0 ≤ (hb l base k - hb l base (k + 1)) * (bnth l k).rate ∧ (hb l base k - hb l base (k + 1)) * (bnth l k).rate ≤ 10000000000000000) := by
        have hd := hb_falls HL.out base (j := k) (by omega)
        have u1 := hb_le HL.out base k
        have u2 := hb_nonneg l base (k + 1)
        refine ⟨Int.mul_nonneg hd hq.2.2.1, ?_⟩
        have := Int.mul_le_mul_of_nonneg_left hq.2.2.2 hd
        omega
      have HR : Hid ((bnth l k).rate = (bnth l k).rate) := rfl
      by_cases hk1 : k + 1 < n
      · have hk1' : (k : Int) + 1 < (n : Int) := by omega
        obtain ⟨y0, _⟩ := HO.out wr HB.out (k + 1) hk1
        have hq' := right_nth HL.out (j := k + 1) (by omega)
        have HTOP := HT0
        rw [if_pos (by omega)] at HTOP
        clear HT0
        have htn : ((k : Int) + 1).toNat = k + 1 := by omega
        have y0' : (wr.alloc (.cells #[.int .i64 (bnth l k).frm, .int .i64 (bnth l k).rate] 43)).cell? ⟨b, off + (k + 1) * 2, none⟩ = some (.int .i64 (bnth l (k + 1)).frm) := ((HO.out _ (HB.out.alloc HB.out.size _)) (k + 1) hk1).1
        generalize hf : (bnth l k).frm = f at *
        generalize hr : (bnth l k).rate = r at *
        generalize hg : (bnth l (k + 1)).frm = g at *
        clear hf hg
        have HR : Hid (r = (bnth l k).rate) := hr.symm
        clear hr
        have HS : Hid (pP l base k + (hb l base k - hb l base (k + 1)) * r = pP l base (k + 1)) := by
          unfold Hid
          rw [HR.out]
          rfl
        have hq2 := pP_bound HL.out h2 (k := k + 1) (by omega)
        go_wp2_with fail
        go_roundw
        case rel =>
          refine ⟨k + 1, by omega, by go_num, ?_, HB.out.alloc HB.out.size _⟩
          rw [show (if f < if g < base then g else base then (if g < base then g else base) - f else 0) = hb l base k - hb l base (k + 1) by rw [← HTOP.out]; (repeat' split) <;> omega, IntWalk.wrap64_in ((hb l base k - hb l base (k + 1)) * r) (by omega), IntWalk.wrap64_in _ (by omega), HS.out]
        case measure => simp [intOf]; omega
      · have hk1' : decide ((k : Int) + 1 < (n : Int)) = false := decide_eq_false (by omega)
        have HTOP := HT0
        rw [if_neg (by omega)] at HTOP
        clear HT0
        generalize hf : (bnth l k).frm = f at *
        generalize hr : (bnth l k).rate = r at *
        clear hf
        have HR : Hid (r = (bnth l k).rate) := hr.symm
        clear hr
        have HS : Hid (pP l base k + (hb l base k - hb l base (k + 1)) * r = pP l base (k + 1)) := by
          unfold Hid
          rw [HR.out]
          rfl
        have hq2 := pP_bound HL.out h2 (k := k + 1) (by omega)
        go_wp2_with fail
        go_roundw
        case rel =>
          refine ⟨k + 1, by omega, by go_num, ?_, HB.out.alloc HB.out.size _⟩
          rw [show (if f < base then base - f else 0) = hb l base k - hb l base (k + 1) by rw [← HTOP.out]; (repeat' split) <;> omega, IntWalk.wrap64_in ((hb l base k - hb l base (k + 1)) * r) (by omega), IntWalk.wrap64_in _ (by omega), HS.out]
        case measure => simp [intOf]; omega
    · have hkn : k = n := by omega
      subst hkn
      have HE : Hid (rvN (pP l base k) 10000 5 = taxN l base) := by
        unfold Hid taxN
        rw [hn]
        exact (rv_ok (n := pP l base k) (d := 10000) (way := 5) rfl (decide_eq_true ⟨by omega, by omega, by omega, by omega⟩)).1
      go_wp2_with fail
      refine (round_any _ _ _ _).mono ?_
      rintro e w2 ⟨rfl, j, rfl⟩
      go_wp2_with fail
      go_ret
      exact ⟨kret_int HE.out, kbelow_dN HB.out _⟩
/-- The rate up to a base, by the first brackets. -/
def rU (l : List Bk) (base : Int) : Nat → Int
  | 0 => (bnth l 0).rate
  | k + 1 => if (bnth l k).frm < base then (bnth l k).rate else rU l base k
def rateN (l : List Bk) (base : Int) : Int := rU l base l.length
theorem rU_bd {l : List Bk} (h : Right l) (base : Int) : ∀ k, k ≤ l.length → 0 ≤ rU l base k ∧ rU l base k ≤ 10000
  | 0, _ => by
    have := right_nth h (j := 0) (by have := h.1; omega)
    simp only [rU]
    omega
  | k + 1, hk => by
    have := right_nth h (j := k) (by omega)
    have ih := rU_bd h base k (by omega)
    simp only [rU]
    split <;> omega
set_option maxRecDepth 100000 in
set_option maxHeartbeats 1000000 in
theorem rateUpTo_any (a : Option Addr) (n cap : Nat) (l : List Bk) (base : Int) (w : World) (hc : CameB w a l) (hn : l.length = n) (hl : 1 ≤ n) (h12 : n ≤ 12) :
    Calls Try.prog 36 #[.slice a n cap, .int .i64 base] w fun e w' => e = .returned (.int .i64 (rateN l base)) ∧ Below w.heap.size w w' := by
  obtain ⟨b, off, rfl, hcell⟩ := hc.open hn (by omega)
  have HO := Lib.hid hcell
  clear hcell hc
  obtain ⟨_, z1⟩ := HO.out w (Below.refl _ _) 0 (by omega)
  simp only [Nat.zero_mul, Nat.add_zero] at z1
  have hpos : (0 : Int) < (n : Int) := by omega
  go_enter Try.func36, Try.ntmps36
  go_wp2_with fail
  clear z1
  go_loopw [5, 14] (fun p i wr => ∃ k : Nat, k ≤ n ∧ i = .int .i64 k ∧ p = .int .i64 (rU l base k) ∧ Below w.heap.size w wr) (fun _ i _ => n - (intOf i).toNat)
  case atStart => exact ⟨0, Nat.zero_le _, rfl, rfl, Below.refl _ _⟩
  case round =>
    obtain ⟨k, hk, rfl, rfl, hb⟩ := hrel
    have HB := Lib.hid hb
    clear hb
    by_cases hlt : k < n
    · have hlt' : (k : Int) < (n : Int) := by omega
      obtain ⟨x0, x1⟩ := HO.out wr HB.out k hlt
      by_cases hr : (bnth l k).frm < base
      · have HS : Hid (rU l base (k + 1) = (bnth l k).rate) := by unfold Hid; simp only [rU]; rw [if_pos hr]
        go_wp2_with fail
        go_roundw
        case rel => exact ⟨k + 1, by omega, by go_num, by rw [HS.out], HB.out.alloc HB.out.size _⟩
        case measure => simp [intOf]; omega
      · have HS : Hid (rU l base (k + 1) = rU l base k) := by unfold Hid; simp only [rU]; rw [if_neg hr]
        have hrB : decide ((bnth l k).frm < base) = false := decide_eq_false hr
        go_wp2_with fail
        go_roundw
        case rel => exact ⟨k + 1, by omega, by go_num, by rw [HS.out], HB.out.alloc HB.out.size _⟩
        case measure => simp [intOf]; omega
    · have hkn : k = n := by omega
      subst hkn
      have HE : Hid (rU l base k = rateN l base) := by unfold Hid rateN; rw [hn]
      go_wp2_with fail
      go_ret
      exact ⟨kret_int HE.out, HB.out⟩
end Go.Proofs.Ytmiijmgidbbmhaa
