/-
  The walk of the law TakeWhole: it answers true at every input.
-/
import Derived.Test.YtciblhkcchaobaaARef
import Derived.Test.YtciblhkcchaobaaALaw
namespace Go.Proofs.Ytciblhkcchaobaa
open Go.RowKit

set_option maxRecDepth 100000 in
set_option maxHeartbeats 4000000 in
theorem walk_takeWhole (g : Int) (_ : (Lit.int .i64 g).wf = true) (k : Int) (_ : (Lit.int .i64 k).wf = true) (a : Option Addr) (n cap : Nat) (l : List Cl) {w : World} (hc : CameC w a l) (hn : l.length = n) (hm : n ≤ maxLen) :
    Calls Try.prog 6 #[.int .i64 g, .int .i64 k, .slice a n cap] w fun e w' => e = .returned (.bool true) ∧ Below w.heap.size w w' := by
  have HC := Lib.hid hc
  have HM := Lib.hid hm
  have HN := Lib.hid hn
  have hm' : n ≤ 9223372036854775807 := by unfold maxLen at hm; omega
  clear hm hc hn
  go_enter Try.func6, Try.ntmps6
  go_wp2_with fail
  refine (begun_any _).mono ?_
  rintro e w1 ⟨rfl, hb⟩
  have HB1 := Lib.hid hb
  have HC1 := Lib.hid (HC.out.below hb)
  clear hb
  go_wp2_with fail
  refine (All_any g k a n cap l _ HC1.out HN.out HM.out).mono ?_
  rintro e w2 ⟨v, net, er, rfl, ⟨rfl, hp⟩, hb⟩
  have HB2 := Lib.hid (HB1.out.trans (hb.mono HB1.out.size))
  have HC2 := Lib.hid (HC1.out.below hb)
  clear hb
  rcases hp with ⟨hE, rfl, rfl⟩ | ⟨hE, hnet, x, c, rfl, htk⟩
  · have hne : (claimE g k l != 0) = true := by simp [hE]
    have hne' : decide (claimE g k l = 0) = false := decide_eq_false hE
    go_wp2_with fail
    go_ret
    exact ⟨rfl, HB2.out⟩
  · obtain ⟨z1, ⟨g0, g1⟩, ⟨k0, k1⟩, z4⟩ := claimE_zero hE
    have HF := Lib.hid (fine_of hE)
    have HQ := Lib.hid z4
    have hn30 : n ≤ 30 := by rw [← HN.out]; exact z1
    have HNET : Hid (net = min g k + lft g k l n) := by unfold Hid; rw [hnet, HN.out]
    have HO : Hid (0 < n → ∃ gg, x = some ⟨gg, 0, none⟩ ∧ ∀ w', Below w2.heap.size w2 w' → ∀ j, j < n → w'.cell? ⟨gg, j * 3, none⟩ = some (.int .i64 (now g k l j)) ∧ w'.cell? ⟨gg, j * 3 + 1, none⟩ = some (.int .i64 (bef g k l j)) ∧ w'.cell? ⟨gg, j * 3 + 2, none⟩ = some (.int .i64 (owe g k l j))) := fun h0 => by rw [HN.out] at htk; exact htk.open h0
    have HOC := Lib.hid (fun h0 => HC2.out.open HN.out h0)
    have HL0 : Hid (lft g k l 0 = g - min g k) := rfl
    rw [hE, HN.out]
    clear htk z1 z4 hnet hE
    go_wp2_with fail
    go_loopw [10, 11] (fun sv iv wr => ∃ j : Nat, j ≤ n ∧ iv = .int .i64 j ∧ sv = .int .i64 (lft g k l 0 - lft g k l j) ∧ Below w2.heap.size w2 wr) (fun _ iv _ => n - (intOf iv).toNat)
    case atStart => exact ⟨0, Nat.zero_le _, rfl, uval (by omega), Below.refl _ _⟩
    case round =>
      obtain ⟨j, hj, rfl, rfl, hb⟩ := hrel
      have HB := Lib.hid hb
      clear hb
      have hlb := lft_bd g0 k0 HF.out j (by rw [HN.out]; exact hj)
      by_cases hlt : j < n
      · have hlt' : (j : Int) < (n : Int) := by omega
        obtain ⟨b, rfl, hcell⟩ := HO.out (by omega)
        obtain ⟨bc, off, rfl, hcc⟩ := HOC.out (by omega)
        have HX := Lib.hid (fun w' hb => hcell w' hb j hlt)
        have HY := Lib.hid (fun w' hb => hcc w' hb j hlt)
        clear hcell hcc
        obtain ⟨y0, y1, y2, y3⟩ := HY.out wr HB.out
        obtain ⟨q1, q2, q3, q4, q5, q6, q7⟩ := HQ.out j (by rw [HN.out]; exact hlt)
        obtain ⟨r1, r2, r3, r4⟩ := HF.out.2 j (by rw [HN.out]; exact hlt)
        have hob := owe_bd g0 k0 HF.out (j := j) (by rw [HN.out]; exact hlt)
        have HSL := Lib.hid (lft_succ g k l j)
        have hl0 : 0 ≤ lft g k l 0 ∧ lft g k l 0 ≤ g := lft_bd g0 k0 HF.out 0 (by omega)
        go_wp2_with fail
        refine (dueOf_b (cnth l j) _ q1 q5 q6 q7).mono ?_
        rintro e w5 ⟨rfl, hb⟩
        have HB5 := Lib.hid (HB.out.trans (hb.mono HB.out.size))
        clear hb y0 y1 y2 y3
        obtain ⟨y0, y1, y2, y3⟩ := HY.out w5 HB5.out
        obtain ⟨x0, x1, x2⟩ := HX.out w5 HB5.out
        have HDU : Hid (due (cnth l j) = if (cnth l j).cap < 0 then (cnth l j).want else min (cnth l j).want (max 0 ((cnth l j).cap - (cnth l j).year))) := rfl
        generalize due (cnth l j) = d at *
        generalize now g k l j = p at *
        generalize bef g k l j = q at *
        generalize owe g k l j = r at *
        generalize lft g k l j = L at *
        generalize hL0 : lft g k l 0 = L0 at *
        have HL00 := Lib.hid hL0
        clear hL0
        generalize (cnth l j).owed = o at *
        generalize (cnth l j).cap = c4 at *
        generalize (cnth l j).year = c3 at *
        have t1 : decide (p < 0) = false := decide_eq_false (by omega)
        have t2 : decide (q < 0) = false := decide_eq_false (by omega)
        have t3 : decide (r < 0) = false := decide_eq_false (by omega)
        have t4 : decide (d < p) = false := decide_eq_false (by omega)
        have t5 : decide (o < q) = false := decide_eq_false (by omega)
        have t6 : (p + q + r != d + o) = false := by simp; omega
        have hw1 : IntKind.i64.wrap (p + q) = p + q := IntWalk.i64_in _ (by omega)
        have hw2 : IntKind.i64.wrap (L0 - L + (p + q)) = L0 - L + (p + q) := IntWalk.i64_in _ (by omega)
        have hw3 : IntKind.i64.wrap (c3 + p) = c3 + p := IntWalk.i64_in _ (by omega)
        go_wp2_with fail
        go_quiet (fail)
        go_wp2_with fail
        by_cases h4 : 0 ≤ c4
        · have h4B : decide (0 ≤ c4) = true := decide_eq_true h4
          by_cases h5 : c3 ≤ c4
          · have h5B : decide (c3 ≤ c4) = true := decide_eq_true h5
            have h6B : decide (c4 < c3 + p) = false := decide_eq_false (by have := HDU.out; rw [if_neg (by omega)] at this; omega)
            go_quiet (fail)
            go_wp2_with fail
            go_quiet (fail)
            go_wp2_with fail
            go_roundw
            case rel => exact ⟨j + 1, by omega, by go_num, uval (by rw [HSL.out, HL00.out]; omega), ubelow_dN HB5.out _⟩
            case measure => simp [intOf]; omega
          · have h5B : decide (c3 ≤ c4) = false := decide_eq_false h5
            go_quiet (fail)
            go_wp2_with fail
            go_quiet (fail)
            go_wp2_with fail
            go_roundw
            case rel => exact ⟨j + 1, by omega, by go_num, uval (by rw [HSL.out, HL00.out]; omega), ubelow_dN HB5.out _⟩
            case measure => simp [intOf]; omega
        · have h4B : decide (0 ≤ c4) = false := decide_eq_false h4
          go_quiet (fail)
          go_wp2_with fail
          go_quiet (fail)
          go_wp2_with fail
          go_roundw
          case rel => exact ⟨j + 1, by omega, by go_num, uval (by rw [HSL.out, HL00.out]; omega), ubelow_dN HB5.out _⟩
          case measure => simp [intOf]; omega
      · obtain rfl : j = n := by omega
        have HG : Hid (lft g k l 0 - lft g k l j + net = g) := by unfold Hid; rw [HNET.out, HL0.out]; omega
        have hnm : min g k ≤ net := by rw [HNET.out]; omega
        have hl0 : 0 ≤ lft g k l 0 ∧ lft g k l 0 ≤ g := lft_bd g0 k0 HF.out 0 (by omega)
        generalize lft g k l 0 = L0 at *
        generalize lft g k l j = L at *
        obtain ⟨S, hS⟩ : ∃ S, S = L0 - L := ⟨_, rfl⟩
        rw [← hS] at HG ⊢
        have hnet : net = g - S := by have := HG.out; omega
        clear hS HNET HG
        subst hnet
        by_cases hkg : k < g
        · go_wp2_with fail
          go_ret
          exact ⟨uret_bool (by simp <;> omega), HB2.out.trans (HB.out.mono HB2.out.size)⟩
        · go_wp2_with fail
          go_ret
          exact ⟨uret_bool (by simp <;> omega), HB2.out.trans (HB.out.mono HB2.out.size)⟩
end Go.Proofs.Ytciblhkcchaobaa
