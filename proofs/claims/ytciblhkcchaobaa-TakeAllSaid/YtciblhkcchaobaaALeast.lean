/-
  Promise L3: the walk of Least; what must be in any case (takeBegun); the reference's CheckClaims, DueOf and Asked.
-/
import Derived.Test.YtciblhkcchaobaaATake
namespace Go.Proofs.Ytciblhkcchaobaa
open Go.RowKit

/-- What is wrong with Least's arguments; the least gross. -/
def leastE (k : Int) (l : List Cl) : Int := if claimE 0 k l ≠ 0 then claimE 0 k l else if asked l l.length ≠ 0 ∧ 1000000000000 < k + asked l l.length then 3 else 0
def leastN (k : Int) (l : List Cl) : Int := if leastE k l ≠ 0 then 0 else if asked l l.length = 0 then 0 else k + asked l l.length
theorem leastE_bad {k : Int} {l : List Cl} (h : claimE 0 k l ≠ 0) : leastE k l = claimE 0 k l ∧ leastN k l = 0 := by
  have e : leastE k l = claimE 0 k l := by unfold leastE; rw [if_pos h]
  exact ⟨e, by unfold leastN; rw [e, if_pos h]⟩
theorem leastE_none {k : Int} {l : List Cl} (h : claimE 0 k l = 0) (h2 : asked l l.length = 0) : leastE k l = 0 ∧ leastN k l = 0 := by
  have e : leastE k l = 0 := by unfold leastE; rw [if_neg (by simpa using h), if_neg (fun h3 => h3.1 h2)]
  exact ⟨e, by unfold leastN; rw [e, if_neg (by decide), if_pos h2]⟩
theorem leastE_over {k : Int} {l : List Cl} (h : claimE 0 k l = 0) (h2 : asked l l.length ≠ 0) (h3 : 1000000000000 < k + asked l l.length) : leastE k l = 3 ∧ leastN k l = 0 := by
  have e : leastE k l = 3 := by unfold leastE; rw [if_neg (by simpa using h), if_pos ⟨h2, h3⟩]
  exact ⟨e, by unfold leastN; rw [e, if_pos (by decide)]⟩
theorem leastE_ok {k : Int} {l : List Cl} (h : claimE 0 k l = 0) (h2 : asked l l.length ≠ 0) (h3 : ¬ 1000000000000 < k + asked l l.length) : leastE k l = 0 ∧ leastN k l = k + asked l l.length := by
  have e : leastE k l = 0 := by unfold leastE; rw [if_neg (by simpa using h), if_neg (fun h4 => h3 h4.2)]
  exact ⟨e, by unfold leastN; rw [e, if_neg (by decide), if_neg h2]⟩
set_option maxRecDepth 100000 in
set_option maxHeartbeats 2000000 in
theorem Least_any (k : Int) (a : Option Addr) (n cap : Nat) (l : List Cl) (w : World) (hc : CameC w a l) (hn : l.length = n) (hm : n ≤ maxLen) :
    Calls Try.prog 17 #[.int .i64 k, .slice a n cap] w fun e w' => e = .returned (.tuple #[.int .i64 (leastN k l), .int .i64 (leastE k l)]) ∧ Below w.heap.size w w' := by
  have HC := Lib.hid hc
  have HM := Lib.hid hm
  have HN := Lib.hid hn
  have hm' : n ≤ 9223372036854775807 := by unfold maxLen at hm; omega
  clear hm hc hn
  go_enter Try.func17, Try.ntmps17
  go_wp2_with fail
  refine (Check_any 0 k a n cap l _ HC.out HN.out HM.out).mono ?_
  rintro e w1 ⟨rfl, hb1⟩
  have HB1 := Lib.hid hb1
  have HC1 := Lib.hid (HC.out.below hb1)
  clear hb1
  by_cases hE : claimE 0 k l = 0
  · obtain ⟨z1, _, ⟨k0, k1⟩, z4⟩ := claimE_zero hE
    have HE := Lib.hid hE
    have HF := Lib.hid (fine_of hE)
    have HQ := Lib.hid z4
    have hn30 : n ≤ 30 := by rw [← HN.out]; exact z1
    have HO := Lib.hid (fun h0 => HC1.out.open HN.out h0)
    rw [hE]
    clear z1 z4 hE
    go_wp2_with fail
    go_loopw [7, 18] (fun sv iv wr => ∃ j : Nat, j ≤ n ∧ iv = .int .i64 j ∧ sv = .int .i64 (asked l j) ∧ Below w1.heap.size w1 wr) (fun _ iv _ => n - (intOf iv).toNat)
    case atStart => exact ⟨0, Nat.zero_le _, rfl, rfl, Below.refl _ _⟩
    case round =>
      obtain ⟨j, hj, rfl, rfl, hb⟩ := hrel
      have HB := Lib.hid hb
      clear hb
      have hab := asked_bd HF.out j (by rw [HN.out]; exact hj)
      by_cases hlt : j < n
      · have hlt' : (j : Int) < (n : Int) := by omega
        obtain ⟨b, off, rfl, hcell⟩ := HO.out (by omega)
        obtain ⟨x0, x1, x2, x3⟩ := hcell wr HB.out j hlt
        clear hcell
        obtain ⟨q1, q2, q3, q4, q5, q6, q7⟩ := HQ.out j (by rw [HN.out]; exact hlt)
        obtain ⟨r1, r2, r3, r4⟩ := HF.out.2 j (by rw [HN.out]; exact hlt)
        have HS : Hid (asked l (j + 1) = asked l j + (due (cnth l j) + (cnth l j).owed)) := rfl
        have HDUE := Lib.hid (fun w => due_b (cnth l j) w q1 q5 q6 q7)
        generalize due (cnth l j) = d at *
        generalize asked l j = S at *
        have hS : S ≤ 60000000000000 := by omega
        have HBW := Lib.hid (HB.out.alloc HB.out.size (.cells #[.int .i64 (cnth l j).want, .int .i64 (cnth l j).owed, .int .i64 (cnth l j).cap, .int .i64 (cnth l j).year] 40))
        go_wp2_with fail
        generalize hW : (wr.alloc (.cells #[.int .i64 (cnth l j).want, .int .i64 (cnth l j).owed, .int .i64 (cnth l j).cap, .int .i64 (cnth l j).year] 40)) = W at *
        have y0 : W.cell? ⟨wr.heap.size, 0, none⟩ = some (.int .i64 (cnth l j).want) := by rw [← hW]; simp
        have y1 : W.cell? ⟨wr.heap.size, 1, none⟩ = some (.int .i64 (cnth l j).owed) := by rw [← hW]; simp
        have y2 : W.cell? ⟨wr.heap.size, 2, none⟩ = some (.int .i64 (cnth l j).cap) := by rw [← hW]; simp
        have y3 : W.cell? ⟨wr.heap.size, 3, none⟩ = some (.int .i64 (cnth l j).year) := by rw [← hW]; simp
        clear hW
        have v0 := cell_regrown y0
        have v1 := cell_regrown y1
        have v2 := cell_regrown y2
        have v3 := cell_regrown y3
        generalize (cnth l j).owed = o at *
        have hw1 : IntKind.i64.wrap (d + o) = d + o := IntWalk.i64_in _ (by omega)
        have hw2 : IntKind.i64.wrap (S + (d + o)) = S + (d + o) := IntWalk.i64_in _ (by omega)
        refine wp_region_quiet_below (by kernel_rfl) (by kernel_rfl) ?_
        repeat (quiet_step (exact Calls.regrown_of (HDUE.out _)))
        refine wpQuiet_nil ?_
        intro _ hw'
        obtain ⟨⟨dq, osq⟩, hw''⟩ := hw'
        subst hw''
        go_wp2_with fail
        go_roundw
        case rel => exact ⟨j + 1, by omega, by go_num, uval (by rw [HS.out]), HBW.out.trans ((below_regrown W dq osq).mono HBW.out.size)⟩
        case measure => simp [intOf]; omega
      · obtain rfl : j = n := by omega
        have HL1 := Lib.hid (fun h2 => leastE_none (k := k) (l := l) HE.out h2)
        have HL2 := Lib.hid (fun h2 h3 => leastE_over (k := k) (l := l) HE.out h2 h3)
        have HL3 := Lib.hid (fun h2 h3 => leastE_ok (k := k) (l := l) HE.out h2 h3)
        rw [HN.out] at HL1 HL2 HL3
        generalize asked l j = S at *
        have hS : S ≤ 60000000000000 := by omega
        by_cases h0 : S = 0
        · have HX := Lib.hid (HL1.out h0)
          subst h0
          clear HL1 HL2 HL3
          go_wp2_with fail
          go_ret2
          exact ⟨uret22 HX.out.2.symm HX.out.1.symm, HB1.out.trans (HB.out.mono HB1.out.size)⟩
        · have h0B : (S == 0) = false := by simp [h0]
          by_cases h1 : 1000000000000 < k + S
          · have HX := Lib.hid (HL2.out h0 h1)
            clear HL1 HL2 HL3
            go_wp2_with fail
            go_ret2
            exact ⟨uret22 HX.out.2.symm HX.out.1.symm, HB1.out.trans (HB.out.mono HB1.out.size)⟩
          · have HX := Lib.hid (HL3.out h0 h1)
            clear HL1 HL2 HL3
            go_wp2_with fail
            go_ret2
            exact ⟨uret22 HX.out.2.symm HX.out.1.symm, HB1.out.trans (HB.out.mono HB1.out.size)⟩
  · have hne : (claimE 0 k l != 0) = true := by simp [hE]
    have hne' : decide (claimE 0 k l = 0) = false := decide_eq_false hE
    have HX := Lib.hid (leastE_bad hE)
    go_wp2_with fail
    go_ret2
    exact ⟨uret22 HX.out.2.symm HX.out.1.symm, HB1.out⟩
/-! ### What must be in any case -/
def bgL : List Cl := [⟨50, 0, -1, 0⟩, ⟨40, 0, -1, 0⟩]
theorem bg_all : claimE 100 30 bgL = 0 ∧ min 100 30 + lft 100 30 bgL 2 = 30 ∧ takenL 100 30 bgL 2 = [50, 0, 0, 20, 0, 20] := by decide
theorem bg_least : leastE 1 [⟨2, 0, -1, 0⟩] = 0 ∧ leastN 1 [⟨2, 0, -1, 0⟩] = 3 := by decide
theorem came_bg (w : World) : CameC (w.alloc (.cells #[.int .i64 50, .int .i64 0, .int .i64 (-1), .int .i64 0, .int .i64 40, .int .i64 0, .int .i64 (-1), .int .i64 0] 40)) (some ⟨w.heap.size, 0, none⟩) bgL := by
  refine .inr ⟨w.heap.size, 0, rfl, by simp, fun j hj => ?_⟩
  have hj' : j < 2 := hj
  rcases (show j = 0 ∨ j = 1 by omega) with rfl | rfl
  · exact ⟨by simp [cnth, bgL], by simp [cnth, bgL], by simp [cnth, bgL], by simp [cnth, bgL]⟩
  · exact ⟨by simp [cnth, bgL], by simp [cnth, bgL], by simp [cnth, bgL], by simp [cnth, bgL]⟩
theorem came_bg1 (w : World) : CameC (w.alloc (.cells #[.int .i64 2, .int .i64 0, .int .i64 (-1), .int .i64 0] 40)) (some ⟨w.heap.size, 0, none⟩) [⟨2, 0, -1, 0⟩] := by
  refine .inr ⟨w.heap.size, 0, rfl, by simp, fun j hj => ?_⟩
  obtain rfl : j = 0 := by simpa using hj
  exact ⟨by simp [cnth], by simp [cnth], by simp [cnth], by simp [cnth]⟩
theorem all_lit (w : World) : Calls Try.prog 13 #[.int .i64 100, .int .i64 30, .slice (some ⟨w.heap.size, 0, none⟩) 2 2] (w.alloc (.cells #[.int .i64 50, .int .i64 0, .int .i64 (-1), .int .i64 0, .int .i64 40, .int .i64 0, .int .i64 (-1), .int .i64 0] 40)) fun e w' => ∃ gg c, e = .returned (.tuple #[.slice (some ⟨gg, 0, none⟩) 2 c, .int .i64 30, .int .i64 0]) ∧ At w' gg 0 [50, 0, 0, 20, 0, 20] ∧ Below w.heap.size w w' := by
  refine (All_any 100 30 _ 2 2 bgL _ (came_bg w) rfl (by unfold maxLen; omega)).mono ?_
  rintro e w1 ⟨v, net, er, rfl, ⟨her, hp⟩, hb⟩
  rcases hp with ⟨h, _⟩ | ⟨_, hn, x, c, hv, ht⟩
  · exact absurd bg_all.1 h
  have e1 : bgL.length = 2 := rfl
  rw [e1] at hn hv ht
  rw [bg_all.1] at her
  rw [bg_all.2.1] at hn
  rw [bg_all.2.2] at ht
  subst her hn hv
  rcases ht with h | ⟨gg, hx, hat⟩
  · omega
  · subst hx
    exact ⟨gg, c, rfl, hat, (ubelow_box w _).trans (hb.mono (ubelow_box w _).size)⟩
theorem least_lit (w : World) : Calls Try.prog 17 #[.int .i64 1, .slice (some ⟨w.heap.size, 0, none⟩) 1 1] (w.alloc (.cells #[.int .i64 2, .int .i64 0, .int .i64 (-1), .int .i64 0] 40)) fun e w' => e = .returned (.tuple #[.int .i64 3, .int .i64 0]) ∧ Below w.heap.size w w' := by
  refine (Least_any 1 _ 1 1 [⟨2, 0, -1, 0⟩] _ (came_bg1 w) rfl (by unfold maxLen; omega)).mono ?_
  rintro e w1 ⟨rfl, hb⟩
  rw [bg_least.1, bg_least.2]
  exact ⟨rfl, (ubelow_box w _).trans (hb.mono (ubelow_box w _).size)⟩
set_option maxRecDepth 100000 in
set_option maxHeartbeats 1000000 in
theorem begun_any (w : World) : Calls Try.prog 10 #[] w fun e w' => e = .returned (.bool true) ∧ Below w.heap.size w w' := by
  go_enter Try.func10, Try.ntmps10
  go_wp2_with fail
  refine (all_lit w).mono ?_
  rintro e w1 ⟨gg, c, rfl, hat, hb1⟩
  have HB1 := Lib.hid hb1
  have HA1 := Lib.hid hat
  clear hb1 hat
  go_wp2_with fail
  refine (least_lit w1).mono ?_
  rintro e w2 ⟨rfl, hb2⟩
  have HB2 := Lib.hid (HB1.out.trans (hb2.mono HB1.out.size))
  have HA2 := Lib.hid (HA1.out.below hb2 HA1.out.1)
  clear hb2 HA1
  have c3 := HA2.out.2 3 (by decide)
  have c4 := HA2.out.2 4 (by decide)
  have c5 := HA2.out.2 5 (by decide)
  simp [nth] at c3 c4 c5
  go_wp2_with fail
  go_ret
  exact ⟨uret_bool (by simp), HB2.out⟩
end Go.Proofs.Ytciblhkcchaobaa
