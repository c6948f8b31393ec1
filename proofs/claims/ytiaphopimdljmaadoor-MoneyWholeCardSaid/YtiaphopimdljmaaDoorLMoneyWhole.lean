/-
  The walk of the law MoneyWhole: it answers true at every total and every list of weights, in every world that holds the library's table.
-/
import Derived.Test.YtiaphopimdljmaaDoorMBegun
import Derived.Test.YtiaphopimdljmaaDoorMWhole
import Derived.Lib.Hide
namespace Go.Proofs.YtiaphopimdljmaaDoor
open Go.RowKit

theorem wts_of {T : Int} {l : List Int} (hE : shareE T l = 0) : Wts T (sumTo l l.length) l := by
  unfold shareE at hE
  by_cases h1 : l.length < 1 ∨ 20 < l.length
  · rw [if_pos h1] at hE; omega
  · rw [if_neg h1] at hE
    by_cases h2 : T < 0 ∨ 1000000000000 < T
    · rw [if_pos h2] at hE; omega
    · rw [if_neg h2] at hE
      cases h3 : l.all ratB
      · rw [if_pos h3] at hE; omega
      · rw [if_neg (by simp [h3])] at hE
        by_cases h4 : sumTo l l.length = 0
        · rw [if_pos h4] at hE; omega
        · have hr := all_rate h3
          have hb := sumTo_bd hr l.length
          exact ⟨by omega, by omega, by omega, by omega, by omega, by omega, fun j => (hr j).1, fun j => (hr j).2, fun j => by
            by_cases hj : j < l.length
            · exact le_sumTo (fun j => (hr j).1) j _ hj
            · have : nth l j = 0 := by unfold nth; rw [List.getD_eq_getElem?_getD, List.getElem?_eq_none (by omega)]; rfl
              omega⟩

set_option maxHeartbeats 1000000 in
theorem whole_bad (T : Int) (a : Option Addr) (n cap : Nat) (E : Int) (w : World) (ht : Tab w) (hE : E ≠ 0)
    (h1 : ∀ w' : World, Below w.heap.size w w' → Calls Tryd.prog 17 #[.int .i64 T, .slice a n cap] w' fun e w'' => e = .returned (.tuple #[.slice none 0 0, .int .i64 E]) ∧ w'' = w') :
    Calls Tryd.prog 9 #[.int .i64 T, .slice a n cap] w fun e w' => e = .returned (.bool true) ∧ Below w.heap.size w w' := by
  have HT := Lib.hid ht
  have H1 := Lib.hid h1
  have hEB : (E != 0) = true := by simp [hE]
  clear h1 ht
  go_enter Tryd.func9, Tryd.ntmps9
  go_wp2_with fail
  refine (begun _ HT.out).mono ?_
  rintro e w1 ⟨rfl, hb1⟩
  have HB1 := Lib.hid hb1
  clear hb1
  go_wp2_with fail
  refine (H1.out _ HB1.out).mono ?_
  rintro e w2 ⟨rfl, rfl⟩
  go_wp2_with fail
  go_ret
  exact ⟨rfl, HB1.out⟩

set_option maxRecDepth 100000 in
set_option maxHeartbeats 4000000 in
theorem whole_good (T : Int) (b off cap : Nat) (l : List Int) (w : World) (ht : Tab w) (hat : At w b off l) (hE : shareE T l = 0) :
    Calls Tryd.prog 9 #[.int .i64 T, .slice (some ⟨b, off, none⟩) l.length cap] w fun e w' => e = .returned (.bool true) ∧ Below w.heap.size w w' := by
  have HT := Lib.hid ht
  have hW := wts_of hE
  obtain ⟨g1, g2, g3⟩ := share_facts hW
  obtain ⟨t0, t1, s0, s1, n0, n1, x0, x1, xs⟩ := hW
  have H1 : Hid (∀ w1, Below w.heap.size w w1 → Calls Tryd.prog 17 #[.int .i64 T, .slice (some ⟨b, off, none⟩) l.length cap] w1 fun e w' =>
      e = .returned (.tuple #[.slice (some ⟨w1.heap.size, 0, none⟩) l.length l.length, .int .i64 0]) ∧ Own w' w1.heap.size (shareL T l) ∧ Below w1.heap.size w1 w') := by
    intro w1 hb
    refine (share_in T b off l cap w1 n0 n1 t0 t1 (hat.below hb hat.1)).mono ?_
    rintro e w' (⟨h, _⟩ | ⟨_, h⟩)
    · exact absurd hE h
    · exact h
  have HX : Hid ((∀ j, 0 ≤ nth l j) ∧ (∀ j, nth l j ≤ 1000000) ∧ (∀ j, nth l j ≤ sumTo l l.length)) := ⟨x0, x1, xs⟩
  have HSL : Hid ((shareL T l).length = l.length) := shareL_length T l
  have HBS : Hid (∀ k, k ≤ l.length → 0 ≤ sumTo (shareL T l) k ∧ sumTo (shareL T l) k ≤ k * 1000000000001) := by
    intro k
    induction k with
    | zero => intro _; simp [sumTo]
    | succ k ih =>
      intro hk
      have := ih (by omega)
      have h := g2 k (by omega)
      have h0 := exactP_bd t0 s0 (x0 k) (xs k)
      unfold exactP at h0
      rw [sumTo]
      omega
  have HBW : Hid (∀ k, 0 ≤ sumTo l k ∧ sumTo l k ≤ 1000000 * k) := fun k => sumTo_bd (fun j => ⟨x0 j, x1 j⟩) k
  have HG1 := Lib.hid g1
  have HG2 := Lib.hid g2
  have HG3 := Lib.hid g3
  have HAT := Lib.hid hat
  have hbw := hat.1
  have HS1 : Hid (1 ≤ sumTo l l.length ∧ sumTo l l.length ≤ 20000000) := ⟨s0, s1⟩
  clear ht hat hE x0 x1 xs g1 g2 g3 s0 s1
  generalize shareL T l = sl at *
  generalize hn : l.length = n at *
  have HLN := Lib.hid hn
  clear hn
  have hnn : ((n : Int) != (n : Int)) = false := by simp
  go_enter Tryd.func9, Tryd.ntmps9
  go_wp2_with fail
  refine (begun _ HT.out).mono ?_
  rintro e w1 ⟨rfl, hb1⟩
  have HB1 := Lib.hid hb1
  clear hb1
  go_wp2_with fail
  refine (H1.out w1 HB1.out).mono ?_
  rintro e w2 ⟨rfl, ho2, hb2⟩
  have HB2 : Hid (Below w.heap.size w w2) := HB1.out.trans (hb2.mono HB1.out.size)
  have HO2 := Lib.hid ho2
  generalize w1.heap.size = g at *
  have HC1 : Hid (∀ j, j < n → w2.cell? ⟨b, off + j, none⟩ = some (.int .i64 (nth l j))) := fun j hj => (HAT.out.below HB2.out hbw).cell (by rw [HLN.out]; exact hj)
  have HC2 : Hid (∀ j, j < n → w2.cell? ⟨g, j, none⟩ = some (.int .i64 (nth sl j))) := fun j hj => HO2.out.cell (by rw [HSL.out]; exact hj)
  clear hb2 ho2
  go_wp2_with fail
  go_loop [7, 8, 9] (fun s a i => ∃ k : Nat, k ≤ n ∧ i = .int .i64 k ∧ s = .int .i64 (sumTo l k) ∧ a = .int .i64 (sumTo sl k)) (fun _ _ i => n - (intOf i).toNat)
  case atStart => exact ⟨0, Nat.zero_le _, rfl, rfl, rfl⟩
  case round =>
    obtain ⟨k, hk, rfl, rfl, rfl⟩ := hrel
    obtain ⟨q0, q1⟩ := HBW.out k
    obtain ⟨q2, q3⟩ := HBS.out k hk
    by_cases hlt : k < n
    · have hlt' : (k : Int) < (n : Int) := by omega
      have c1 := HC1.out k hlt
      have c2 := HC2.out k hlt
      have hx0 := HX.out.1 k
      have hx1 := HX.out.2.1 k
      have hy0 := HBS.out (k + 1) (by omega)
      have E1 : Hid (sumTo l (k + 1) = sumTo l k + nth l k) := rfl
      have E2 : Hid (sumTo sl (k + 1) = sumTo sl k + nth sl k) := rfl
      rw [E2.out] at hy0
      obtain ⟨hy1, hy2⟩ := hy0
      go_wp2
      go_round
      case rel => exact ⟨k + 1, by omega, by go_num, by rw [E1.out], by rw [E2.out]⟩
      case measure => simp [intOf]; omega
    · have hkn : k = n := by omega
      subst hkn
      obtain ⟨s0, s1⟩ := HS1.out
      generalize sumTo l k = S at *
      rw [HG1.out]
      clear q2 q3
      go_wp2
      go_loopw [10] (fun i wr => ∃ m : Nat, m ≤ k ∧ i = .int .i64 m ∧ ∃ q, wr = w2.drewN q) (fun i _ => k - (intOf i).toNat)
      case atStart => exact ⟨0, Nat.zero_le _, rfl, 0, rfl⟩
      case round =>
        obtain ⟨m, hm, rfl, q, rfl⟩ := hrel
        by_cases hmk : m < k
        · have hmk' : (m : Int) < (k : Int) := by omega
          have c1 := HC1.out m hmk
          have c2 := HC2.out m hmk
          have hx0 := HX.out.1 m
          have hx1 := HX.out.2.1 m
          have hxs := HX.out.2.2 m
          have hm0 : 0 ≤ T * nth l m := Int.mul_nonneg t0 hx0
          have hm1 : T * nth l m ≤ 1000000000000000000 := by
            have : T * nth l m ≤ 1000000000000 * 1000000 := Int.mul_le_mul t1 hx1 hx0 (by omega)
            omega
          have hq : 0 ≤ T * nth l m / S ∧ T * nth l m / S ≤ T := exactP_bd (T := T) (S := S) (x := nth l m) t0 s0 hx0 hxs
          obtain ⟨hq0, hq1⟩ := hq
          obtain ⟨hg1, hg2, hg3⟩ := HG2.out m hmk
          by_cases hz : nth l m = 0
          · have hz' := hg3 hz
            have z1 : (nth l m == 0) = true := by simp [hz]
            have z2 : (nth sl m != 0) = false := by simp [hz']
            have z3 : decide (nth sl m < T * nth l m / S) = false := decide_eq_false (by omega)
            have z4 : decide (T * nth l m / S + 1 < nth sl m) = false := decide_eq_false (by omega)
            clear hz hz' hg3
            go_wp2
            go_loopw [12] (fun i wr => ∃ j : Nat, j ≤ k ∧ i = .int .i64 j ∧ ∃ q, wr = w2.drewN q) (fun i _ => k - (intOf i).toNat)
            case atStart => exact ⟨0, Nat.zero_le _, rfl, _, rfl⟩
            case round =>
              obtain ⟨j, hj, rfl, q', rfl⟩ := hrel
              by_cases hjk : j < k
              · have hjk' : (j : Int) < (k : Int) := by omega
                have d1 := HC1.out j hjk
                have d2 := HC2.out j hjk
                by_cases hgt : nth l j < nth l m
                · have hle := HG3.out m j hmk hjk hgt
                  have hle' : decide (nth sl m < nth sl j) = false := decide_eq_false (by omega)
                  go_wp2
                  go_quiet (fail)
                  go_wp2
                  go_roundw
                  case rel => exact ⟨j + 1, by omega, by go_num, _, rfl⟩
                  case measure => simp [intOf]; omega
                · have hgt' : decide (nth l j < nth l m) = false := decide_eq_false hgt
                  go_wp2
                  go_quiet (fail)
                  go_wp2
                  go_roundw
                  case rel => exact ⟨j + 1, by omega, by go_num, _, rfl⟩
                  case measure => simp [intOf]; omega
              · go_wp2
                go_roundw
                case rel => exact ⟨m + 1, by omega, by go_num, _, rfl⟩
                case measure => simp [intOf]; omega
          · have z1 : (nth l m == 0) = false := by simp [hz]
            have z3 : decide (nth sl m < T * nth l m / S) = false := decide_eq_false (by omega)
            have z4 : decide (T * nth l m / S + 1 < nth sl m) = false := decide_eq_false (by omega)
            clear hz hg3
            go_wp2
            go_loopw [12] (fun i wr => ∃ j : Nat, j ≤ k ∧ i = .int .i64 j ∧ ∃ q, wr = w2.drewN q) (fun i _ => k - (intOf i).toNat)
            case atStart => exact ⟨0, Nat.zero_le _, rfl, _, rfl⟩
            case round =>
              obtain ⟨j, hj, rfl, q', rfl⟩ := hrel
              by_cases hjk : j < k
              · have hjk' : (j : Int) < (k : Int) := by omega
                have d1 := HC1.out j hjk
                have d2 := HC2.out j hjk
                by_cases hgt : nth l j < nth l m
                · have hle := HG3.out m j hmk hjk hgt
                  have hle' : decide (nth sl m < nth sl j) = false := decide_eq_false (by omega)
                  go_wp2
                  go_quiet (fail)
                  go_wp2
                  go_roundw
                  case rel => exact ⟨j + 1, by omega, by go_num, _, rfl⟩
                  case measure => simp [intOf]; omega
                · have hgt' : decide (nth l j < nth l m) = false := decide_eq_false hgt
                  go_wp2
                  go_quiet (fail)
                  go_wp2
                  go_roundw
                  case rel => exact ⟨j + 1, by omega, by go_num, _, rfl⟩
                  case measure => simp [intOf]; omega
              · go_wp2
                go_roundw
                case rel => exact ⟨m + 1, by omega, by go_num, _, rfl⟩
                case measure => simp [intOf]; omega
        · have hmk2 : m = k := by omega
          subst hmk2
          go_wp2
          go_ret
          exact ⟨ret_bool (by simp), HB2.out.trans ((below_drewN w2 q).mono HB2.out.size)⟩

theorem walk_moneyWhole (T : Int) (_ : (Lit.int .i64 T).wf = true) (a : Option Addr) (len cap : Nat) (l : List Int) {w : World} (hc : Came w a l) (hn : l.length = len) (hm : len ≤ maxLen) (_ : ∀ n ∈ l, (Lit.int .i64 n).wf = true) (ht : Tab w) :
    Calls Tryd.prog 9 #[.int .i64 T, .slice a len cap] w fun e w' => e = .returned (.bool true) ∧ Below w.heap.size w w' := by
  subst hn
  unfold maxLen at hm
  by_cases hbad : l.length < 1 ∨ 20 < l.length ∨ T < 0 ∨ 1000000000000 < T
  · have hE : shareE T l ≠ 0 := by
      unfold shareE
      by_cases h1 : l.length < 1 ∨ 20 < l.length
      · rw [if_pos h1]; decide
      · rw [if_neg h1, if_pos (by omega)]; decide
    exact whole_bad T a l.length cap (shareE T l) _ ht hE (fun w' _ => share_bad1 T a l cap w' hm hbad)
  · rcases hc with h0 | ⟨b, off, rfl, hat⟩
    · omega
    · by_cases hE : shareE T l = 0
      · exact whole_good T b off cap l _ ht hat hE
      · refine whole_bad T _ l.length cap (shareE T l) _ ht hE (fun w' hb => ?_)
        refine (share_in T b off l cap w' (by omega) (by omega) (by omega) (by omega) (hat.below hb hat.1)).mono ?_
        rintro e w'' (⟨_, h⟩ | ⟨h, _⟩)
        · exact h
        · exact absurd h hE
end Go.Proofs.YtiaphopimdljmaaDoor
