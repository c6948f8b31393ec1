/-
  The walks of the laws TakeMore and TakeEnough: each answers true at every input.
-/
import Derived.Test.YtciblhkcchaobaaALaw
import Derived.OpenShut
namespace Go.Proofs.Ytciblhkcchaobaa
open Go.RowKit

theorem more_net {g g' k : Int} {l : List Cl} (hg : 0 ≤ g) (hgg : g ≤ g') (hk : 0 ≤ k) (h : Fine l) : min g k + lft g k l l.length ≤ min g' k + lft g' k l l.length := by
  have := lft_mono (g := g) (g' := g') hg hgg hk h (j := l.length) (Nat.le_refl _)
  omega
set_option maxRecDepth 100000 in
set_option maxHeartbeats 2000000 in
theorem walk_takeMore (g : Int) (_ : (Lit.int .i64 g).wf = true) (k : Int) (_ : (Lit.int .i64 k).wf = true) (a : Option Addr) (n cap : Nat) (l : List Cl) {w : World} (hc : CameC w a l) (hn : l.length = n) (hm : n ≤ maxLen) (more : Int) (hmw : (Lit.int .i64 more).wf = true) :
    Calls Try.prog 8 #[.int .i64 g, .int .i64 k, .slice a n cap, .int .i64 more] w fun e w' => e = .returned (.bool true) ∧ Below w.heap.size w w' := by
  have HC := Lib.hid hc
  have HM := Lib.hid hm
  have HN := Lib.hid hn
  have hm' : n ≤ 9223372036854775807 := by unfold maxLen at hm; omega
  obtain ⟨m1, m2⟩ : -9223372036854775808 ≤ more ∧ more ≤ 9223372036854775807 := bounds_i64 hmw
  clear hm hc hn hmw
  obtain ⟨c1, c2⟩ := choose_bd more 100000 (by omega)
  go_enter Try.func8, Try.ntmps8
  go_wp2_with fail
  refine (begun_any _).mono ?_
  rintro e w1 ⟨rfl, hb⟩
  have HB1 := Lib.hid hb
  have HC1 := Lib.hid (HC.out.below hb)
  clear hb
  go_wp2_with fail
  refine (All_any g k a n cap l _ HC1.out HN.out HM.out).mono ?_
  rintro e w2 ⟨v, net, er, rfl, ⟨rfl, hp⟩, hb⟩
  have HB2 := Lib.hid (HB1.out.trans (hb.mono HB1.out.size))
  have HC2 := Lib.hid (HC1.out.below hb)
  clear hb
  rcases hp with ⟨hE, rfl, rfl⟩ | ⟨hE, hnet, x, c, rfl, htk⟩
  · have hne : (claimE g k l != 0) = true := by simp [hE]
    have hne' : decide (claimE g k l = 0) = false := decide_eq_false hE
    go_wp2_with fail
    refine (choose_any more 100000 _ m1 m2 (by omega) (by omega)).mono ?_
    rintro e w' ⟨rfl, h'⟩
    subst w'
    generalize chooseI more 100000 = cz at *
    go_wp2_with fail
    refine (All_any _ k a n cap l _ HC2.out HN.out HM.out).mono ?_
    rintro e w3 ⟨v3, net3, er3, rfl, ⟨her3, _⟩, hb⟩
    have HB3 := Lib.hid (HB2.out.trans (hb.mono HB2.out.size))
    clear hb her3
    go_wp2_with fail
    go_ret
    exact ⟨rfl, HB3.out⟩
  · have HTK2 := Lib.hid htk
    obtain ⟨z1, ⟨g0, g1⟩, ⟨k0, k1⟩, z4⟩ := claimE_zero hE
    have HF := Lib.hid (fine_of hE)
    have hn30 : n ≤ 30 := by rw [← HN.out]; exact z1
    have HNET := Lib.hid hnet
    have hlb := lft_bd g0 k0 HF.out l.length (Nat.le_refl _)
    have hnb : 0 ≤ net ∧ net ≤ 2000000000000 := by omega
    clear htk z1 z4 hlb hnet
    rw [hE, HN.out]
    rw [HN.out] at HTK2
    go_wp2_with fail
    refine (choose_any more 100000 _ m1 m2 (by omega) (by omega)).mono ?_
    rintro e w' ⟨rfl, h'⟩
    subst w'
    generalize chooseI more 100000 = cz at *
    go_wp2_with fail
    refine (All_any (g + cz) k a n cap l _ HC2.out HN.out HM.out).mono ?_
    rintro e w3 ⟨v3, net3, er3, rfl, ⟨rfl, hp3⟩, hb⟩
    have HB3 := Lib.hid (HB2.out.trans (hb.mono HB2.out.size))
    have HTK3 := Lib.hid (HTK2.out.below hb)
    clear hb HTK2
    rcases hp3 with ⟨hE3, rfl, rfl⟩ | ⟨hE3, hnet3, x3, c3, rfl, htk3⟩
    · have hne : (claimE (g + cz) k l != 0) = true := by simp [hE3]
      have hne' : decide (claimE (g + cz) k l = 0) = false := decide_eq_false hE3
      go_wp2_with fail
      go_ret
      exact ⟨rfl, HB3.out⟩
    · have hcmp : net ≤ net3 := by
        rw [HNET.out, hnet3]
        exact more_net g0 (by omega) k0 HF.out
      have HO := Lib.hid (fun h0 => HTK3.out.open h0)
      have HO3 : Hid (0 < n → ∃ gg, x3 = some ⟨gg, 0, none⟩ ∧ ∀ w', Below w3.heap.size w3 w' → ∀ j, j < n → w'.cell? ⟨gg, j * 3, none⟩ = some (.int .i64 (now (g + cz) k l j)) ∧ w'.cell? ⟨gg, j * 3 + 1, none⟩ = some (.int .i64 (bef (g + cz) k l j)) ∧ w'.cell? ⟨gg, j * 3 + 2, none⟩ = some (.int .i64 (owe (g + cz) k l j))) := fun h0 => by rw [HN.out] at htk3; exact htk3.open h0
      clear hnet3 htk3 HNET
      rw [hE3, HN.out]
      clear hE3 hE
      go_wp2_with fail
      go_loopw [15] (fun iv wr => ∃ j : Nat, j ≤ n ∧ iv = .int .i64 j ∧ ∃ q, wr = w3.drewN q) (fun iv _ => n - (intOf iv).toNat)
      case atStart => exact ⟨0, Nat.zero_le _, rfl, 0, rfl⟩
      case round =>
        obtain ⟨j, hj, rfl, q, rfl⟩ := hrel
        by_cases hlt : j < n
        · have hlt' : (j : Int) < (n : Int) := by omega
          obtain ⟨b, rfl, hcell⟩ := HO.out (by omega)
          obtain ⟨b3, rfl, hcell3⟩ := HO3.out (by omega)
          obtain ⟨x0, x1, x2⟩ := hcell _ (Below.refl _ _) j hlt
          obtain ⟨y0, y1, y2⟩ := hcell3 _ (Below.refl _ _) j hlt
          clear hcell hcell3
          obtain ⟨p1, p2, p3⟩ := more_pure (g := g) (g' := g + cz) g0 (by omega) k0 HF.out (j := j) (by rw [HN.out]; exact hlt)
          have t1 : decide (now (g + cz) k l j < now g k l j) = false := decide_eq_false (by omega)
          have t2 : decide (bef (g + cz) k l j < bef g k l j) = false := decide_eq_false (by omega)
          have t3 : decide (owe g k l j < owe (g + cz) k l j) = false := decide_eq_false (by omega)
          go_wp2_with fail
          go_quiet (fail)
          go_wp2_with fail
          go_roundw
          case rel => exact ⟨j + 1, by omega, by go_num, _, rfl⟩
          case measure => simp [intOf]; omega
        · obtain rfl : j = n := by omega
          go_wp2_with fail
          go_ret
          exact ⟨uret_bool (by simp <;> omega), ubelow_dN HB3.out _⟩
/-! ### TakeEnough -/
def owedN (g k : Int) (l : List Cl) : Int := if claimE g k l = 0 then sumOwe g k l l.length else -1
/-- What is captured lies in its boxes. -/
def EBox (w : World) (B : Nat) (k : Int) (a : Option Addr) (n cap : Nat) : Prop := w.cell? ⟨B, 0, none⟩ = some (.int .i64 k) ∧ w.cell? ⟨B + 1, 0, none⟩ = some (.slice a n cap) ∧ B + 1 < w.heap.size
theorem EBox.below {w w' : World} {B : Nat} {k : Int} {a : Option Addr} {n cap : Nat} (h : EBox w B k a n cap) (hb : Below w.heap.size w w') : EBox w' B k a n cap :=
  ⟨(hb.cell (p := ⟨B, 0, none⟩) (by have := h.2.2; show B < _; omega)).trans h.1, (hb.cell (p := ⟨B + 1, 0, none⟩) h.2.2).trans h.2.1, Nat.lt_of_lt_of_le h.2.2 hb.size⟩
set_option maxRecDepth 100000 in
set_option maxHeartbeats 2000000 in
theorem owed_any (g k : Int) (a : Option Addr) (n cap : Nat) (l : List Cl) (B : Nat) (w : World) (hc : CameC w a l) (hn : l.length = n) (hm : n ≤ maxLen) (hx : EBox w B k a n cap) :
    Calls Try.prog 21 #[.int .i64 g, .pointer (some ⟨B, 0, none⟩), .pointer (some ⟨B + 1, 0, none⟩)] w fun e w' => e = .returned (.int .i64 (owedN g k l)) ∧ Below w.heap.size w w' := by
  have hm' : n ≤ 9223372036854775807 := by unfold maxLen at hm; omega
  obtain ⟨x0, x1, _⟩ := hx
  have HC := Lib.hid hc
  have HM := Lib.hid hm
  have HN := Lib.hid hn
  clear hc hm hn
  go_enter Try.func21, Try.ntmps21
  go_wp2_with fail
  refine (All_any g k a n cap l _ HC.out HN.out HM.out).mono ?_
  rintro e w2 ⟨v, net, er, rfl, ⟨rfl, hp⟩, hb⟩
  have HB2 := Lib.hid hb
  clear hb x0 x1
  rcases hp with ⟨hE, rfl, rfl⟩ | ⟨hE, hnet, x, c, rfl, htk⟩
  · have hne : (claimE g k l != 0) = true := by simp [hE]
    have hne' : decide (claimE g k l = 0) = false := decide_eq_false hE
    have HV : Hid (owedN g k l = -1) := by unfold Hid owedN; rw [if_neg hE]
    go_wp2_with fail
    go_ret
    exact ⟨uret_int HV.out.symm, HB2.out⟩
  · obtain ⟨z1, ⟨g0, g1⟩, ⟨k0, k1⟩, z4⟩ := claimE_zero hE
    have HF := Lib.hid (fine_of hE)
    have HV : Hid (owedN g k l = sumOwe g k l n) := by unfold Hid owedN; rw [if_pos hE, HN.out]
    have hn30 : n ≤ 30 := by rw [← HN.out]; exact z1
    have HO : Hid (0 < n → ∃ gg, x = some ⟨gg, 0, none⟩ ∧ ∀ w', Below w2.heap.size w2 w' → ∀ j, j < n → w'.cell? ⟨gg, j * 3, none⟩ = some (.int .i64 (now g k l j)) ∧ w'.cell? ⟨gg, j * 3 + 1, none⟩ = some (.int .i64 (bef g k l j)) ∧ w'.cell? ⟨gg, j * 3 + 2, none⟩ = some (.int .i64 (owe g k l j))) := fun h0 => by rw [HN.out] at htk; exact htk.open h0
    rw [hE, HN.out]
    clear htk z1 z4 hnet hE
    go_wp2_with fail
    go_loop [8, 9] (fun sv iv => ∃ j : Nat, j ≤ n ∧ iv = .int .i64 j ∧ sv = .int .i64 (sumOwe g k l j)) (fun _ iv => n - (intOf iv).toNat)
    case atStart => exact ⟨0, Nat.zero_le _, rfl, rfl⟩
    case round =>
      obtain ⟨j, hj, rfl, rfl⟩ := hrel
      have hsb := sumOwe_bd g0 k0 HF.out j (by rw [HN.out]; exact hj)
      by_cases hlt : j < n
      · have hlt' : (j : Int) < (n : Int) := by omega
        obtain ⟨b, rfl, hcell⟩ := HO.out (by omega)
        obtain ⟨x0, x1, x2⟩ := hcell _ (Below.refl _ _) j hlt
        clear hcell
        have hob := owe_bd g0 k0 HF.out (j := j) (by rw [HN.out]; exact hlt)
        have HS : Hid (sumOwe g k l (j + 1) = sumOwe g k l j + owe g k l j) := rfl
        generalize sumOwe g k l j = S at *
        generalize owe g k l j = o at *
        have hS : S ≤ 60000000000000 := by omega
        go_wp2_with fail
        go_round
        case rel => exact ⟨j + 1, by omega, by go_num, uval (by rw [HS.out])⟩
        case measure => simp [intOf]; omega
      · obtain rfl : j = n := by omega
        go_wp2_with fail
        go_ret
        exact ⟨uret_int HV.out.symm, HB2.out⟩
theorem enough_pure {k : Int} {l : List Cl} (h : leastE k l = 0) : owedN (leastN k l) k l = 0 ∧ (leastN k l ≠ 0 → 0 < owedN (leastN k l - 1) k l) ∧ 0 ≤ leastN k l ∧ leastN k l ≤ 1000000000000 := by
  have hC : claimE 0 k l = 0 := by
    by_cases h' : claimE 0 k l = 0
    · exact h'
    · rw [(leastE_bad h').1] at h; exact absurd h h'
  obtain ⟨_, _, ⟨k0, k1⟩, _⟩ := claimE_zero hC
  have hF := fine_of hC
  have hA := asked_bd hF l.length (Nat.le_refl _)
  by_cases h0 : asked l l.length = 0
  · obtain ⟨_, e⟩ := leastE_none hC h0
    rw [e]
    refine ⟨?_, fun h => absurd rfl h, by omega, by omega⟩
    unfold owedN
    rw [if_pos hC, sumOwe_eq, h0, lft_asked (by omega) k0 hF 0 (by omega), lft_asked (by omega) k0 hF _ (Nat.le_refl _), h0, asked]
    omega
  · by_cases h1 : 1000000000000 < k + asked l l.length
    · rw [(leastE_over hC h0 h1).1] at h; omega
    · obtain ⟨_, e⟩ := leastE_ok hC h0 h1
      rw [e]
      refine ⟨?_, fun _ => ?_, by omega, by omega⟩
      · unfold owedN
        rw [if_pos (claimE_gross hC (by omega) (by omega)), sumOwe_eq, lft_asked (by omega) k0 hF 0 (by omega), lft_asked (by omega) k0 hF _ (Nat.le_refl _), asked]
        omega
      · unfold owedN
        rw [if_pos (claimE_gross hC (by omega) (by omega)), sumOwe_eq, lft_asked (by omega) k0 hF 0 (by omega), lft_asked (by omega) k0 hF _ (Nat.le_refl _), asked]
        omega
set_option maxRecDepth 100000 in
set_option maxHeartbeats 2000000 in
theorem walk_takeEnough (k : Int) (_ : (Lit.int .i64 k).wf = true) (a : Option Addr) (n cap : Nat) (l : List Cl) {w : World} (hc : CameC w a l) (hn : l.length = n) (hm : n ≤ maxLen) :
    Calls Try.prog 9 #[.int .i64 k, .slice a n cap] w fun e w' => e = .returned (.bool true) ∧ Below w.heap.size w w' := by
  have hmf : ∀ (fn : Fn) (first cap : Array Value) (w : World), (Instr.makeFunc fn first cap).run Try.prog w = .ok (.func fn first cap) w := fun _ _ _ _ => rfl
  have HB0 := Lib.hid ((ubelow_box w (.cells #[.int .i64 k] 3)).alloc (ubelow_box w (.cells #[.int .i64 k] 3)).size (.cells #[.slice a n cap] 22))
  have HX0 : Hid (EBox ((w.alloc (.cells #[.int .i64 k] 3)).alloc (.cells #[.slice a n cap] 22)) w.heap.size k a n cap) := ⟨by simp, by simp, by simp⟩
  have HC0 := Lib.hid (hc.below HB0.out)
  have HM := Lib.hid hm
  have HN := Lib.hid hn
  clear hm hc hn
  go_enter Try.func9, Try.ntmps9
  go_wp2_with fail
  refine (begun_any _).mono ?_
  rintro e w1 ⟨rfl, hb⟩
  have HB1 := Lib.hid (HB0.out.trans (hb.mono HB0.out.size))
  have HC1 := Lib.hid (HC0.out.below hb)
  have HX1 := Lib.hid (HX0.out.below hb)
  clear hb HC0 HX0
  obtain ⟨x0, x1, _⟩ := HX1.out
  go_wp2_with fail
  refine (Least_any k a n cap l _ HC1.out HN.out HM.out).mono ?_
  rintro e w2 ⟨rfl, hb⟩
  have HB2 := Lib.hid (HB1.out.trans (hb.mono HB1.out.size))
  have HC2 := Lib.hid (HC1.out.below hb)
  have HX2 := Lib.hid (HX1.out.below hb)
  clear hb x0 x1
  by_cases hE : leastE k l = 0
  · obtain ⟨p1, p2, p3, p4⟩ := enough_pure hE
    have HP1 := Lib.hid p1
    have HP2 := Lib.hid p2
    clear p1 p2
    have HO := Lib.hid (fun g w hc hx => owed_any g k a n cap l w.heap.size w hc HN.out HM.out hx)
    clear HO
    rw [hE]
    generalize leastN k l = N at *
    go_wp2_with fail
    refine (owed_any N k a n cap l w.heap.size _ HC2.out HN.out HM.out HX2.out).mono ?_
    rintro e w3 ⟨rfl, hb⟩
    have HB3 := Lib.hid (HB2.out.trans (hb.mono HB2.out.size))
    have HC3 := Lib.hid (HC2.out.below hb)
    have HX3 := Lib.hid (HX2.out.below hb)
    clear hb
    rw [HP1.out]
    by_cases h0 : N = 0
    · subst h0
      go_wp2_with fail
      go_ret
      exact ⟨uret_bool (by simp), HB3.out⟩
    · have h0B : (N == 0) = false := by simp [h0]
      have h2 := HP2.out h0
      go_wp2_with fail
      refine (owed_any (N - 1) k a n cap l w.heap.size _ HC3.out HN.out HM.out HX3.out).mono ?_
      rintro e w4 ⟨rfl, hb⟩
      have HB4 := Lib.hid (HB3.out.trans (hb.mono HB3.out.size))
      clear hb
      generalize owedN (N - 1) k l = o at *
      go_wp2_with fail
      go_ret
      exact ⟨uret_bool (by simp <;> omega), HB4.out⟩
  · have hne : (leastE k l != 0) = true := by simp [hE]
    have hne' : decide (leastE k l = 0) = false := decide_eq_false hE
    go_wp2_with fail
    go_ret
    exact ⟨rfl, HB2.out⟩
end Go.Proofs.Ytciblhkcchaobaa
