/-
  The walk of the law TakeOrder: it answers true at every input.
-/
import Derived.Test.YtciblhkcchaobaaARef
import Derived.Test.YtciblhkcchaobaaALaw
namespace Go.Proofs.Ytciblhkcchaobaa
open Go.RowKit

/-- Is one of the first j claims owed something? -/
def lackB (g k : Int) (l : List Cl) : Nat → Bool
  | 0 => false
  | j + 1 => lackB g k l j || decide (0 < owe g k l j)
theorem lackB_left {g k : Int} {l : List Cl} (hg : 0 ≤ g) (hk : 0 ≤ k) (h : Fine l) : ∀ j, j ≤ l.length → lackB g k l j = true → lft g k l j = 0
  | 0, _, hs => by cases hs
  | j + 1, hj, hs => by
    have ih := lackB_left hg hk h j (by omega)
    have hb := lft_bd hg hk h j (by omega)
    have := h.2 j (by omega)
    rw [lackB, Bool.or_eq_true, decide_eq_true_iff] at hs
    rw [lft_succ]
    unfold owe at hs
    unfold bef now at *
    rcases hs with hs | hs
    · have := ih hs
      omega
    · omega
theorem order_pure {g k : Int} {l : List Cl} (hg : 0 ≤ g) (hk : 0 ≤ k) (h : Fine l) {j : Nat} (hj : j < l.length) (h0 : 0 < bef g k l j) : now g k l j = due (cnth l j) := by
  have hb := lft_bd hg hk h j (by omega)
  have := h.2 j hj
  unfold bef now at *
  omega
theorem lack_none {g k : Int} {l : List Cl} (h : Fine l) {j : Nat} (hj : j < l.length) (h0 : lft g k l j = 0) : now g k l j = 0 ∧ bef g k l j = 0 := by
  have := h.2 j hj
  unfold bef now
  omega
set_option maxRecDepth 100000 in
set_option maxHeartbeats 4000000 in
theorem walk_takeOrder (g : Int) (_ : (Lit.int .i64 g).wf = true) (k : Int) (_ : (Lit.int .i64 k).wf = true) (a : Option Addr) (n cap : Nat) (l : List Cl) {w : World} (hc : CameC w a l) (hn : l.length = n) (hm : n ≤ maxLen) :
    Calls Try.prog 7 #[.int .i64 g, .int .i64 k, .slice a n cap] w fun e w' => e = .returned (.bool true) ∧ Below w.heap.size w w' := by
  have HC := Lib.hid hc
  have HM := Lib.hid hm
  have HN := Lib.hid hn
  have hm' : n ≤ 9223372036854775807 := by unfold maxLen at hm; omega
  clear hm hc hn
  go_enter Try.func7, Try.ntmps7
  go_wp2_with fail
  refine (begun_any _).mono ?_
  rintro e w1 ⟨rfl, hb⟩
  have HB1 := Lib.hid hb
  have HC1 := Lib.hid (HC.out.below hb)
  clear hb
  go_wp2_with fail
  refine (All_any g k a n cap l _ HC1.out HN.out HM.out).mono ?_
  rintro e w2 ⟨v, net, er, rfl, ⟨rfl, hp⟩, hb⟩
  have HB2 := Lib.hid (HB1.out.trans (hb.mono HB1.out.size))
  have HC2 := Lib.hid (HC1.out.below hb)
  clear hb
  rcases hp with ⟨hE, rfl, rfl⟩ | ⟨hE, hnet, x, c, rfl, htk⟩
  · have hne : (claimE g k l != 0) = true := by simp [hE]
    have hne' : decide (claimE g k l = 0) = false := decide_eq_false hE
    go_wp2_with fail
    go_ret
    exact ⟨rfl, HB2.out⟩
  · obtain ⟨z1, ⟨g0, g1⟩, ⟨k0, k1⟩, z4⟩ := claimE_zero hE
    have HF := Lib.hid (fine_of hE)
    have HQ := Lib.hid z4
    have hn30 : n ≤ 30 := by rw [← HN.out]; exact z1
    have HNET : Hid (net = min g k + lft g k l n) := by unfold Hid; rw [hnet, HN.out]
    have HO : Hid (0 < n → ∃ gg, x = some ⟨gg, 0, none⟩ ∧ ∀ w', Below w2.heap.size w2 w' → ∀ j, j < n → w'.cell? ⟨gg, j * 3, none⟩ = some (.int .i64 (now g k l j)) ∧ w'.cell? ⟨gg, j * 3 + 1, none⟩ = some (.int .i64 (bef g k l j)) ∧ w'.cell? ⟨gg, j * 3 + 2, none⟩ = some (.int .i64 (owe g k l j))) := fun h0 => by rw [HN.out] at htk; exact htk.open h0
    have HOC := Lib.hid (fun h0 => HC2.out.open HN.out h0)
    rw [hE, HN.out]
    clear htk z1 z4 hnet hE
    go_wp2_with fail
    go_loopw [10, 11] (fun sv iv wr => ∃ j : Nat, j ≤ n ∧ iv = .int .i64 j ∧ sv = .bool (lackB g k l j) ∧ Below w2.heap.size w2 wr) (fun _ iv _ => n - (intOf iv).toNat)
    case atStart => exact ⟨0, Nat.zero_le _, rfl, rfl, Below.refl _ _⟩
    case round =>
      obtain ⟨j, hj, rfl, rfl, hb⟩ := hrel
      have HB := Lib.hid hb
      clear hb
      have HLF := Lib.hid (lackB_left g0 k0 HF.out j (by rw [HN.out]; exact hj))
      by_cases hlt : j < n
      · have hlt' : (j : Int) < (n : Int) := by omega
        obtain ⟨b, rfl, hcell⟩ := HO.out (by omega)
        obtain ⟨bc, off, rfl, hcc⟩ := HOC.out (by omega)
        have HX := Lib.hid (fun w' hb => hcell w' hb j hlt)
        have HY := Lib.hid (fun w' hb => hcc w' hb j hlt)
        clear hcell hcc
        obtain ⟨y0, y1, y2, y3⟩ := HY.out wr HB.out
        obtain ⟨x0, x1, x2⟩ := HX.out wr HB.out
        obtain ⟨q1, q2, q3, q4, q5, q6, q7⟩ := HQ.out j (by rw [HN.out]; exact hlt)
        have hob := owe_bd g0 k0 HF.out (j := j) (by rw [HN.out]; exact hlt)
        have hdb := due_bd (c := cnth l j) q1
        have HS : Hid (lackB g k l (j + 1) = (lackB g k l j || decide (0 < owe g k l j))) := rfl
        have HNO := Lib.hid (fun h => lack_none (g := g) (k := k) HF.out (j := j) (by rw [HN.out]; exact hlt) h)
        have HPO := Lib.hid (fun h => order_pure g0 k0 HF.out (j := j) (by rw [HN.out]; exact hlt) h)
        have HDUE := Lib.hid (fun w => dueOf_b (cnth l j) w q1 q5 q6 q7)
        by_cases hs : lackB g k l j = true
        · obtain ⟨e1, e2⟩ := HNO.out (HLF.out hs)
          rw [hs] at HS ⊢
          rw [e1] at x0
          rw [e2] at x1
          clear HLF HNO HPO HDUE hob e1 e2
          generalize owe g k l j = r at *
          have t0 : IntKind.i64.wrap ((0 : Int) + 0) = 0 := IntWalk.i64_in _ (by omega)
          go_wp2_with fail
          go_quiet (fail)
          go_wp2_with fail
          go_roundw
          case rel => exact ⟨j + 1, by omega, by go_num, uvb (by rw [HS.out]; simp [*]), ubelow_dN HB.out _⟩
          case measure => simp [intOf]; omega
        · have hs' : lackB g k l j = false := by simpa using hs
          clear hs
          rw [hs'] at HS ⊢
          by_cases h0 : 0 < bef g k l j
          · have hpo := HPO.out h0
            rw [hpo] at x0
            clear HLF HNO HPO hpo
            generalize due (cnth l j) = d at *
            generalize bef g k l j = q at *
            generalize owe g k l j = r at *
            have v0 := cell_regrown x0
            have v1 := cell_regrown x1
            have v2 := cell_regrown x2
            have u0 := cell_regrown y0
            have u1 := cell_regrown y1
            have u2 := cell_regrown y2
            have u3 := cell_regrown y3
            have h0B : decide (0 < q) = true := decide_eq_true h0
            have hdd : (d != d) = false := by simp
            go_wp2_with fail
            (refine wp_region_quiet_below (by kernel_rfl) (by kernel_rfl) ?_
             repeat (go_big_quiet_step (exact Calls.regrown_of (HDUE.out _)))
             refine wpQuiet_nil ?_
             intro _ hw'
             obtain ⟨⟨dq, osq⟩, hw''⟩ := hw'
             subst hw'')
            by_cases hr : 0 < r
            · have hrB : decide (0 < r) = true := decide_eq_true hr
              go_wp2_with fail
              go_roundw
              case rel => exact ⟨j + 1, by omega, by go_num, uvb (by rw [HS.out]; simp [*]), HB.out.trans ((below_regrown wr dq osq).mono HB.out.size)⟩
              case measure => simp [intOf]; omega
            · have hrB : decide (0 < r) = false := decide_eq_false hr
              go_wp2_with fail
              go_roundw
              case rel => exact ⟨j + 1, by omega, by go_num, uvb (by rw [HS.out]; simp [*]), HB.out.trans ((below_regrown wr dq osq).mono HB.out.size)⟩
              case measure => simp [intOf]; omega
          · have h0B : decide (0 < bef g k l j) = false := decide_eq_false h0
            clear HLF HNO HPO HDUE
            generalize bef g k l j = q at *
            generalize now g k l j = p at *
            generalize owe g k l j = r at *
            go_wp2_with fail
            go_quiet (fail)
            by_cases hr : 0 < r
            · have hrB : decide (0 < r) = true := decide_eq_true hr
              go_wp2_with fail
              go_roundw
              case rel => exact ⟨j + 1, by omega, by go_num, uvb (by rw [HS.out]; simp [*]), ubelow_dN HB.out _⟩
              case measure => simp [intOf]; omega
            · have hrB : decide (0 < r) = false := decide_eq_false hr
              go_wp2_with fail
              go_roundw
              case rel => exact ⟨j + 1, by omega, by go_num, uvb (by rw [HS.out]; simp [*]), ubelow_dN HB.out _⟩
              case measure => simp [intOf]; omega
      · obtain rfl : j = n := by omega
        by_cases hs : lackB g k l j = true
        · have hL := HLF.out hs
          have hnet : net = min g k := by rw [HNET.out, hL]; omega
          rw [hs]
          clear HNET HLF hL
          by_cases hkg : k < g
          · have : net = k := by omega
            subst this
            clear hnet
            go_wp2_with fail
            go_ret
            exact ⟨uret_bool (by simp), HB2.out.trans (HB.out.mono HB2.out.size)⟩
          · have : net = g := by omega
            subst this
            clear hnet
            go_wp2_with fail
            go_ret
            exact ⟨uret_bool (by simp <;> omega), HB2.out.trans (HB.out.mono HB2.out.size)⟩
        · have hs' : lackB g k l j = false := by simpa using hs
          rw [hs']
          go_wp2_with fail
          go_ret
          exact ⟨uret_bool (by simp), HB2.out.trans (HB.out.mono HB2.out.size)⟩
end Go.Proofs.Ytciblhkcchaobaa
