/-
  Promise F3: the reference's ExprText over whatever right expression.
-/
import Derived.Test.YtchiifnciijagaaGreatDoorRF
import Derived.Test.YtchiifnciijagaaGreatDoorRG
import Derived.Test.YtchiifnciijagaaGreatDoorRH
set_option linter.unusedSimpArgs false
namespace Go.Proofs.YtchiifnciijagaaGreatDoor
open Go.RowKit

theorem sumN_kid {f : Nat → Nat} : ∀ {m j : Nat}, j < m → f j ≤ sumN f m
  | m + 1, j, h => by
    rw [sumN]
    by_cases hj : j = m
    · subst hj; omega
    · have := sumN_kid (f := f) (m := m) (j := j) (by omega)
      omega
theorem inT_same {k n : Int} {s : ByteArray} {m : Nat} {kid : Nat → Ex} (b : Bool) (hk : k < 7 ∨ (10 < k ∧ k < 13)) : inT b (Ex.mk k n s m kid) = (Ex.mk k n s m kid).txt := by
  unfold inT wrapT
  cases b
  · rfl
  · rw [if_pos rfl, if_neg (by show ¬ _; simp only [Ex.k]; omega)]
theorem exprText_all : ∀ x : Ex, x.full → x.err = 0 → x.parts ≤ 4000 → ∀ b, RcX b x := by
  intro x
  induction x with
  | no => intro h; rw [Ex.full] at h; exact h.elim
  | mk k n s m kid ih =>
    intro hfu he hpt b
    have he' := he
    rw [err_mk] at he'
    have how : ownE k n s m = 0 := Classical.byContradiction fun hc => by rw [if_neg hc] at he'; exact hc he'
    have hnm := own_nmP how
    have HEX : Hid (endB (inT false (Ex.mk k n s m kid))) := inT_end hfu he
    have HZX : Hid (∀ b, Sz (rT (inT b (Ex.mk k n s m kid))) 500000) := fun b => Nat.le_trans (rT_size _) (inT_len b he hpt)
    obtain ⟨⟨hk1, hk13, hm, hn0, hn1⟩, hkd⟩ := mk_okP he
    have hpk : ∀ j, j < m → (kid j).parts ≤ 4000 := fun j hj => by
      have h1 := sumN_kid (f := fun j => (kid j).parts) hj
      rw [Ex.parts] at hpt
      omega
    have hC : ∀ j, j < m → ∀ b, RcX b (kid j) := fun j hj => ih j (full_kid hfu j hj) (hkd j hj) (hpk j hj)
    have hZ : ∀ j, j < m → ∀ b, Sz (rT (inT b (kid j))) 500000 := fun j hj b => Nat.le_trans (rT_size _) (inT_len b (hkd j hj) (hpk j hj))
    have hN : ∀ j, j < m → ∀ b, endB (inT b (kid j)) := fun j hj b => inT_end (full_kid hfu j hj) (hkd j hj)
    clear ih hkd hfu he he' how hpt hpk
    have hc : k = 1 ∨ k = 2 ∨ k = 3 ∨ k = 4 ∨ k = 5 ∨ k = 6 ∨ k = 7 ∨ k = 8 ∨ k = 9 ∨ k = 10 ∨ k = 11 ∨ k = 12 ∨ k = 13 := by omega
    rcases hc with rfl | rfl | rfl | rfl | rfl | rfl | rfl | rfl | rfl | rfl | rfl | rfl | rfl <;> simp [kidsOf] at hm <;> simp [leastOf, mostOf] at hn0 hn1
    · obtain rfl : m = 0 := by omega
      cases b
      · exact exprText_1_false n s kid (decide_eq_true ⟨by omega, by omega⟩) (fun j hj => by omega) (fun j hj => by omega) (by rw [inT_same _ (by omega)]; exact rt_1 n s kid)
      · exact exprText_1_true n s kid (decide_eq_true ⟨by omega, by omega⟩) (fun j hj => by omega) (fun j hj => by omega) (by rw [inT_same _ (by omega)]; exact rt_1 n s kid)
    · obtain rfl : m = 0 := by omega
      cases b
      · exact exprText_2_false n s kid  (fun j hj => by omega) (fun j hj => by omega) (by rw [inT_same _ (by omega)]; exact rt_2 n s kid)
      · exact exprText_2_true n s kid  (fun j hj => by omega) (fun j hj => by omega) (by rw [inT_same _ (by omega)]; exact rt_2 n s kid)
    · obtain rfl : m = 0 := by omega
      cases b
      · exact exprText_3_false n s kid (hnm rfl) (fun j hj => by omega) (fun j hj => by omega) (by rw [inT_same _ (by omega)]; exact rt_3 n s kid)
      · exact exprText_3_true n s kid (hnm rfl) (fun j hj => by omega) (fun j hj => by omega) (by rw [inT_same _ (by omega)]; exact rt_3 n s kid)
    · obtain rfl : m = 1 := by omega
      cases b
      · exact exprText_4_false n s kid (decide_eq_true ⟨by omega, by omega⟩) (mT_len (by omega) (by omega)) hC hZ (by rw [inT_same _ (by omega)]; exact rt_4 n s kid (hN 0 (by omega) true))
      · exact exprText_4_true n s kid (decide_eq_true ⟨by omega, by omega⟩) (mT_len (by omega) (by omega)) hC hZ (by rw [inT_same _ (by omega)]; exact rt_4 n s kid (hN 0 (by omega) true))
    · obtain rfl : m = 1 := by omega
      cases b
      · exact exprText_5_false n s kid (hnm rfl) hC hZ (by rw [inT_same _ (by omega)]; exact rt_5 n s kid (hN 0 (by omega) true))
      · exact exprText_5_true n s kid (hnm rfl) hC hZ (by rw [inT_same _ (by omega)]; exact rt_5 n s kid (hN 0 (by omega) true))
    · obtain rfl : m = 1 := by omega
      cases b
      · exact exprText_6_false n s kid  hC hZ (by rw [inT_same _ (by omega)]; exact rt_6 n s kid (hN 0 (by omega) true))
      · exact exprText_6_true n s kid  hC hZ (by rw [inT_same _ (by omega)]; exact rt_6 n s kid (hN 0 (by omega) true))
    · obtain rfl : m = 2 := by omega
      have hF : RcX false (Ex.mk 7 n s _ kid) := exprText_7_false n s kid  hC hZ (rt_7 n s kid (hN 0 (by omega) true) (hN 1 (by omega) true))
      cases b
      · exact hF
      · exact exprText_w_7 n s _ kid hF (HZX.out false) (rt_w (by omega) HEX.out)
    · obtain rfl : m = 2 := by omega
      have hF : RcX false (Ex.mk 8 n s _ kid) := exprText_8_false n s kid  hC hZ (rt_8 n s kid (hN 0 (by omega) true) (hN 1 (by omega) true))
      cases b
      · exact hF
      · exact exprText_w_8 n s _ kid hF (HZX.out false) (rt_w (by omega) HEX.out)
    · obtain rfl : m = 1 := by omega
      have hF : RcX false (Ex.mk 9 n s _ kid) := exprText_9_false n s kid ⟨by omega, by omega⟩ (iT_len (by omega) (by omega)) hC hZ (rt_9 n s kid (hN 0 (by omega) true))
      cases b
      · exact hF
      · exact exprText_w_9 n s _ kid hF (HZX.out false) (rt_w (by omega) HEX.out)
    · obtain rfl : m = 1 := by omega
      have hF : RcX false (Ex.mk 10 n s _ kid) := exprText_10_false n s kid ⟨by omega, by omega⟩ (iT_len (by omega) (by omega)) hC hZ (rt_10 n s kid (hN 0 (by omega) true))
      cases b
      · exact hF
      · exact exprText_w_10 n s _ kid hF (HZX.out false) (rt_w (by omega) HEX.out)
    · obtain rfl : m = 2 := by omega
      cases b
      · exact exprText_11_false n s kid  hC hZ (by rw [inT_same _ (by omega)]; exact rt_11 n s kid (hN 0 (by omega) false) (hN 1 (by omega) false))
      · exact exprText_11_true n s kid  hC hZ (by rw [inT_same _ (by omega)]; exact rt_11 n s kid (hN 0 (by omega) false) (hN 1 (by omega) false))
    · obtain rfl : m = 2 := by omega
      cases b
      · exact exprText_12_false n s kid  hC hZ (by rw [inT_same _ (by omega)]; exact rt_12 n s kid (hN 0 (by omega) false) (hN 1 (by omega) false))
      · exact exprText_12_true n s kid  hC hZ (by rw [inT_same _ (by omega)]; exact rt_12 n s kid (hN 0 (by omega) false) (hN 1 (by omega) false))
    · obtain rfl : m = 4 := by omega
      have hF : RcX false (Ex.mk 13 n s _ kid) := exprText_13_false n s kid (show n = 1 ∨ n = 2 ∨ n = 3 by omega) hC hZ (rt_13 n s kid (hN 0 (by omega) true) (hN 1 (by omega) true) (hN 2 (by omega) false) (hN 3 (by omega) false))
      cases b
      · exact hF
      · exact exprText_w_13 n s _ kid hF (HZX.out false) (rt_w (by omega) HEX.out)
end Go.Proofs.YtchiifnciijagaaGreatDoor
