/-
  Promise P3: a name's field up to its first point is the field without its points: no walk here.
-/
import Derived.Test.YtdfgkngfpedgdaaDoorBRev
namespace Go.Proofs.YtdfgkngfpedgdaaDoor
open Go.RowKit

/-- Behind a point come points alone. -/
theorem dots_on {s : ByteArray} {k m : Nat} (h : ∀ j, j < 12 → nmF (prv s k j) (bt s (k + j)) = true) (hm : bt s (k + m) = 46) : ∀ d, m + d < 12 → bt s (k + (m + d)) = 46
  | 0, _ => hm
  | d + 1, hd => by
    have ih := dots_on h hm d (by omega)
    have h1 := h (m + d + 1) (by omega)
    rw [prv_succ, ih] at h1
    unfold nmF at h1
    simp at h1
    exact h1
theorem name_at {s : ByteArray} {k m : Nat} (hk : k + 12 ≤ s.size) (h : ∀ j, j < 12 → nmF (prv s k j) (bt s (k + j)) = true) (hm : m ≤ 12) (h1 : ∀ j, j < m → bt s (k + j) ≠ 46) (h2 : m < 12 → bt s (k + m) = 46) : nmT s k = s.extract k (k + m) := by
  have hl : (s.extract k (k + 12)).data.toList.length = 12 := by rw [← size_toList]; exact ext_size hk
  have hget : ∀ j (b : UInt8), (s.extract k (k + 12)).data.toList[j]? = some b → j < 12 ∧ bt s (k + j) = (b.toNat : Int) := fun j b hb => by
    have hj : j < 12 := by have := (List.getElem?_eq_some_iff.1 hb).1; omega
    refine ⟨hj, ?_⟩
    rw [← bt_extract s k (k + 12) j hk (by omega), ← bt_tx hb, tx_data]
  have e : Lib.trimRightB (s.extract k (k + 12)).data.toList 46 = (s.extract k (k + 12)).data.toList.take m := by
    refine Lib.trimRightB_take _ 46 m (by omega) (fun j b hj hb => ?_) (fun b h0 hb e => ?_)
    · obtain ⟨hj12, hbj⟩ := hget j b hb
      have := dots_on h (h2 (by omega)) (j - m) (by omega)
      rw [show m + (j - m) = j by omega, hbj] at this
      exact UInt8.toNat_inj.1 (by have h46 : (46 : UInt8).toNat = 46 := rfl; omega)
    · obtain ⟨_, hbj⟩ := hget _ b hb
      refine h1 (m - 1) (by omega) ?_
      rw [hbj, e]
      rfl
  unfold nmT
  rw [e]
  refine ba_eq (s := tx _) ?_ (fun j hj => ?_)
  · rw [tx_size, List.length_take, hl, ext_size (by omega)]; omega
  · rw [tx_size, List.length_take, hl] at hj
    rw [bt_same (m := (s.extract k (k + 12)).data.toList) (j := j) (by rw [List.getElem?_take_of_lt (by omega)]), tx_data, bt_extract s k (k + 12) j hk (by omega), bt_extract s k (k + m) j (by omega) (by omega)]
end Go.Proofs.YtdfgkngfpedgdaaDoor
