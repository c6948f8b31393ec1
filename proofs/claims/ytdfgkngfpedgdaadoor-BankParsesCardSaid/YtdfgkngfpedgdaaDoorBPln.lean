/-
  Promise P3: what the places of a line that fits say of its parts: no walk here.
-/
import Derived.Test.YtdfgkngfpedgdaaDoorBNam
import Derived.Test.YtdfgkngfpedgdaaDoorBPxt
namespace Go.Proofs.YtdfgkngfpedgdaaDoor
open Go.RowKit

theorem line_size {s : ByteArray} {k : Nat} (h : ∀ j, j < 45 → lineQ s k j = true) : k + 45 ≤ s.size := by
  have := h 44 (by omega)
  by_cases e : k + 44 < s.size
  · omega
  · unfold lineQ at this
    rw [if_neg (by omega), if_neg (by omega), if_neg (by omega), bt_out e] at this
    exact absurd this (by decide)
theorem line_num {s : ByteArray} {k : Nat} (h : ∀ j, j < 45 → lineQ s k j = true) {a n : Nat} (ha : 1 ≤ a) (hn : a + n ≤ 32) : ∀ j, j < n → digB (bt s (k + a + j)) = true := fun j hj => by
  rw [← lineQ_dig s k a j (by omega)]
  exact h (a + j) (by omega)
theorem line_nam {s : ByteArray} {k : Nat} (h : ∀ j, j < 45 → lineQ s k j = true) : ∀ j, j < 12 → nmF (prv s (k + 32) j) (bt s (k + 32 + j)) = true := fun j hj => by
  rw [← lineQ_nam s k j hj]
  exact h (32 + j) (by omega)
/-- The part of a text that is a line. -/
def LineP (s p : ByteArray) (k : Nat) : Prop := p.size = 45 ∧ (∀ a b, b ≤ 45 → p.extract a b = s.extract (k + a) (k + b)) ∧ ∀ j, j < 45 → bt p j = bt s (k + j)
theorem LineP.of {s : ByteArray} {k : Nat} (h : k + 45 ≤ s.size) : LineP s (s.extract k (k + 45)) k :=
  ⟨ext_size h, fun _ _ hb => ext_ext s hb, fun j hj => bt_extract s k (k + 45) j h (by omega)⟩
theorem lnsOf_snoc (s : ByteArray) (n : Nat) : lnsOf s (n + 1) = lnsOf s n ++ [pyOf s (25 + 45 * n)] := rfl
theorem pyOf_at {s p : ByteArray} {k m : Nat} (hp : LineP s p k) (hk : k + 45 ≤ s.size) (h : ∀ j, j < 45 → lineQ s k j = true) (hm : m ≤ 12) (h1 : ∀ j, j < m → bt p (32 + j) ≠ 46) (h2 : m < 12 → bt p (32 + m) = 46) : pyOf s k = ⟨p.extract 1 13, p.extract 32 (32 + m), numT (p.extract 13 26), numT (p.extract 26 32)⟩ := by
  have e : nmT s (k + 32) = s.extract (k + 32) (k + 32 + m) := name_at (by omega) (line_nam h) hm (fun j hj => by have := h1 j hj; rwa [hp.2.2 _ (by omega), ← Nat.add_assoc] at this) (fun hj => by have := h2 hj; rwa [hp.2.2 _ (by omega), ← Nat.add_assoc] at this)
  unfold pyOf
  rw [e, hp.2.1 1 13 (by omega), hp.2.1 13 26 (by omega), hp.2.1 26 32 (by omega), hp.2.1 32 (32 + m) (by omega), Nat.add_assoc k 32 m]
end Go.Proofs.YtdfgkngfpedgdaaDoor
