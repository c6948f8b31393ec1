/-
  Parts of texts: a part of a part, a part and the byte behind it.
-/
import Derived.Test.YtdfgkngfpedgdaaDoorTSpan
namespace Go.Proofs.YtdfgkngfpedgdaaDoor
open Go.RowKit

theorem ext_snoc (p : ByteArray) {a b : Nat} (h : a ≤ b) : p.extract a b ++ p.extract b (b + 1) = p.extract a (b + 1) := by
  apply ByteArray.ext
  simp only [ByteArray.data_append, ByteArray.data_extract]
  rw [Array.extract_append_extract, Nat.min_eq_left h, Nat.max_eq_right (by omega)]
theorem ext_ext (s : ByteArray) {k a b m : Nat} (h : b ≤ m) : (s.extract k (k + m)).extract a b = s.extract (k + a) (k + b) := by
  apply ByteArray.ext
  simp only [ByteArray.data_extract, Array.extract_extract]
  rw [Nat.min_eq_left (by omega)]
theorem ext_nil (p : ByteArray) (a : Nat) : p.extract a a = ⟨#[]⟩ := by
  apply ByteArray.ext
  simp
end Go.Proofs.YtdfgkngfpedgdaaDoor
