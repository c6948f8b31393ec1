/-
  A slice of uses that came in has room for what it holds.
-/
import Derived.Test.YtlaamfagjpdhgaaLvRow
namespace Go.Proofs.Ytlaamfagjpdhgaa
open Go.RowKit

theorem uses_cap {H : Type} {enc : TypeId × Value → H} {W : World} {fuel : Nat} {a : Option Addr} {len cap : Nat} {x : DataW H × List MemPlace}
    (h : DataW.trod enc Try.prog W 0 (fun _ => true) true fuel 56 [.slice a len cap] = some x) : len ≤ cap ∧ cap ≤ maxLen := by
  rcases Deep.open_slice Try.underlying56 h with ⟨hcs, _⟩ | ⟨a', len', cap', m, n, D, Pl, hcs, hb, hl, hm, hmm, _, hx⟩
  · simp at hcs
    obtain ⟨_, rfl, rfl⟩ := hcs
    exact ⟨Nat.le_refl _, Nat.zero_le _⟩
  · simp at hcs
    obtain ⟨_, rfl, rfl⟩ := hcs
    have hmc : m = cap := by rw [hmm]; simp
    subst hmc
    exact ⟨by omega, by omega⟩
end Go.Proofs.Ytlaamfagjpdhgaa
