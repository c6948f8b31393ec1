/-
  Parts of a slice of uses: up to one of them, and from behind it on.
-/
import Derived.Test.YtlaamfagjpdhgaaLvApp
namespace Go.Proofs.Ytlaamfagjpdhgaa
open Go.RowKit

set_option maxRecDepth 100000 in
theorem run_upto (b off n cap k : Nat) (hk : k ≤ n) (hn : n ≤ cap) (w : World) :
    (Instr.slice 56 (.slice (some ⟨b, off, none⟩) n cap) none (some (.int .i64 (k : Int))) none).run Try.prog w = .ok (.slice (some ⟨b, off, none⟩) k cap) w := by
  obtain ⟨i0, hi, hz0, hz1, hz2⟩ := info_parts us_info
  have h1 : k ≤ cap := by omega
  simp [Instr.slice, Instr.sliceBounds, Instr.sliceBound, asIntOf, run_underlying Try.underlying56, sizeOf, typeInfo, hi, h1, Addr.add_lit]
set_option maxRecDepth 100000 in
theorem run_from (b off n cap k : Nat) (hk : k + 1 ≤ n) (hn : n ≤ cap) : ∃ (o2 c2 : Nat), (∀ w : World,
    (Instr.slice 56 (.slice (some ⟨b, off, none⟩) n cap) (some (.int .i64 ((k : Int) + 1))) none none).run Try.prog w = .ok (.slice (some ⟨b, o2, none⟩) (n - (k + 1)) c2) w) ∧ (o2 = off + (k + 1) * 2 ∨ n = k + 1) := by
  obtain ⟨i0, hi, hz0, hz1, hz2⟩ := info_parts us_info
  have h1 : (k : Int) + 1 ≤ (n : Int) := by omega
  have h2 : (0 : Int) ≤ (k : Int) + 1 := by omega
  have h3 : ((k : Int) + 1).toNat = k + 1 := by omega
  by_cases hc : cap = k + 1
  · refine ⟨off, cap - (k + 1), fun w => ?_, .inr (by omega)⟩
    simp [Instr.slice, Instr.sliceBounds, Instr.sliceBound, asIntOf, run_underlying Try.underlying56, sizeOf, typeInfo, hi, h1, h2, h3, hc]
  · refine ⟨off + (k + 1) * 2, cap - (k + 1), fun w => ?_, .inl rfl⟩
    simp [Instr.slice, Instr.sliceBounds, Instr.sliceBound, asIntOf, run_underlying Try.underlying56, sizeOf, typeInfo, hi, hz1, h1, h2, h3, hc, Addr.add_lit]
end Go.Proofs.Ytlaamfagjpdhgaa
