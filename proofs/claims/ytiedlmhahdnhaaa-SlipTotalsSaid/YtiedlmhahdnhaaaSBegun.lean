/-
  Promise R: what must be in any case: the walk of slipBegun.
-/
import Derived.Test.YtiedlmhahdnhaaaSVoidW
namespace Go.Proofs.Ytiedlmhahdnhaaa
open Go.RowKit Go.Sort

def s0 : Sl := ⟨1, 1, 1, false, [⟨⟨#[97]⟩, 2⟩]⟩
theorem begunE : voidE [s0] 1 false = 0 := by decide +kernel
theorem begunL : voidL [s0] 1 = [goneS s0] := by kernel_rfl
theorem begunG : voidG [s0] 1 = [1] := by decide +kernel
theorem begun_ret {w' : World} {B : Nat} {v u : Value} (h : VoidRet w' B v u [s0] 1 false) : ∃ g c b off d, v = .slice (some ⟨g, 0, none⟩) 1 c ∧ w'.cell? ⟨g, 3, none⟩ = some (.bool true) ∧ u = .slice (some ⟨b, off, none⟩) 1 d ∧ At w' b off [1] := by
  obtain ⟨⟨D, h1⟩, h2⟩ := h.2 begunE
  rw [begunL] at h1
  rw [begunG] at h2
  obtain ⟨x, d, rfl, -, h2⟩ := h2
  rcases h2 with h2 | ⟨b, off, rfl, h2⟩
  · cases h2
  rcases h1 with ⟨_, h1⟩ | ⟨g, c, rfl, _, _, _, h1, _⟩
  · cases h1
  obtain ⟨⟨_, _, _, c3⟩, _⟩ := h1 0 (by simp)
  exact ⟨g, c, b, off, d, rfl, by simpa [snth, goneS] using c3, rfl, h2⟩
theorem begun_came (w : World) : CameS (((w.alloc (.cells #[.string ⟨#[97]⟩, .int .i64 2] 52)).alloc (.cells #[.int .i64 1, .int .i64 1, .int .i64 1, .bool false, .slice (some ⟨w.heap.size, 0, none⟩) 1 1] 44)).alloc (.cells #[.int .i64 1, .int .i64 1, .int .i64 1, .bool false, .slice (some ⟨w.heap.size, 0, none⟩) 1 1] 44)) (some ⟨w.heap.size + 2, 0, none⟩) [s0] := by
  refine .inr ⟨_, _, rfl, by simp, fun j hj => ?_⟩
  obtain rfl : j = 0 := by simpa using hj
  have hA : AAt (w.alloc (.cells #[.string ⟨#[97]⟩, .int .i64 2] 52)) w.heap.size 0 s0.tot := by
    refine ⟨by simp, fun j hj => ?_⟩
    obtain rfl : j = 0 := by simpa [s0] using hj
    exact ⟨by simp [s0, anth], by simp [s0, anth]⟩
  have hA2 := (hA.below (kbelow_box _ (.cells #[.int .i64 1, .int .i64 1, .int .i64 1, .bool false, .slice (some ⟨w.heap.size, 0, none⟩) 1 1] 44)) hA.1)
  have hA3 := (hA2.below (kbelow_box _ (.cells #[.int .i64 1, .int .i64 1, .int .i64 1, .bool false, .slice (some ⟨w.heap.size, 0, none⟩) 1 1] 44)) hA2.1)
  have q : ∀ i, (((w.alloc (.cells #[.string ⟨#[97]⟩, .int .i64 2] 52)).alloc (.cells #[.int .i64 1, .int .i64 1, .int .i64 1, .bool false, .slice (some ⟨w.heap.size, 0, none⟩) 1 1] 44)).alloc (.cells #[.int .i64 1, .int .i64 1, .int .i64 1, .bool false, .slice (some ⟨w.heap.size, 0, none⟩) 1 1] 44)).cell? ⟨w.heap.size + 2, i, none⟩ = (#[.int .i64 1, .int .i64 1, .int .i64 1, .bool false, .slice (some ⟨w.heap.size, 0, none⟩) 1 1] : Array Value)[i]? := fun i => World.cell?_alloc_at _ _ _ _ (by simp)
  refine ⟨⟨?_, ?_, ?_, ?_⟩, some ⟨w.heap.size, 0, none⟩, 1, ?_, ⟨.inr ⟨_, _, rfl, hA3⟩, ?_, ?_⟩⟩
  · rw [q]; rfl
  · rw [q]; rfl
  · rw [q]; rfl
  · rw [q]; rfl
  · rw [q]; rfl
  · intro j hj
    obtain rfl : j = 0 := by simpa [snth, s0] using hj
    decide +kernel
  · decide +kernel
set_option maxRecDepth 100000 in
set_option maxHeartbeats 2000000 in
theorem slipBegun_any (w : World) : Calls Try.prog 10 #[] w fun e w' => e = .returned (.bool true) ∧ Go.RowKit.Below w.heap.size w w' := by
  have HC := Lib.hid (begun_came w)
  have HBE : Hid (Go.RowKit.Below w.heap.size w (((w.alloc (.cells #[.string ⟨#[97]⟩, .int .i64 2] 52)).alloc (.cells #[.int .i64 1, .int .i64 1, .int .i64 1, .bool false, .slice (some ⟨w.heap.size, 0, none⟩) 1 1] 44)).alloc (.cells #[.int .i64 1, .int .i64 1, .int .i64 1, .bool false, .slice (some ⟨w.heap.size, 0, none⟩) 1 1] 44))) := Lib.hid ((((Below.refl w.heap.size w).alloc (Nat.le_refl _) _).alloc (by simp) _).alloc (by simp; omega) _)
  go_enter Try.func10, Try.ntmps10
  go_wp2_with fail
  refine (Void_any _ 1 1 [s0] 1 false _ HC.out rfl).mono ?_
  rintro e w1 ⟨v, u, rfl, hret, hb1⟩
  obtain ⟨g, c, b, off, d, rfl, x3, rfl, hat⟩ := begun_ret hret
  rw [begunE]
  have HB1 := Lib.hid (HBE.out.trans (hb1.mono HBE.out.size))
  have HAT := Lib.hid hat
  clear hret hb1 hat
  go_wp2_with fail
  have h2 : At (w1.alloc (.cells #[.int .i64 1] 3)) w1.heap.size 0 [1] := ⟨by simp, fun j hj => by
    obtain rfl : j = 0 := by simpa using hj
    simp [nth]⟩
  refine (same_yes b off d w1.heap.size 0 1 [1] _ (by simp) (HAT.out.below (kbelow_box _ _) HAT.out.1) h2).mono ?_
  rintro e w2 ⟨rfl, q, hw⟩
  subst hw
  have HB2 := Lib.hid (kbelow_dN (HB1.out.alloc HB1.out.size (.cells #[.int .i64 1] 3)) q)
  go_wp2_with fail
  go_ret
  exact ⟨kret_bool (by first | rfl | simp), HB2.out⟩
end Go.Proofs.Ytiedlmhahdnhaaa
