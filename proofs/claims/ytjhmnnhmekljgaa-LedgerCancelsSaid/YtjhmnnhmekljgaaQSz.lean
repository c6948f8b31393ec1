/-
  What the form's own reach says of an entry that came in: its postings' bytes.
-/
import Derived.Test.YtjhmnnhmekljgaaQApp
import Derived.SizedLaws
import Derived.Deep.Slices
namespace Go.Proofs.Ytjhmnnhmekljgaa
open Go.RowKit

set_option maxRecDepth 100000 in
theorem enSized {H : Type} {enc : TypeId × Value → H} {W : World} {fuel : Nat} {d : Int} {a : Option Addr} {len c : Nat} {x : DataW H × List MemPlace}
    (h : DataW.trod enc Try.prog W 0 (fun _ => true) true fuel 29 [.int .i64 d, .slice a len c] = some x) (hw : ∀ k ∈ x.1.weights Try.prog 29, k ≤ reachBytes) : len * 24 ≤ 140737488351232 := by
  obtain ⟨xs, k, hk, hxy, _, hxl, hf⟩ := DataW.trod_struct Try.underlying29 h
  match xs, hxl with
  | [y0, y1], _ =>
    have g1 := hf 1 _ rfl
    simp [cellsPs] at g1
    rcases Deep.open_slice Try.underlying27 g1 with ⟨hcs, _⟩ | ⟨a', len', cap', m, n, D, Pl, hcs, _, _, _, _, hx, _⟩
    · simp at hcs
      omega
    · simp at hcs
      obtain ⟨_, rfl, _⟩ := hcs
      have hd : y1.1 = _ := congrArg Prod.fst hx
      have hx1 : x.1 = .agg [y0.1, y1.1] := by rw [hxy]; rfl
      rw [hx1, hd] at hw
      have hm := hw (((List.range len).map D).length * Try.prog.bytesOf 60 + ((List.range (m - len)).map fun j => D (len + j)).length * Try.prog.bytesOf 60) (by
        simp only [DataW.weights, Try.underlying29]
        exact DataW.weights_mem_each (j := 1) rfl rfl _ (by simp [DataW.weights, Try.underlying27, Nat.add_mul]))
      rw [show Try.prog.bytesOf 60 = 24 by kernel_rfl] at hm
      simp at hm
      unfold reachBytes at hm
      omega
end Go.Proofs.Ytjhmnnhmekljgaa
