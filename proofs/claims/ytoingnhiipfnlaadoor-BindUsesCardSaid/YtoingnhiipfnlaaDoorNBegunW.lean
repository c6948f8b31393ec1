/-
  What must be in any case (bindBegun): its walk: it is so.
-/
import Derived.Test.YtoingnhiipfnlaaDoorNBegun
namespace Go.Proofs.YtoingnhiipfnlaaDoor
open Go.RowKit

def rowBA : Obj := .cells #[.int .i64 4, .string ⟨#[98]⟩, .int .i64 1, .int .i64 0, .string ⟨#[]⟩, .slice none 0 0, .int .i64 4, .string ⟨#[97]⟩, .int .i64 2, .int .i64 0, .string ⟨#[98]⟩, .slice none 0 0] 52
theorem lnB_at (w : World) : LnAt (w.alloc rowBA) w.heap.size (0 + 0 * 6) lnB := by
  refine ⟨none, 0, ⟨?_, ?_, ?_, ?_, ?_, ?_⟩, by decide, ⟨by decide, by decide, .inl rfl⟩⟩ <;> simp [rowBA, lnB, exB, Ex.k, Ex.n, Ex.s, Ex.m] <;> rfl
theorem lnA_at (w : World) : LnAt (w.alloc rowBA) w.heap.size (6 + 0 * 6) lnA := by
  refine ⟨none, 0, ⟨?_, ?_, ?_, ?_, ?_, ?_⟩, by decide, ⟨by decide, by decide, .inl rfl⟩⟩ <;> simp [rowBA, lnA, exA, Ex.k, Ex.n, Ex.s, Ex.m]
theorem came_A (w : World) : CameL (w.alloc rowBA) (some ⟨w.heap.size, 6, none⟩) [lnA] := by
  refine .inr ⟨_, _, rfl, by simp, fun j hj => ?_⟩
  have : j = 0 := by simp at hj; omega
  subst this
  exact lnA_at w
theorem came_BA (w : World) : CameL (w.alloc rowBA) (some ⟨w.heap.size, 0, none⟩) [lnB, lnA] := by
  refine .inr ⟨_, _, rfl, by simp, fun j hj => ?_⟩
  have : j = 0 ∨ j = 1 := by simp at hj; omega
  rcases this with rfl | rfl
  · exact lnB_at w
  · exact lnA_at w
theorem nown_at {w : World} {g : Nat} {l : List Int} (h : Own w g l) : At w g 0 l := ⟨h.1, fun j hj => by rw [Nat.zero_add]; exact (h.2 j hj).1⟩
set_option maxRecDepth 100000 in
set_option maxHeartbeats 1000000 in
theorem begun_any (w : World) (hS : Shp w) : Calls Tryd.prog 9 #[] w fun e w' => e = .returned (.bool true) ∧ Below w.heap.size w w' := by
  have HS := Lib.hid hS
  clear hS
  have HB0 := Lib.hid (kbelow_box w (.cells #[.int .i64 2, .int .i64 0, .string ⟨#[98]⟩, .slice none 0 0] 50))
  have HB1 := Lib.hid (HB0.out.alloc HB0.out.size rowBA)
  have HCA := Lib.hid (came_A (w.alloc (.cells #[.int .i64 2, .int .i64 0, .string ⟨#[98]⟩, .slice none 0 0] 50)))
  have HCB := Lib.hid (came_BA (w.alloc (.cells #[.int .i64 2, .int .i64 0, .string ⟨#[98]⟩, .slice none 0 0] 50)))
  unfold rowBA at HB1 HCA HCB
  go_enter Tryd.func9, Tryd.ntmps9
  go_wp2_with fail
  have hsz : (w.alloc (.cells #[.int .i64 2, .int .i64 0, .string ⟨#[98]⟩, .slice none 0 0] 50)).heap.size = w.heap.size + 1 := by simp
  rw [hsz] at HCA HCB
  refine (Lines_any (some ⟨w.heap.size + 1, 6, none⟩) 1 1 [lnA] none none none 0 0 0 0 0 0 knO _ (HS.out.below HB1.out) HCA.out rfl (by decide) (begun_known _) rfl rfl rfl).mono ?_
  rintro e w1 ⟨i, er, rfl, hbi, hb1⟩
  obtain ⟨rfl, rfl⟩ := begun_bind hbi
  have HB2 := Lib.hid (HB1.out.trans (hb1.mono HB1.out.size))
  have HCB2 := Lib.hid (HCB.out.below hb1)
  clear hbi hb1 HCA HCB HB0
  go_wp2_with fail
  refine (Uses_any (some ⟨w.heap.size + 1, 0, none⟩) 2 2 [lnB, lnA] 1 _ (HS.out.below HB2.out) HCB2.out rfl (by omega) (by decide)).mono ?_
  rintro e w2 ⟨v, er, rfl, hu, hb2⟩
  have HB3 := Lib.hid (HB2.out.trans (hb2.mono HB2.out.size))
  have HU : Hid (er = 0 ∧ ∃ B, Grow w2 B v [0]) := by
    rcases hu with ⟨h, _⟩ | ⟨_, h, _⟩ | ⟨_, h, p, hp, _, B, _, hg⟩
    · exact absurd begun_lines.2.1 h
    · simp at h
    · have : p = 1 := by omega
      subst this
      rw [begun_uses] at hg
      exact ⟨h, B, hg⟩
  obtain ⟨rfl, B, hg⟩ := HU.out
  obtain ⟨gb, c, rfl, _, hown⟩ := hg.own (by simp)
  have HOW := Lib.hid hown
  clear hu hb2 HU hg hown
  have HAT1 : Hid (At (w2.alloc (.cells #[.int .i64 0] 3)) gb 0 [0]) := by
    have h := nown_at HOW.out
    exact h.below (kbelow_box w2 (.cells #[.int .i64 0] 3)) h.1
  have HAT2 : Hid (At (w2.alloc (.cells #[.int .i64 0] 3)) w2.heap.size 0 [0]) := by
    refine ⟨by simp, fun j hj => ?_⟩
    have : j = 0 := by simp at hj; omega
    subst this
    simp [nth]
  go_wp2_with fail
  refine (same_yes gb 0 c w2.heap.size 0 1 [0] _ (by simp) HAT1.out HAT2.out).mono ?_
  rintro e w3 ⟨rfl, kd, rfl⟩
  go_wp2_with fail
  go_ret
  exact ⟨rfl, kbelow_dN (HB3.out.alloc HB3.out.size _) _⟩
end Go.Proofs.YtoingnhiipfnlaaDoor
