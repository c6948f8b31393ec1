/-
  Promise Q: what must be in any case: the walk of ledgerBegun.
-/
import Derived.Test.YtdgcfakbmhchdaaQPostW
namespace Go.Proofs.Ytdgcfakbmhchdaa
open Go.RowKit

def ps0 : List Am := [⟨⟨#[97]⟩, 5⟩, ⟨⟨#[98]⟩, -5⟩]
def e0 : En := ⟨1, ps0⟩
theorem begunE : postE [] e0 = 0 := by decide +kernel
theorem begunA : askE [e0] ⟨#[98]⟩ 0 1 = 0 := by decide +kernel
theorem begunV : balV [e0] ⟨#[98]⟩ 1 = -5 := by decide +kernel
theorem begun_ps (w : World) : PsAt (w.alloc (.cells #[.string ⟨#[97]⟩, .int .i64 5, .string ⟨#[98]⟩, .int .i64 (-5)] 60)) (some ⟨w.heap.size, 0, none⟩) ps0 := by
  refine ⟨.inr ⟨_, _, rfl, by simp, fun j hj => ?_⟩, fun j hj => ?_, by decide⟩
  · match j, hj with
    | 0, _ => exact ⟨by simp [ps0, anth], by simp [ps0, anth]⟩
    | 1, _ => exact ⟨by simp [ps0, anth], by simp [ps0, anth]⟩
    | j + 2, h => exact absurd h (by simp [ps0])
  · match j, hj with
    | 0, _ => decide +kernel
    | 1, _ => decide +kernel
    | j + 2, h => exact absurd h (by simp [ps0])
set_option maxRecDepth 100000 in
set_option maxHeartbeats 2000000 in
theorem ledgerBegun_any (w : World) : Calls Try.prog 11 #[] w fun e w' => e = .returned (.bool true) ∧ Go.RowKit.Below w.heap.size w w' := by
  have HP := Lib.hid ((begun_ps w).below (kbelow_box _ (.cells #[.int .i64 1, .slice (some ⟨w.heap.size, 0, none⟩) 2 2] 29)))
  have HB0 := Lib.hid (((Below.refl w.heap.size w).alloc (Nat.le_refl _) (.cells #[.string ⟨#[97]⟩, .int .i64 5, .string ⟨#[98]⟩, .int .i64 (-5)] 60)).alloc (by simp) (.cells #[.int .i64 1, .slice (some ⟨w.heap.size, 0, none⟩) 2 2] 29))
  go_enter Try.func11, Try.ntmps11
  go_wp2_with fail
  refine (Post_any none 0 0 [] 1 _ 2 2 ps0 _ (.inl rfl) rfl HP.out rfl (by omega)).mono ?_
  rintro e w1 ⟨v, rfl, hret, hb1⟩
  obtain ⟨x, c, e, hc⟩ : EnsIn w1 v [e0] := hret.2 begunE
  have e' : v = .slice x 1 c := e
  subst e'
  rw [show postE [] ⟨1, ps0⟩ = 0 from begunE]
  have HC := Lib.hid hc
  have HB1 := Lib.hid (HB0.out.trans (hb1.mono HB0.out.size))
  clear hret hc hb1 e
  go_wp2_with fail
  refine (Balance_any x 1 c [e0] ⟨#[98]⟩ 1 _ HC.out rfl).mono ?_
  rintro e w2 ⟨rfl, hb2⟩
  rw [begunA, begunV]
  have HB2 := Lib.hid (HB1.out.trans (hb2.mono HB1.out.size))
  clear hb2
  go_wp2_with fail
  go_ret
  exact ⟨kret_bool (by first | rfl | simp), HB2.out⟩
end Go.Proofs.Ytdgcfakbmhchdaa
