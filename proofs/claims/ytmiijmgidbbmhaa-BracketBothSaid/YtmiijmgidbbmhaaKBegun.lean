/-
  What must be in any case (bracketBegun): its walk: it is so.
-/
import Derived.Test.YtmiijmgidbbmhaaKTop
namespace Go.Proofs.Ytmiijmgidbbmhaa
open Go.RowKit

def bl : List Bk := [⟨0, 1000⟩, ⟨100, 2000⟩]
theorem bl_name : NameP ⟨#[116]⟩ := by decide +kernel
theorem bl_right : Right bl := ⟨by decide, by decide, by decide, by decide, by decide⟩
theorem bl_ok : tblE ⟨#[116]⟩ bl = 0 := tblE_yes bl_name (by decide) (by decide) (by decide) (by decide)
theorem bl_tax : taxR ⟨#[116]⟩ bl 200 = 30 ∧ baseE ⟨#[116]⟩ bl 200 = 0 := by
  have h : baseE ⟨#[116]⟩ bl 200 = 0 := baseE_yes bl_ok (by decide)
  refine ⟨?_, h⟩
  unfold taxR
  rw [if_pos h]
  decide
theorem bl_least : LeastIs bl 90 100 := by
  refine ⟨by omega, by omega, fun x h1 h2 => ?_, fun _ => by decide⟩
  cases h : okB bl 90 x
  · rfl
  · have := okB_up bl_right (show x ≤ 99 by omega) h
    exact absurd this (by decide)
theorem bl_gross {g e : Int} (h : GrossIs ⟨#[116]⟩ bl 90 g e) : g = 100 ∧ e = 0 := by
  rcases h with ⟨h, _⟩ | ⟨_, ⟨h, _⟩ | ⟨_, i, hi, h⟩⟩
  · exact absurd bl_ok h
  · omega
  · obtain rfl := hi.unique bl_least
    omega
set_option maxRecDepth 100000 in
set_option maxHeartbeats 1000000 in
theorem begun_any (w : World) : Calls Try.prog 12 #[] w fun e w' => e = .returned (.bool true) ∧ Below w.heap.size w w' := by
  have HB0 := Lib.hid ((kbelow_box w (.cells #[.int .i64 0, .int .i64 1000, .int .i64 100, .int .i64 2000] 43)).alloc (kbelow_box w (.cells #[.int .i64 0, .int .i64 1000, .int .i64 100, .int .i64 2000] 43)).size (.cells #[.string ⟨#[116]⟩, .slice (some ⟨w.heap.size, 0, none⟩) 2 2] 24))
  go_enter Try.func12, Try.ntmps12
  go_wp2_with fail
  have HAT : Hid (CameB ((w.alloc (.cells #[.int .i64 0, .int .i64 1000, .int .i64 100, .int .i64 2000] 43)).alloc (.cells #[.string ⟨#[116]⟩, .slice (some ⟨w.heap.size, 0, none⟩) 2 2] 24)) (some ⟨w.heap.size, 0, none⟩) bl) := by
    refine .inr ⟨w.heap.size, 0, rfl, by simp; omega, fun j hj => ?_⟩
    have hj' : j < 2 := hj
    rcases (show j = 0 ∨ j = 1 by omega) with rfl | rfl
    · exact ⟨by simp [bnth, bl], by simp [bnth, bl]⟩
    · exact ⟨by simp [bnth, bl], by simp [bnth, bl]⟩
  have HT0 : Hid (TIs ((w.alloc (.cells #[.int .i64 0, .int .i64 1000, .int .i64 100, .int .i64 2000] 43)).alloc (.cells #[.string ⟨#[116]⟩, .slice (some ⟨w.heap.size, 0, none⟩) 2 2] 24)) (w.heap.size + 1) ⟨#[116]⟩ (some ⟨w.heap.size, 0, none⟩) 2 2) := by
    refine ⟨?_, ?_, ?_⟩ <;> simp
  refine (Tax_any ⟨#[116]⟩ _ 2 2 bl 200 _ HAT.out rfl (by unfold maxLen; omega)).mono ?_
  rintro e w1 ⟨rfl, hb1⟩
  rw [bl_tax.1, bl_tax.2]
  have HB1 := Lib.hid (HB0.out.trans (hb1.mono HB0.out.size))
  have HT1 := Lib.hid (HT0.out.below hb1 HT0.out.1)
  have HC1 := Lib.hid (HAT.out.below hb1)
  clear hb1 HAT HT0
  obtain ⟨_, x0, x1⟩ := HT1.out
  go_wp2_with fail
  refine (Gross_any ⟨#[116]⟩ _ 2 2 bl 90 _ HC1.out rfl (by unfold maxLen; omega)).mono ?_
  rintro e w2 ⟨g, er, rfl, hg, hb2⟩
  obtain ⟨rfl, rfl⟩ := bl_gross hg
  have HB2 := Lib.hid (HB1.out.trans (hb2.mono HB1.out.size))
  clear hb2 hg x0 x1
  go_wp2_with fail
  go_ret
  exact ⟨rfl, HB2.out⟩
end Go.Proofs.Ytmiijmgidbbmhaa
