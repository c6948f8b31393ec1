/-
  The walk of the law HoursSplits: it answers true at every input.
-/
import Derived.Test.YtikkeidapgmcnaaUSplitW
namespace Go.Proofs.Ytikkeidapgmcnaa
open Go.RowKit

/-- The reference's Same, at lists that are the same. -/
theorem same_came (x y : Option Addr) (n c d : Nat) (l : List Int) (w : World) (hn : l.length = n) (hl : n ≤ 1000000000) (h1 : Came w x l) (h2 : Came w y l) :
    Calls Try.prog 21 #[.slice x n c, .slice y n d] w fun e w' => e = .returned (.bool true) ∧ ∃ k, w' = w.drewN k := by
  by_cases h0 : n = 0
  · subst h0
    clear h1 h2 hn
    go_enter Try.func21, Try.ntmps21
    go_wp2
    go_loop [5] (fun i => i = .int .i64 0) (fun _ => 0)
    case atStart => rfl
    case round =>
      subst hrel
      go_wp2
      go_ret
      exact ⟨rfl, 0, rfl⟩
  · rcases h1 with h | ⟨b1, o1, rfl, h1⟩
    · omega
    rcases h2 with h | ⟨b2, o2, rfl, h2⟩
    · omega
    have := same_yes b1 o1 c b2 o2 d l w (by omega) h1 h2
    rw [hn] at this
    exact this
theorem numbersAre_bad (e : Int) (w : World) (he : e ≠ 0) : Calls Try.prog 20 #[.slice none 0 0, .int .i64 e, .int .i64 e, .slice none 0 0] w fun r w' => r = .returned (.bool true) ∧ ∃ k, w' = w.drewN k := by
  have hb : (e != 0) = true := by simp [he]
  have HS := Lib.hid (same_came none none 0 0 0 [] w rfl (by omega) (.inl rfl) (.inl rfl))
  go_enter Try.func20, Try.ntmps20
  go_wp2_with (go_at_call 21; refine HS.out.mono ?_; rintro e w' ⟨rfl, k, rfl⟩)
  go_ret
  exact ⟨uret_bool (by simp), _, rfl⟩
theorem numbersAre_ok (x y : Option Addr) (n c d : Nat) (l : List Int) (w : World) (hn : l.length = n) (hl : n ≤ 1000000000) (h1 : Came w x l) (h2 : Came w y l) :
    Calls Try.prog 20 #[.slice x n c, .int .i64 0, .int .i64 0, .slice y n d] w fun r w' => r = .returned (.bool true) ∧ ∃ k, w' = w.drewN k := by
  have HS := Lib.hid (same_came x y n c d l w hn hl h1 h2)
  clear h1 h2 hl hn
  go_enter Try.func20, Try.ntmps20
  go_wp2_with (go_at_call 21; refine HS.out.mono ?_; rintro e w' ⟨rfl, k, rfl⟩)
  go_ret
  exact ⟨rfl, _, rfl⟩
set_option maxRecDepth 100000 in
set_option maxHeartbeats 2000000 in
theorem walk_hoursSplits (a : Option Addr) (n cap : Nat) (l : List Int) {w : World} (hc : Came w a l) (hn : l.length = n) (hm : n ≤ maxLen) (_ : ∀ x ∈ l, (Lit.int .i64 x).wf = true) (D W : Int) (_ : (Lit.int .i64 D).wf = true) (_ : (Lit.int .i64 W).wf = true) :
    Calls Try.prog 6 #[.slice a n cap, .agg #[.int .i64 D, .int .i64 W]] w fun e w' => e = .returned (.bool true) ∧ Below w.heap.size w w' := by
  have HM := Lib.hid hm
  have HN := Lib.hid hn
  have HB0 := Lib.hid (ubelow_box w (.cells #[.int .i64 D, .int .i64 W] 39))
  have HC := Lib.hid (hc.below HB0.out)
  have HX0 : Hid (OBox (w.alloc (.cells #[.int .i64 D, .int .i64 W] 39)) w.heap.size D W) := ⟨by simp, by simp⟩
  clear hm hc hn
  go_enter Try.func6, Try.ntmps6
  go_wp2_with fail
  refine (Split_any a n cap l D W _ HC.out HN.out HM.out).mono ?_
  rintro e w1 ⟨u, v, er, rfl, ⟨rfl, hp⟩, hb⟩
  have HB1 := Lib.hid (HB0.out.trans (hb.mono HB0.out.size))
  have HC1 := Lib.hid (HC.out.below hb)
  have HX1 := Lib.hid (HX0.out.below hb (by simp))
  clear hb
  obtain ⟨o0, o1⟩ := HX1.out
  rcases hp with ⟨hE, rfl, rfl⟩ | ⟨hE, g, h, rfl, rfl, h1, h2⟩
  · go_wp2_with fail
    refine (splitHours_ref a n cap l D W _ HC1.out HN.out HM.out).mono ?_
    rintro e w2 ⟨u2, v2, er2, rfl, ⟨rfl, hp2⟩, hb⟩
    have HB2 := Lib.hid (HB1.out.trans (hb.mono HB1.out.size))
    clear hb o0 o1
    rcases hp2 with ⟨_, rfl, rfl⟩ | ⟨hE2, _⟩
    · go_wp2_with fail
      refine (begun_any _).mono ?_
      rintro e w3 ⟨rfl, hb⟩
      have HB3 := Lib.hid (HB2.out.trans (hb.mono HB2.out.size))
      clear hb
      go_wp2_with fail
      refine (numbersAre_bad _ _ hE).mono ?_
      rintro e w' ⟨rfl, k, rfl⟩
      go_wp2_with fail
      refine (same_came none none 0 0 0 [] _ rfl (by omega) (.inl rfl) (.inl rfl)).mono ?_
      rintro e w' ⟨rfl, k', rfl⟩
      go_wp2_with fail
      go_ret
      exact ⟨rfl, ubelow_dN HB3.out _⟩
    · exact absurd hE2 hE
  · have HU1 := Lib.hid (show Came w1 (some ⟨g, 0, none⟩) (usL l D W l.length) from .inr ⟨g, 0, rfl, h1.at⟩)
    have HV1 := Lib.hid (show Came w1 (some ⟨h, 0, none⟩) (ovL l D W l.length) from .inr ⟨h, 0, rfl, h2.at⟩)
    have hn7 : n ≤ 7 := by have := (splitE_zero hE).1; rw [HN.out] at this; exact this
    have HLU : Hid ((usL l D W l.length).length = n) := by unfold Hid usL; rw [fillTo_length, HN.out]
    have HLV : Hid ((ovL l D W l.length).length = n) := by unfold Hid ovL; rw [fillTo_length, HN.out]
    rw [hE, HN.out]
    clear h1 h2
    go_wp2_with fail
    refine (splitHours_ref a n cap l D W _ HC1.out HN.out HM.out).mono ?_
    rintro e w2 ⟨u2, v2, er2, rfl, ⟨rfl, hp2⟩, hb⟩
    have HB2 := Lib.hid (HB1.out.trans (hb.mono HB1.out.size))
    have HU2 := Lib.hid (HU1.out.below hb)
    have HV2 := Lib.hid (HV1.out.below hb)
    clear hb o0 o1 HU1 HV1
    rcases hp2 with ⟨hE2, _⟩ | ⟨_, x, c, y, d, rfl, rfl, hx, hy⟩
    · exact absurd hE hE2
    · have HX2 := Lib.hid hx
      have HY2 := Lib.hid hy
      rw [hE, HN.out]
      clear hx hy
      go_wp2_with fail
      refine (begun_any _).mono ?_
      rintro e w3 ⟨rfl, hb⟩
      have HB3 := Lib.hid (HB2.out.trans (hb.mono HB2.out.size))
      have HU3 := Lib.hid (HU2.out.below hb)
      have HV3 := Lib.hid (HV2.out.below hb)
      have HX3 := Lib.hid (HX2.out.below hb)
      have HY3 := Lib.hid (HY2.out.below hb)
      clear hb HU2 HV2 HX2 HY2
      go_wp2_with fail
      refine (numbersAre_ok _ _ n _ _ _ _ HLU.out (by omega) HU3.out HX3.out).mono ?_
      rintro e w' ⟨rfl, k, rfl⟩
      go_wp2_with fail
      refine (same_came _ _ n _ _ _ (w3.drewN k) HLV.out (by omega) HV3.out HY3.out).mono ?_
      rintro e w' ⟨rfl, k', rfl⟩
      go_wp2_with fail
      go_ret
      exact ⟨rfl, ubelow_dN HB3.out _⟩
end Go.Proofs.Ytikkeidapgmcnaa
