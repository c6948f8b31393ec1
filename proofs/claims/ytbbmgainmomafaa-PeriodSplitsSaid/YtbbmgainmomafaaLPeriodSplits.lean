/-
  The walk of the law PeriodSplits: it answers true at every int, period and list of ints.
-/
import Derived.Test.YtbbmgainmomafaaPBegun
import Derived.Test.YtbbmgainmomafaaPSplitR
namespace Go.Proofs.Ytbbmgainmomafaa
open Go.RowKit Mny

theorem shareLens (T f t : Int) (l : List Int) : (shareL T (lens f t l)).length = l.length + 1 := by rw [shareL_length, lens_length]
theorem own_below {w w' : World} {g : Nat} {l : List Int} (h : Own w g l) (hb : Below w.heap.size w w') : Own w' g l :=
  ⟨Nat.lt_of_lt_of_le h.1 hb.size, fun j hj => ⟨(hb.cell (p := ⟨g, j, none⟩) h.1).trans (h.2 j hj).1, (hb.frozen (p := ⟨g, j, none⟩) h.1).trans (h.2 j hj).2⟩⟩
set_option maxRecDepth 100000 in
set_option maxHeartbeats 1000000 in
theorem walk_periodSplits (w : World) (T : Int) (_ : (Lit.int .i64 T).wf = true) (f t : Int) (_ : (Lit.int .i64 f).wf = true) (_ : (Lit.int .i64 t).wf = true) (a : Option Addr) (n cap : Nat) (l : List Int) (hc : Came w a l) (hn : l.length = n) (hm : n ≤ maxLen) (_ : ∀ x ∈ l, (Lit.int .i64 x).wf = true) :
    Calls Try.prog 9 #[.int .i64 T, .agg #[.int .i64 f, .int .i64 t], .slice a n cap] w fun e w' => e = .returned (.bool true) ∧ Below w.heap.size w w' := by
  have HC := Lib.hid hc
  have HN := Lib.hid hn
  have HM := Lib.hid hm
  have HB0 := Lib.hid ((Below.refl w.heap.size w).alloc (Nat.le_refl _) (.cells #[.int .i64 f, .int .i64 t] 29))
  have HX0 := Lib.hid (PBox.made w f t 29)
  clear hc hn hm
  go_enter Try.func9, Try.ntmps9
  go_wp2_with fail
  refine (Split_any T f t a n cap l _ (HC.out.below HB0.out) HN.out HM.out).mono ?_
  rintro e w1 ⟨v, er, rfl, hv, hb1⟩
  have HB1 := Lib.hid (HB0.out.trans (hb1.mono HB0.out.size))
  have HX1 := Lib.hid (HX0.out.below hb1 (by simp))
  have HV1 := Lib.hid hv
  clear hb1 hv HX0 HB0
  obtain ⟨x0, x1⟩ := HX1.out
  go_wp2_with fail
  refine (splitParts_ref T f t a n cap l w1 (HC.out.below HB1.out) HN.out HM.out).mono ?_
  rintro e w2 ⟨v', er', rfl, hv', hb2⟩
  have HB12 := Lib.hid hb2
  have HB2 := Lib.hid (HB1.out.trans (hb2.mono HB1.out.size))
  clear hb2 x0 x1
  rcases HV1.out with ⟨hE, rfl, rfl⟩ | ⟨hE, rfl, g, c, rfl, hge, ho⟩
  · obtain ⟨rfl, rfl⟩ : v' = .slice none 0 0 ∧ er' = splE T f t l := by
      rcases hv' with ⟨_, h1, h2⟩ | ⟨h, _⟩
      · exact ⟨h1, h2⟩
      · exact absurd h hE
    clear hv'
    go_wp2_with fail
    refine (begun_any _).mono ?_
    rintro e w3 ⟨rfl, hb3⟩
    have HB3 := Lib.hid (HB2.out.trans (hb3.mono HB2.out.size))
    clear hb3
    go_wp2_with fail
    refine (numbersAre_bad _ _ hE).mono ?_
    rintro e w4 ⟨rfl, h4⟩
    subst w4
    go_wp2_with fail
    go_ret
    exact ⟨rfl, HB3.out⟩
  · obtain ⟨rfl, g', c', rfl, ho'⟩ : er' = 0 ∧ ∃ g' c', v' = .slice (some ⟨g', 0, none⟩) (l.length + 1) c' ∧ Own w2 g' (shareL T (lens f t l)) := by
      rcases hv' with ⟨h, _⟩ | ⟨_, h1, g', c', h2, _, h3⟩
      · exact absurd hE h
      · exact ⟨h1, g', c', h2, h3⟩
    have HO2 := Lib.hid (own_below ho HB12.out)
    have HO2' := Lib.hid ho'
    clear hv' ho ho'
    have hl20 : l.length < 20 := by
      unfold splE at hE
      split at hE
      · cases hE
      · split at hE
        · cases hE
        · omega
    rw [← shareLens T f t l]
    clear hE
    go_wp2_with fail
    refine (begun_any _).mono ?_
    rintro e w3 ⟨rfl, hb3⟩
    have HB3 := Lib.hid (HB2.out.trans (hb3.mono HB2.out.size))
    have HO3 := Lib.hid (own_below HO2.out hb3)
    have HO3' := Lib.hid (own_below HO2'.out hb3)
    clear hb3
    have HL := Lib.hid (shareLens T f t l)
    generalize shareL T (lens f t l) = L at *
    go_wp2_with fail
    refine (numbersAre_ok g c g' c' L w3 (by rw [HL.out]; omega) (own_at HO3.out) (own_at HO3'.out)).mono ?_
    rintro e w4 ⟨rfl, q, h4⟩
    subst w4
    go_wp2_with fail
    go_ret
    exact ⟨rfl, below_dN HB3.out _⟩
end Go.Proofs.Ytbbmgainmomafaa
