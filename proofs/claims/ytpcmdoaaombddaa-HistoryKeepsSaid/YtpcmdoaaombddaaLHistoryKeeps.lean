/-
  The walk of the law HistoryKeeps: it answers true at every list of rows, every row and all ints.
-/
import Derived.Test.YtpcmdoaaombddaaHBegun
import Derived.Test.YtpcmdoaaombddaaHRef
namespace Go.Proofs.Ytpcmdoaaombddaa
open Go.RowKit

theorem rnth_old (l : List Rw) (r : Rw) {k : Nat} (hk : k < l.length) : rnth (l ++ [r]) k = rnth l k := by
  unfold rnth
  rw [List.getD_eq_getElem?_getD, List.getD_eq_getElem?_getD, List.getElem?_append_left hk]
theorem rnth_new (l : List Rw) (r : Rw) : rnth (l ++ [r]) l.length = r := by
  unfold rnth
  rw [List.getD_eq_getElem?_getD, List.getElem?_append_right (Nat.le_refl _)]
  simp
theorem best_old (l : List Rw) (r : Rw) (d s : Int) : ∀ k, k ≤ l.length → best (l ++ [r]) d s k = best l d s k
  | 0, _ => rfl
  | k + 1, h => by rw [best, best, rnth_old l r (by omega), best_old l r d s k (by omega)]
theorem best_last (l : List Rw) (r : Rw) (d s : Int) : best (l ++ [r]) d s (l ++ [r]).length = if r.seen ≤ s ∧ r.frm ≤ d ∧ (best l d s l.length).frm ≤ r.frm then r else best l d s l.length := by
  rw [show (l ++ [r]).length = l.length + 1 from by simp, best, rnth_new, best_old l r d s _ (Nat.le_refl _)]
/-- What holds begins at the day or ahead of it. -/
theorem best_frm (l : List Rw) (d s : Int) (hd : 0 ≤ d) : ∀ k, (best l d s k).frm ≤ d
  | 0 => by show (-1 : Int) ≤ d; omega
  | k + 1 => by
    rw [best]
    split
    · rename_i h; exact h.2.1
    · exact best_frm l d s hd k
theorem best_new (l : List Rw) (r : Rw) (h : 0 ≤ r.frm) : best (l ++ [r]) r.frm r.seen (l ++ [r]).length = r := by
  rw [best_last, if_pos ⟨by omega, by omega, best_frm l _ _ h _⟩]
theorem best_keeps (l : List Rw) (r : Rw) (d s : Int) (h : ¬ (r.frm ≤ d ∧ r.seen ≤ s)) : best (l ++ [r]) d s (l ++ [r]).length = best l d s l.length := by
  rw [best_last, if_neg (fun e => h ⟨e.2.1, e.1⟩)]
theorem rowsB_last {l : List Rw} {r : Rw} (h : histE (l ++ [r]) = 0) : rowB r = true := by
  have := rowsB_nth (histE_ok h).2.1 (j := l.length) (by simp)
  rwa [rnth_new] at this
theorem rowB_parts {f s v : Int} {g : Bool} (h : rowB ⟨f, s, v, g⟩ = true) : dayB f = true ∧ dayB s = true ∧ (g = true → v = 0) := by
  unfold rowB at h
  simp only [Bool.and_eq_true, Bool.not_eq_true', Bool.and_eq_false_iff, decide_eq_false_iff_not] at h
  refine ⟨h.1.1.1, h.1.1.2, fun hg => ?_⟩
  rcases h.2 with h2 | h2
  · rw [hg] at h2; cases h2
  · simpa using h2
theorem dayE_of {l : List Rw} (h : histE l = 0) (q : List Int) : dayE l q = if q.all dayB = true then 0 else 3 := by
  unfold dayE
  rw [if_neg (by simp [h])]

set_option maxRecDepth 100000 in
set_option maxHeartbeats 2000000 in
theorem walk_historyKeeps (w : World) (a : Option Addr) (n cap : Nat) (l : List Rw) (hc : CameR w a l) (hn : l.length = n) (hm : n ≤ maxLen) (_ : ∀ r ∈ l, RowWf r) (f s v : Int) (g : Bool) (_ : (Lit.int .i64 f).wf = true) (_ : (Lit.int .i64 s).wf = true) (_ : (Lit.int .i64 v).wf = true) (d : Int) (_ : (Lit.int .i64 d).wf = true) (t : Int) (_ : (Lit.int .i64 t).wf = true) :
    Calls Try.prog 6 #[.slice a n cap, .agg #[.int .i64 f, .int .i64 s, .int .i64 v, .bool g], .int .i64 d, .int .i64 t] w fun e w' => e = .returned (.bool true) ∧ Below w.heap.size w w' := by
  have HC := Lib.hid hc
  have HN := Lib.hid hn
  have HM := Lib.hid hm
  clear hc hn hm
  have hb0 := (Below.refl w.heap.size w).alloc (Nat.le_refl _) (.cells #[.int .i64 f, .int .i64 s, .int .i64 v, .bool g] 36)
  have HX0 := Lib.hid (RBox.made w f s v g 36)
  have HB0 := Lib.hid hb0
  clear hb0
  go_enter Try.func6, Try.ntmps6
  go_wp2_with fail
  refine (begun_any _).mono ?_
  rintro e w1 ⟨rfl, hb1⟩
  have HB1 := Lib.hid (HB0.out.trans (hb1.mono HB0.out.size))
  have HR1 := Lib.hid (HX0.out.1.below hb1 HX0.out.lt)
  have hlt1 : w.heap.size < w1.heap.size := Nat.lt_of_lt_of_le (by simp) hb1.size
  clear hb1 HX0 HB0
  obtain ⟨x0, x1, x2, x3⟩ := HR1.out
  simp only [Nat.zero_add] at x1 x2 x3
  go_wp2_with fail
  refine (Put_any a n cap l f s v g w1 (HC.out.below HB1.out) HN.out HM.out).mono ?_
  rintro e w2 ⟨x, er, rfl, hp, hb2⟩
  have HB2 := Lib.hid (HB1.out.trans (hb2.mono HB1.out.size))
  have HR2 := Lib.hid (HR1.out.below hb2 hlt1)
  have hlt2 : w.heap.size < w2.heap.size := Nat.lt_of_lt_of_le hlt1 hb2.size
  clear hb2 x0 x1 x2 x3 HR1
  rcases hp with ⟨hz, rfl, rfl⟩ | ⟨hz, hz2, rfl, rfl⟩ | ⟨hz, hz2, rfl, G, c2, rfl, hr⟩
  · have hzB : decide (histE l = 0) = false := decide_eq_false hz
    go_wp2_with fail
    go_ret
    exact ⟨rfl, HB2.out⟩
  · have hzB : decide (histE (l ++ [⟨f, s, v, g⟩]) = 0) = false := decide_eq_false hz2
    go_wp2_with fail
    go_ret
    exact ⟨rfl, HB2.out⟩
  · have HR := Lib.hid hr
    clear hr
    obtain ⟨hdf, hds, hgv⟩ := rowB_parts (rowsB_last hz2)
    have hnl : (l ++ [(⟨f, s, v, g⟩ : Rw)]).length = l.length + 1 := by simp
    have hl50 := (histE_ok hz2).1
    have HNEW := Lib.hid (best_new l ⟨f, s, v, g⟩ (dayB_iff.1 hdf).1)
    have HKEEP := Lib.hid (fun h => best_keeps l ⟨f, s, v, g⟩ d t h)
    have HD1 : Hid (dayE (l ++ [⟨f, s, v, g⟩]) [f, s] = 0) := by unfold Hid; rw [dayE_of hz2]; simp [hdf, hds]
    have HD2 : Hid (dayE (l ++ [⟨f, s, v, g⟩]) [d, t] = dayE l [d, t]) := by unfold Hid; rw [dayE_of hz2, dayE_of hz]
    obtain ⟨x0, x1, x2, x3⟩ := HR2.out
    simp only [Nat.zero_add] at x1 x2 x3
    rw [show l.length + 1 = n + 1 from by rw [HN.out]]
    go_wp2_with fail
    refine (At_any (some ⟨G, 0, none⟩) (n + 1) c2 (l ++ [⟨f, s, v, g⟩]) f s w2 (.inr ⟨G, 0, rfl, HR.out⟩) (by rw [hnl, HN.out]) (by unfold maxLen; have := HN.out; omega)).mono ?_
    rintro e w3 ⟨v1, b1, e1, rfl, hA1, hb3⟩
    have HB3 := Lib.hid (HB2.out.trans (hb3.mono HB2.out.size))
    have HR3 := Lib.hid (HR2.out.below hb3 hlt2)
    have HQ3 := Lib.hid (HR.out.below hb3 HR.out.1)
    have hlt3 : w.heap.size < w3.heap.size := Nat.lt_of_lt_of_le hlt2 hb3.size
    obtain ⟨rfl, rfl, rfl⟩ : v = v1 ∧ b1 = !g ∧ e1 = 0 := by
      rcases hA1 with ⟨h, _⟩ | ⟨_, h1, h2, h3⟩
      · exact absurd HD1.out h
      · rw [HNEW.out] at h1 h2
        refine ⟨?_, h2, h3⟩
        rw [h1]
        unfold atV
        split
        · rename_i hg; exact hgv hg
        · rfl
    clear hA1 hb3 HNEW HD1 x0 x1 x2 x3 HR2 hgv
    obtain ⟨x0, x1, x2, x3⟩ := HR3.out
    simp only [Nat.zero_add] at x1 x2 x3
    have hgg : ((!g) == g) = false := by cases g <;> rfl
    go_wp2_with fail
    refine (At_any a n cap l d t w3 (HC.out.below HB3.out) HN.out HM.out).mono ?_
    rintro e w4 ⟨v2, b2, e2, rfl, hA2, hb4⟩
    have HB4 := Lib.hid (HB3.out.trans (hb4.mono HB3.out.size))
    have HR4 := Lib.hid (HR3.out.below hb4 hlt3)
    have HQ4 := Lib.hid (HQ3.out.below hb4 HQ3.out.1)
    have hlt4 : w.heap.size < w4.heap.size := Nat.lt_of_lt_of_le hlt3 hb4.size
    have HA2 := Lib.hid hA2
    clear hb4 hA2 x0 x1 x2 x3 HR3 HQ3
    go_wp2_with fail
    refine (At_any (some ⟨G, 0, none⟩) (n + 1) c2 (l ++ [⟨f, s, v, g⟩]) d t w4 (.inr ⟨G, 0, rfl, HQ4.out⟩) (by rw [hnl, HN.out]) (by unfold maxLen; have := HN.out; omega)).mono ?_
    rintro e w5 ⟨v3, b3, e3, rfl, hA3, hb5⟩
    have HB5 := Lib.hid (HB4.out.trans (hb5.mono HB4.out.size))
    have HR5 := Lib.hid (HR4.out.below hb5 hlt4)
    have HA3 := Lib.hid hA3
    clear hb5 hA3 HR4 HQ4
    obtain ⟨x0, x1, x2, x3⟩ := HR5.out
    simp only [Nat.zero_add] at x1 x2 x3
    by_cases hz5 : dayE l [d, t] = 0
    · have hz6 := HD2.out.trans hz5
      obtain ⟨hv2, hb2, rfl⟩ : v2 = atV (best l d t l.length) ∧ b2 = atS (best l d t l.length) ∧ e2 = 0 := by
        rcases HA2.out with ⟨h, _⟩ | ⟨_, h1, h2, h3⟩
        · exact absurd hz5 h
        · exact ⟨h1, h2, h3⟩
      obtain ⟨hv3, hb3, rfl⟩ : v3 = atV (best (l ++ [⟨f, s, v, g⟩]) d t (l ++ [(⟨f, s, v, g⟩ : Rw)]).length) ∧ b3 = atS (best (l ++ [⟨f, s, v, g⟩]) d t (l ++ [(⟨f, s, v, g⟩ : Rw)]).length) ∧ e3 = 0 := by
        rcases HA3.out with ⟨h, _⟩ | ⟨_, h1, h2, h3⟩
        · exact absurd hz6 h
        · exact ⟨h1, h2, h3⟩
      have HV : Hid (¬ (f ≤ d ∧ s ≤ t) → v3 = v2 ∧ b3 = b2) := fun h => by
        rw [hv2, hb2, hv3, hb3, HKEEP.out h]
        exact ⟨rfl, rfl⟩
      clear hv2 hb2 hv3 hb3 HA2 HA3 HKEEP hz6 hz5
      by_cases hf : f ≤ d
      · by_cases hs : s ≤ t
        · go_wp2_with fail
          all_goals go_ret
          all_goals exact ⟨cret_bool (by simp), HB5.out⟩
        · obtain ⟨rfl, rfl⟩ := HV.out (fun h => hs h.2)
          have hsB : decide (s ≤ t) = false := decide_eq_false hs
          go_wp2_with fail
          all_goals go_ret
          all_goals exact ⟨cret_bool (by simp), HB5.out⟩
      · obtain ⟨rfl, rfl⟩ := HV.out (fun h => hf h.1)
        have hfB : decide (f ≤ d) = false := decide_eq_false hf
        go_wp2_with fail
        all_goals go_ret
        all_goals exact ⟨cret_bool (by simp), HB5.out⟩
    · have hz6 : dayE (l ++ [⟨f, s, v, g⟩]) [d, t] ≠ 0 := by rw [HD2.out]; exact hz5
      obtain rfl : e2 = dayE l [d, t] := by
        rcases HA2.out with ⟨_, _, _, h3⟩ | ⟨h, _⟩
        · exact h3
        · exact absurd h hz5
      obtain rfl : e3 = dayE l [d, t] := by
        rcases HA3.out with ⟨_, _, _, h3⟩ | ⟨h, _⟩
        · exact h3.trans HD2.out
        · exact absurd h hz6
      have hz5B : decide (dayE l [d, t] = 0) = false := decide_eq_false hz5
      go_wp2_with fail
      all_goals go_ret
      all_goals exact ⟨cret_bool (by simp), HB5.out⟩
end Go.Proofs.Ytpcmdoaaombddaa
