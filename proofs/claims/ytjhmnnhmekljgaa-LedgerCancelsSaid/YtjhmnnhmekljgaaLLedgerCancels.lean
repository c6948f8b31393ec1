/-
  The walk of the law LedgerCancels: it answers true at every input.
-/
import Derived.Test.YtjhmnnhmekljgaaQTrial
namespace Go.Proofs.Ytjhmnnhmekljgaa
open Go.RowKit

theorem sumN_neg (s : ByteArray) : ∀ l : List Am, sumN s (neg l) = - sumN s l
  | [] => rfl
  | a :: l => by
    have ih := sumN_neg s l
    unfold neg at ih ⊢
    rw [List.map_cons, sumN, sumN, ih]
    split <;> (first | omega | (dsimp only; omega))
theorem sumN_one (s : ByteArray) (e : En) (f t : Int) : sumN s (pst [e] f t) = if dayIn f t e = true then sumN s e.ps else 0 := by
  unfold pst
  by_cases h : dayIn f t e = true
  · rw [if_pos h]; simp [h]
  · rw [if_neg h]; simp [h, sumN]
theorem sumN_cancel (s : ByteArray) (l : List En) (d : Int) (ps : List Am) (f t : Int) : sumN s (pst (l ++ [⟨d, ps⟩] ++ [⟨d, neg ps⟩]) f t) = sumN s (pst l f t) := by
  rw [sumN_pst, sumN_pst, sumN_one, sumN_one]
  have e : dayIn f t ⟨d, neg ps⟩ = dayIn f t ⟨d, ps⟩ := rfl
  rw [e]
  by_cases h : dayIn f t ⟨d, ps⟩ = true
  · rw [if_pos h, if_pos h]
    show _ + sumN s ps + sumN s (neg ps) = _
    rw [sumN_neg]
    omega
  · rw [if_neg h, if_neg h]; omega
theorem sumA_neg : ∀ l : List Am, sumA (neg l) = - sumA l
  | [] => rfl
  | a :: l => by
    have ih := sumA_neg l
    unfold neg at ih ⊢
    rw [List.map_cons, sumA, sumA, ih]
    show -a.mon + -sumA l = _
    omega
theorem enE_neg {d : Int} {ps : List Am} (h : enE ⟨d, ps⟩ = 0) : enE ⟨d, neg ps⟩ = 0 := by
  obtain ⟨h1, h2, h3, h4, h5, h6⟩ := enE_ok h
  have q4 : ansB (neg ps) = true := by
    unfold ansB neg at *
    rw [List.all_map]
    exact h4
  have q5 : assB (neg ps) = true := by
    unfold assB neg at *
    rw [List.all_map, List.all_eq_true]
    intro x hx
    have hx' := List.all_eq_true.1 h5 x hx
    unfold asB someB monB at *
    simp at hx' ⊢
    omega
  unfold enE
  rw [if_neg (by rw [h1]; decide), if_neg (by rw [neg_len]; show ¬ (ps.length < 2 ∨ 20 < ps.length); have : 2 ≤ ps.length := h2; have : ps.length ≤ 20 := h3; omega), if_neg (by rw [q4]; decide), if_neg (by rw [q5]; decide), if_pos (by rw [sumA_neg]; have : sumA ps = 0 := h6; omega)]
/-- Behind an entry its turn may be posted, if there is room. -/
theorem jrE_turn {l : List En} {d : Int} {ps : List Am} (h : jrE (l ++ [⟨d, ps⟩]) = 0) : jrE (l ++ [⟨d, ps⟩] ++ [⟨d, neg ps⟩]) = 0 ∨ jrE (l ++ [⟨d, ps⟩] ++ [⟨d, neg ps⟩]) = 2 := by
  obtain ⟨a1, a2, a3⟩ := jrE_ok h
  by_cases hl : 100 < (l ++ [(⟨d, ps⟩ : En)] ++ [(⟨d, neg ps⟩ : En)]).length
  · right
    unfold jrE
    rw [if_pos hl]
  · left
    refine jrE_of (by omega) (fun r hr => ?_) ?_
    · rcases List.mem_append.1 hr with hr | hr
      · exact a2 r hr
      · rw [List.mem_singleton] at hr
        subst hr
        exact enE_neg (a2 _ (by simp))
    · rw [upD_iff] at a3 ⊢
      intro j hj
      simp at hj
      by_cases hjl : j + 1 < (l ++ [(⟨d, ps⟩ : En)]).length
      · rw [enth_app _ _ _ (by omega), enth_app _ _ _ hjl]
        exact a3 j hjl
      · have e : j = l.length := by simp at hjl; omega
        subst e
        rw [enth_app _ _ _ (by simp), enth_last]
        have := enth_last (l ++ [(⟨d, ps⟩ : En)]) ⟨d, neg ps⟩
        rw [List.length_append, List.length_singleton] at this
        rw [this]
        exact Int.le_refl _
set_option maxRecDepth 100000 in
set_option maxHeartbeats 8000000 in
theorem walk_ledgerCancels (a : Option Addr) (n cap : Nat) (l : List En) {w : World} (hc : CameE w a l) (hn : l.length = n) (_ : n ≤ maxLen) (_ : ∀ j, j < n → (Lit.int .i64 (enth l j).day).wf = true) (_ : n * 32 ≤ 140737488351232) (r : En) (ax : Option Addr) (cx : Nat) (hp : PsAt w ax r.ps) (_ : (Lit.int .i64 r.day).wf = true) (h24 : r.ps.length * 24 ≤ 140737488351232) (day : Int) (_ : (Lit.int .i64 day).wf = true) :
    Calls Try.prog 9 #[.slice a n cap, .agg #[.int .i64 r.day, .slice ax r.ps.length cx], .int .i64 day] w fun e w' => e = .returned (.bool true) ∧ Go.RowKit.Below w.heap.size w w' := by
  obtain ⟨d, ps⟩ := r
  obtain ⟨m, hm⟩ : ∃ m, ps.length = m := ⟨_, rfl⟩
  have HC := Lib.hid hc
  have HN := Lib.hid hn
  have HP := Lib.hid hp
  have HM := Lib.hid hm
  have H24 : Hid (m * 24 ≤ 140737488355328) := Lib.hid (by have : ps.length * 24 ≤ 140737488351232 := h24; omega)
  clear hp hc hn h24
  show Calls Try.prog 9 #[.slice a n cap, .agg #[.int .i64 d, .slice ax ps.length cx], .int .i64 day] w _
  rw [hm]
  clear hm
  go_enter Try.func9, Try.ntmps9
  go_wp2_with fail
  have HX0 := Lib.hid (Bx.made w (.int .i64 d) (.slice ax m cx) 29)
  have HB0 := Lib.hid (kbelow_box w (.cells #[.int .i64 d, .slice ax m cx] 29))
  have HS0 : Hid (w.heap.size < (w.alloc (.cells #[.int .i64 d, .slice ax m cx] 29)).heap.size) := Lib.hid (by simp)
  generalize (w.alloc (.cells #[.int .i64 d, .slice ax m cx] 29)) = W0 at *
  refine (ledgerBegun_any _).mono ?_
  rintro e w1 ⟨rfl, hb1⟩
  have HB1 := Lib.hid (HB0.out.trans (hb1.mono HB0.out.size))
  have HX1 := Lib.hid (HX0.out.below hb1 HS0.out)
  have HS1 : Hid (w.heap.size < w1.heap.size) := Lib.hid (Nat.lt_of_lt_of_le HS0.out hb1.size)
  clear hb1
  obtain ⟨x0, x1, -, -⟩ := HX1.out
  go_wp2_with fail
  clear x0 x1
  refine (Post_any a n cap l d ax m cx ps _ (HC.out.below HB1.out) HN.out (HP.out.below HB1.out) HM.out H24.out).mono ?_
  rintro e w3 ⟨v1, rfl, hpi, hb3⟩
  have HB3 := Lib.hid (HB1.out.trans (hb3.mono HB1.out.size))
  have HX3 := Lib.hid (HX1.out.below hb3 HS1.out)
  have HS3 : Hid (w.heap.size < w3.heap.size) := Lib.hid (Nat.lt_of_lt_of_le HS1.out hb3.size)
  clear hb3
  by_cases h1 : postE l ⟨d, ps⟩ = 0
  · have HV1 := Lib.hid (hpi.2 h1)
    have HJ1 : Hid (jrE l = 0 ∧ jrE (l ++ [⟨d, ps⟩]) = 0) := by
      unfold postE at h1
      split at h1
      · rename_i hq; exact ⟨hq, h1⟩
      · rename_i hq; exact absurd h1 hq
    have HE0 : Hid (enE ⟨d, ps⟩ = 0) := (jrE_ok HJ1.out.2).2.1 _ (by simp)
    rw [h1]
    clear hpi h1
    obtain ⟨a1, c1, e1, hc1⟩ := HV1.out
    subst e1
    obtain ⟨n1, hn1⟩ : ∃ n1, (l ++ [(⟨d, ps⟩ : En)]).length = n1 := ⟨_, rfl⟩
    have HN1 := Lib.hid hn1
    have HC1 := Lib.hid hc1
    rw [hn1]
    clear hn1 hc1 HV1
    obtain ⟨x0, x1, -, -⟩ := HX3.out
    go_wp2_with fail
    clear x0 x1
    refine (Turn_any d ax m cx ps _ (HP.out.below HB3.out) HM.out).mono ?_
    rintro e w4 ⟨-, heq, hb4⟩
    obtain ⟨y, cy, rfl, hpy⟩ := heq HE0.out
    have HB4 := Lib.hid ((HB3.out.trans (hb4.mono HB3.out.size)).alloc (Nat.le_trans HB3.out.size hb4.size) (.cells #[.int .i64 d, .slice y m cy] 29))
    have HC4 := Lib.hid ((HC1.out.below hb4).below (kbelow_box w4 (.cells #[.int .i64 d, .slice y m cy] 29)))
    have HY4 := Lib.hid (Bx.made w4 (.int .i64 d) (.slice y m cy) 29)
    have HPY := Lib.hid (hpy.below (kbelow_box w4 (.cells #[.int .i64 d, .slice y m cy] 29)))
    clear heq hpy hb4
    obtain ⟨y0, y1, -, -⟩ := HY4.out
    go_wp2_with fail
    generalize (w4.alloc (.cells #[.int .i64 d, .slice y m cy] 29)) = W4 at *
    clear y0 y1
    refine (Post_any a1 n1 c1 (l ++ [⟨d, ps⟩]) d y m cy (neg ps) _ HC4.out HN1.out HPY.out (by rw [neg_len]; exact HM.out) H24.out).mono ?_
    rintro e w5 ⟨v2, rfl, hpi2, hb5⟩
    have HB5 := Lib.hid (HB4.out.trans (hb5.mono HB4.out.size))
    have hpe : postE (l ++ [⟨d, ps⟩]) ⟨d, neg ps⟩ = jrE (l ++ [⟨d, ps⟩] ++ [⟨d, neg ps⟩]) := by
      unfold postE
      rw [if_pos HJ1.out.2]
    clear hb5
    rcases jrE_turn HJ1.out.2 with hj | hj
    · have hpe0 := hpe.trans hj
      obtain ⟨a2, c2, ea2, hc2⟩ := hpi2.2 hpe0
      subst ea2
      have HC2 := Lib.hid hc2
      have HJ2 := Lib.hid hj
      obtain ⟨n2, hn2⟩ : ∃ n2, (l ++ [(⟨d, ps⟩ : En)] ++ [(⟨d, neg ps⟩ : En)]).length = n2 := ⟨_, rfl⟩
      have HN2 := Lib.hid hn2
      rw [hn2, hpe0]
      clear hn2 hc2 hpi2 hpe hpe0 hj
      go_wp2_with fail
      refine (Trial_any a n cap l day _ (HC.out.below HB5.out) HN.out).mono ?_
      rintro e w7 ⟨v5, rfl, ht5, hb7⟩
      have HB7 := Lib.hid (HB5.out.trans (hb7.mono HB5.out.size))
      have HC27 := Lib.hid (HC2.out.below hb7)
      have HTR5 := Lib.hid ht5
      have htr : trE l day = trE (l ++ [⟨d, ps⟩] ++ [⟨d, neg ps⟩]) day := by
        unfold trE
        rw [if_pos HJ1.out.1, if_pos HJ2.out]
      have HTR := Lib.hid htr
      obtain ⟨er, her⟩ : ∃ er, trE (l ++ [⟨d, ps⟩] ++ [⟨d, neg ps⟩]) day = er := ⟨_, rfl⟩
      have HER := Lib.hid her
      rw [htr, her]
      clear htr her ht5 hb7
      go_wp2_with fail
      refine (Trial_any a2 n2 c2 _ day _ HC27.out HN2.out).mono ?_
      rintro e w8 ⟨v6, rfl, ht6, hb8⟩
      have HB8 := Lib.hid (HB7.out.trans (hb8.mono HB7.out.size))
      have HTR58 := Lib.hid (HTR5.out.below hb8)
      have HTR6 := Lib.hid ht6
      rw [HER.out]
      clear ht6 hb8
      have hsame : ∃ L : List Am, L.length ≤ 100000 ∧ AmsIn w8 v5 L ∧ AmsIn w8 v6 L := by
        by_cases hz : er = 0
        · obtain ⟨L, q1, q2, q3⟩ := HTR58.out.2 (by rw [HTR.out, HER.out]; exact hz)
          obtain ⟨M, p1, p2, p3⟩ := HTR6.out.2 (by rw [HER.out]; exact hz)
          have e : L = M := AmsOf.same q1 p1 (fun s => (sumN_cancel s l d ps 0 day).symm)
          subst e
          exact ⟨L, q2, q3, p3⟩
        · have q1 := HTR58.out.1 (by rw [HTR.out, HER.out]; exact hz)
          have q2 := HTR6.out.1 (by rw [HER.out]; exact hz)
          subst q1
          subst q2
          exact ⟨[], by simp, AmsIn.nil _, AmsIn.nil _⟩
      obtain ⟨L, hL, hin5, hin6⟩ := hsame
      have HL := Lib.hid hL
      have HI5 := Lib.hid hin5
      have HI6 := Lib.hid hin6
      clear hL hin5 hin6
      go_wp2_with fail
      refine (sameAms_yes _ _ L _ HL.out HI5.out HI6.out).mono ?_
      rintro e w9 ⟨rfl, hb9⟩
      have HB9 := Lib.hid (HB8.out.trans (hb9.mono HB8.out.size))
      clear hb9
      go_wp2_with fail
      go_ret
      exact ⟨kret_bool (by first | rfl | simp), HB9.out⟩
    · rw [hpe.trans hj]
      clear hpi2 hpe hj
      go_wp2_with fail
      go_ret
      exact ⟨kret_bool (by first | rfl | simp), HB5.out⟩
  · obtain ⟨cc, hcc⟩ : ∃ c, postE l ⟨d, ps⟩ = c := ⟨_, rfl⟩
    rw [hcc] at h1 ⊢
    have h1' : (cc != 0) = true := by simpa using h1
    clear h1 hcc hpi
    go_wp2_with fail
    go_ret
    exact ⟨kret_bool (by first | rfl | simp), HB3.out⟩
end Go.Proofs.Ytjhmnnhmekljgaa
