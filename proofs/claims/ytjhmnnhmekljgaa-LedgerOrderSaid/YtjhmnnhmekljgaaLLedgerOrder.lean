/-
  The walk of the law LedgerOrder: it answers true at every input.
-/
import Derived.Test.YtjhmnnhmekljgaaQTrial
namespace Go.Proofs.Ytjhmnnhmekljgaa
open Go.RowKit

set_option maxRecDepth 100000 in
set_option maxHeartbeats 8000000 in
theorem walk_ledgerOrder (a : Option Addr) (n cap : Nat) (l : List En) {w : World} (hc : CameE w a l) (hn : l.length = n) (_ : n ≤ maxLen) (_ : ∀ j, j < n → (Lit.int .i64 (enth l j).day).wf = true) (_ : n * 32 ≤ 140737488351232) (r : En) (ax : Option Addr) (cx : Nat) (hp : PsAt w ax r.ps) (_ : (Lit.int .i64 r.day).wf = true) (h24 : r.ps.length * 24 ≤ 140737488351232) (s : En) (ay : Option Addr) (cy : Nat) (hq : PsAt w ay s.ps) (_ : (Lit.int .i64 s.day).wf = true) (k24 : s.ps.length * 24 ≤ 140737488351232) (day : Int) (_ : (Lit.int .i64 day).wf = true) :
    Calls Try.prog 10 #[.slice a n cap, .agg #[.int .i64 r.day, .slice ax r.ps.length cx], .agg #[.int .i64 s.day, .slice ay s.ps.length cy], .int .i64 day] w fun e w' => e = .returned (.bool true) ∧ Go.RowKit.Below w.heap.size w w' := by
  obtain ⟨d, ps⟩ := r
  obtain ⟨d2, qs⟩ := s
  obtain ⟨m, hm⟩ : ∃ m, ps.length = m := ⟨_, rfl⟩
  obtain ⟨m2, hm2⟩ : ∃ m, qs.length = m := ⟨_, rfl⟩
  have HC := Lib.hid hc
  have HN := Lib.hid hn
  have HP := Lib.hid hp
  have HQ := Lib.hid hq
  have HM := Lib.hid hm
  have HM2 := Lib.hid hm2
  have H24 : Hid (m * 24 ≤ 140737488355328) := Lib.hid (by have : ps.length * 24 ≤ 140737488351232 := h24; omega)
  have K24 : Hid (m2 * 24 ≤ 140737488355328) := Lib.hid (by have : qs.length * 24 ≤ 140737488351232 := k24; omega)
  clear hp hc hn h24 hq k24
  show Calls Try.prog 10 #[.slice a n cap, .agg #[.int .i64 d, .slice ax ps.length cx], .agg #[.int .i64 d2, .slice ay qs.length cy], .int .i64 day] w _
  rw [hm, hm2]
  clear hm hm2
  go_enter Try.func10, Try.ntmps10
  go_wp2_with fail
  have HT0 := Lib.hid (Two.made w d d2 ax ay m cx m2 cy)
  generalize ((w.alloc (.cells #[.int .i64 d, .slice ax m cx] 29)).alloc (.cells #[.int .i64 d2, .slice ay m2 cy] 29)) = W0 at *
  refine (ledgerBegun_any _).mono ?_
  rintro e w1 ⟨rfl, hb1⟩
  have HT1 := Lib.hid (HT0.out.below hb1)
  clear hb1
  obtain ⟨⟨x0, x1, -, -⟩, ⟨y0, y1, y2, y3⟩, -, -⟩ := HT1.out
  have HT2 := Lib.hid (HT1.out.set d)
  obtain ⟨⟨u0, u1, -, -⟩, ⟨z0, z1, -, -⟩, -, -⟩ := HT2.out
  go_wp2_with fail
  generalize w1.setCell ⟨w.heap.size + 1, 0, none⟩ (.int .i64 d) = W2 at *
  clear x0 x1 y0 y1 y2 y3 u0 u1 z0 z1
  refine (Post_any a n cap l d ax m cx ps _ (HC.out.below HT2.out.2.2.1) HN.out (HP.out.below HT2.out.2.2.1) HM.out H24.out).mono ?_
  rintro e w3 ⟨v1, rfl, hpi, hb3⟩
  have HT3 := Lib.hid (HT2.out.below hb3)
  clear hb3
  by_cases h1 : postE l ⟨d, ps⟩ = 0
  · have HV1 := Lib.hid (hpi.2 h1)
    have HJ1 : Hid (jrE l = 0 ∧ jrE (l ++ [⟨d, ps⟩]) = 0) := by
      unfold postE at h1
      split at h1
      · rename_i hq; exact ⟨hq, h1⟩
      · rename_i hq; exact absurd h1 hq
    rw [h1]
    clear hpi h1
    obtain ⟨a1, c1, e1, hc1⟩ := HV1.out
    subst e1
    obtain ⟨n1, hn1⟩ : ∃ n1, (l ++ [(⟨d, ps⟩ : En)]).length = n1 := ⟨_, rfl⟩
    have HN1 := Lib.hid hn1
    have HC1 := Lib.hid hc1
    rw [hn1]
    clear hn1 hc1 HV1
    obtain ⟨-, ⟨z0, z1, -, -⟩, -, -⟩ := HT3.out
    go_wp2_with fail
    clear z0 z1
    refine (Post_any a1 n1 c1 (l ++ [⟨d, ps⟩]) d ay m2 cy qs _ HC1.out HN1.out (HQ.out.below HT3.out.2.2.1) HM2.out K24.out).mono ?_
    rintro e w4 ⟨v2, rfl, hpi2, hb4⟩
    have HT4 := Lib.hid (HT3.out.below hb4)
    have HPI2 := Lib.hid hpi2
    clear hpi2 hb4
    obtain ⟨e2, he2⟩ : ∃ c, postE (l ++ [⟨d, ps⟩]) ⟨d, qs⟩ = c := ⟨_, rfl⟩
    have HE2 := Lib.hid he2
    rw [he2]
    clear he2
    obtain ⟨-, ⟨z0, z1, -, -⟩, -, -⟩ := HT4.out
    go_wp2_with fail
    clear z0 z1
    refine (Post_any a n cap l d ay m2 cy qs _ (HC.out.below HT4.out.2.2.1) HN.out (HQ.out.below HT4.out.2.2.1) HM2.out K24.out).mono ?_
    rintro e w5 ⟨v3, rfl, hpi3, hb5⟩
    have HT5 := Lib.hid (HT4.out.below hb5)
    have HPI2' := Lib.hid (HPI2.out.below hb5)
    have HPI3 := Lib.hid hpi3
    clear hpi3 hb5 HPI2
    obtain ⟨e3, he3⟩ : ∃ c, postE l ⟨d, qs⟩ = c := ⟨_, rfl⟩
    have HE3 := Lib.hid he3
    rw [he3]
    clear he3
    have HBQ := Lib.hid HT5.out.2.2.1
    by_cases hz2 : e2 = 0
    · by_cases hz3 : e3 = 0
      · subst hz2
        subst hz3
        have HJ2 : Hid (jrE (l ++ [⟨d, ps⟩] ++ [⟨d, qs⟩]) = 0) := by
          have h := HE2.out
          unfold postE at h
          rw [if_pos HJ1.out.2] at h
          exact h
        have HJ3 : Hid (jrE (l ++ [⟨d, qs⟩]) = 0) := by
          have h := HE3.out
          unfold postE at h
          rw [if_pos HJ1.out.1] at h
          exact h
        have HJ4 : Hid (jrE (l ++ [⟨d, qs⟩] ++ [⟨d, ps⟩]) = 0) := jrE_swap rfl HJ2.out HJ3.out
        obtain ⟨a2, c2, ea2, hc2⟩ := HPI2'.out.2 HE2.out
        obtain ⟨a3, c3, ea3, hc3⟩ := HPI3.out.2 HE3.out
        subst ea2
        subst ea3
        have HC2 := Lib.hid hc2
        have HC3 := Lib.hid hc3
        obtain ⟨n2, hn2⟩ : ∃ n2, (l ++ [(⟨d, ps⟩ : En)] ++ [(⟨d, qs⟩ : En)]).length = n2 := ⟨_, rfl⟩
        have HN2 := Lib.hid hn2
        obtain ⟨n3, hn3⟩ : ∃ n3, (l ++ [(⟨d, qs⟩ : En)]).length = n3 := ⟨_, rfl⟩
        have HN3 := Lib.hid hn3
        rw [hn2, hn3]
        clear hn2 hn3 hc2 hc3 HPI2' HPI3
        obtain ⟨⟨x0, x1, -, -⟩, -, -, -⟩ := HT5.out
        go_wp2_with fail
        clear x0 x1
        refine (Post_any a3 n3 c3 (l ++ [⟨d, qs⟩]) d ax m cx ps _ HC3.out HN3.out (HP.out.below HBQ.out) HM.out H24.out).mono ?_
        rintro e w6 ⟨v4, rfl, hpi4, hb6⟩
        have HB6 := Lib.hid (HBQ.out.trans (hb6.mono HBQ.out.size))
        have HC26 := Lib.hid (HC2.out.below hb6)
        have hp4 : postE (l ++ [⟨d, qs⟩]) ⟨d, ps⟩ = 0 := by
          unfold postE
          rw [if_pos HJ3.out]
          exact HJ4.out
        obtain ⟨a4, c4, ea4, hc4⟩ := hpi4.2 hp4
        subst ea4
        have HC4 := Lib.hid hc4
        obtain ⟨n4, hn4⟩ : ∃ n4, (l ++ [(⟨d, qs⟩ : En)] ++ [(⟨d, ps⟩ : En)]).length = n4 := ⟨_, rfl⟩
        have HN4 := Lib.hid hn4
        rw [hn4, hp4]
        clear hn4 hp4 hc4 hpi4 hb6
        go_wp2_with fail
        refine (Trial_any a2 n2 c2 _ day _ HC26.out HN2.out).mono ?_
        rintro e w7 ⟨v5, rfl, ht5, hb7⟩
        have HB7 := Lib.hid (HB6.out.trans (hb7.mono HB6.out.size))
        have HC47 := Lib.hid (HC4.out.below hb7)
        have HTR5 := Lib.hid ht5
        have htr : trE (l ++ [⟨d, ps⟩] ++ [⟨d, qs⟩]) day = trE (l ++ [⟨d, qs⟩] ++ [⟨d, ps⟩]) day := by
          unfold trE
          rw [if_pos HJ2.out, if_pos HJ4.out]
        have HTR := Lib.hid htr
        obtain ⟨er, her⟩ : ∃ er, trE (l ++ [⟨d, qs⟩] ++ [⟨d, ps⟩]) day = er := ⟨_, rfl⟩
        have HER := Lib.hid her
        rw [htr, her]
        clear htr her ht5 hb7
        go_wp2_with fail
        refine (Trial_any a4 n4 c4 _ day _ HC47.out HN4.out).mono ?_
        rintro e w8 ⟨v6, rfl, ht6, hb8⟩
        have HB8 := Lib.hid (HB7.out.trans (hb8.mono HB7.out.size))
        have HTR58 := Lib.hid (HTR5.out.below hb8)
        have HTR6 := Lib.hid ht6
        rw [HER.out]
        clear ht6 hb8
        have hsame : ∃ L : List Am, L.length ≤ 100000 ∧ AmsIn w8 v5 L ∧ AmsIn w8 v6 L := by
          by_cases hz : er = 0
          · obtain ⟨L, q1, q2, q3⟩ := HTR58.out.2 (by rw [HTR.out, HER.out]; exact hz)
            obtain ⟨M, p1, p2, p3⟩ := HTR6.out.2 (by rw [HER.out]; exact hz)
            have e : L = M := AmsOf.same q1 p1 (fun s => by rw [sumN_pst, sumN_pst, sumN_pst, sumN_pst]; omega)
            subst e
            exact ⟨L, q2, q3, p3⟩
          · have q1 := HTR58.out.1 (by rw [HTR.out, HER.out]; exact hz)
            have q2 := HTR6.out.1 (by rw [HER.out]; exact hz)
            subst q1
            subst q2
            exact ⟨[], by simp, AmsIn.nil _, AmsIn.nil _⟩
        obtain ⟨L, hL, hin5, hin6⟩ := hsame
        have HL := Lib.hid hL
        have HI5 := Lib.hid hin5
        have HI6 := Lib.hid hin6
        clear hL hin5 hin6
        go_wp2_with fail
        refine (sameAms_yes _ _ L _ HL.out HI5.out HI6.out).mono ?_
        rintro e w9 ⟨rfl, hb9⟩
        have HB9 := Lib.hid (HB8.out.trans (hb9.mono HB8.out.size))
        clear hb9
        go_wp2_with fail
        go_ret
        exact ⟨kret_bool (by first | rfl | simp), HB9.out⟩
      · have hz3' : (e3 != 0) = true := by simpa using hz3
        subst hz2
        clear hz3
        go_wp2_with fail
        go_ret
        exact ⟨kret_bool (by first | rfl | simp), HBQ.out⟩
    · have hz2' : (e2 != 0) = true := by simpa using hz2
      clear hz2
      go_wp2_with fail
      go_ret
      exact ⟨kret_bool (by first | rfl | simp), HBQ.out⟩
  · obtain ⟨cc, hcc⟩ : ∃ c, postE l ⟨d, ps⟩ = c := ⟨_, rfl⟩
    rw [hcc] at h1 ⊢
    have h1' : (cc != 0) = true := by simpa using h1
    have HBQ := Lib.hid HT3.out.2.2.1
    clear h1 hcc hpi
    go_wp2_with fail
    go_ret
    exact ⟨kret_bool (by first | rfl | simp), HBQ.out⟩
end Go.Proofs.Ytjhmnnhmekljgaa
