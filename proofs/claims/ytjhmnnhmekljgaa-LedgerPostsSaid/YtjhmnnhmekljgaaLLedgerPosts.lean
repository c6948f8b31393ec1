/-
  The walk of the law LedgerPosts: it answers true at every input.
-/
import Derived.Test.YtjhmnnhmekljgaaQApp
import Derived.Deep.RegionHeld3
namespace Go.Proofs.Ytjhmnnhmekljgaa
open Go.RowKit

set_option maxRecDepth 100000 in
set_option maxHeartbeats 4000000 in
theorem walk_ledgerPosts (a : Option Addr) (n cap : Nat) (l : List En) {w : World} (hc : CameE w a l) (hn : l.length = n) (_ : n ≤ maxLen) (_ : ∀ j, j < n → (Lit.int .i64 (enth l j).day).wf = true) (_ : n * 32 ≤ 140737488351232) (r : En) (ax : Option Addr) (cx : Nat) (hp : PsAt w ax r.ps) (_ : (Lit.int .i64 r.day).wf = true) (h24 : r.ps.length * 24 ≤ 140737488351232) :
    Calls Try.prog 4 #[.slice a n cap, .agg #[.int .i64 r.day, .slice ax r.ps.length cx]] w fun e w' => e = .returned (.bool true) ∧ Go.RowKit.Below w.heap.size w w' := by
  obtain ⟨d, ps⟩ := r
  obtain ⟨m, hm⟩ : ∃ m, ps.length = m := ⟨_, rfl⟩
  have HC := Lib.hid hc
  have HN := Lib.hid hn
  have HP := Lib.hid hp
  have HM := Lib.hid hm
  have H24 : Hid (m * 24 ≤ 140737488355328) := Lib.hid (by have : ps.length * 24 ≤ 140737488351232 := h24; omega)
  clear hp hc hn h24
  show Calls Try.prog 4 #[.slice a n cap, .agg #[.int .i64 d, .slice ax ps.length cx]] w _
  rw [hm]
  clear hm
  go_enter Try.func4, Try.ntmps4
  go_wp2_with fail
  have HX0 := Lib.hid (Bx.made w (.int .i64 d) (.slice ax m cx) 29)
  have HB0 := Lib.hid (kbelow_box w (.cells #[.int .i64 d, .slice ax m cx] 29))
  have hs0 : w.heap.size < (w.alloc (.cells #[.int .i64 d, .slice ax m cx] 29)).heap.size := by simp
  generalize (w.alloc (.cells #[.int .i64 d, .slice ax m cx] 29)) = W0 at *
  have HP0 := Lib.hid (HP.out.below HB0.out)
  have HC0 := Lib.hid (HC.out.below HB0.out)
  refine (Post_any a n cap l d ax m cx ps _ HC0.out HN.out HP0.out HM.out H24.out).mono ?_
  rintro e w1 ⟨v1, rfl, hpi, hb1⟩
  have HPI := Lib.hid hpi
  have HB1 := Lib.hid (HB0.out.trans (hb1.mono HB0.out.size))
  have HX1 := Lib.hid (HX0.out.below hb1 hs0)
  have HP1 := Lib.hid (HP0.out.below hb1)
  have HC1 := Lib.hid (HC0.out.below hb1)
  have HS1 : Hid (w.heap.size < w1.heap.size) := Lib.hid (Nat.lt_of_lt_of_le hs0 hb1.size)
  have HPE : Hid (postE l ⟨d, ps⟩ = if jrE l = 0 then jrE (l ++ [⟨d, ps⟩]) else jrE l) := rfl
  obtain ⟨pe, hpe⟩ : ∃ pe, postE l ⟨d, ps⟩ = pe := ⟨_, rfl⟩
  have HPV := Lib.hid hpe
  rw [hpe]
  clear hpi hb1 hs0 hpe
  go_wp2_with fail
  refine (checkJournal_ref a n cap l _ HC1.out HN.out).mono ?_
  rintro e w2 ⟨rfl, hb2⟩
  have HB2 := Lib.hid (HB1.out.trans (hb2.mono HB1.out.size))
  have HX2 := Lib.hid (HX1.out.below hb2 HS1.out)
  have HP2 := Lib.hid (HP1.out.below hb2)
  have HC2 := Lib.hid (HC1.out.below hb2)
  have HPI2 := Lib.hid (HPI.out.below hb2)
  have HS2 : Hid (w.heap.size < w2.heap.size) := Lib.hid (Nat.lt_of_lt_of_le HS1.out hb2.size)
  clear hb2
  by_cases h0 : jrE l = 0
  · have H0 := Lib.hid h0
    rw [if_pos h0] at HPE
    rw [h0]
    have HL : Hid (n ≤ 100) := Lib.hid (by rw [← HN.out]; exact (jrE_ok h0).1)
    clear h0
    obtain ⟨x0, x1, -, -⟩ := HX2.out
    go_wp2_with fail
    have hlt2 := HS2.out
    have hlt2' : w.heap.size ≠ w2.heap.size + 1 := by omega
    have hlt2'' : w.heap.size ≠ w2.heap.size := by omega
    have HL1 : Hid (l.length ≤ 1000) := Lib.hid (by rw [HN.out]; have := HL.out; omega)
    have HG2 : Hid (((w2.alloc (.cells #[.int .i64 d, .slice ax m cx] 29)).alloc (.cells #[] 29)).drew.ownsRow w2.heap.size 29 2 (.slice (some ⟨w2.heap.size + 1, 0, none⟩) 0 0) 0 []) := by
      have h := World.ownsRow_made (w := w2.alloc (.cells #[.int .i64 d, .slice ax m cx] 29)) (base := w2.heap.size) (e := 29) (size := 2) #[] 0 (by simp) (Nat.zero_le _) rfl
      rwa [show (w2.alloc (.cells #[.int .i64 d, .slice ax m cx] 29)).heap.size = w2.heap.size + 1 from by simp] at h
    go_region_held3 (fun w' => w'.cell? ⟨w.heap.size, 0, none⟩ = some (.int .i64 d) ∧ w'.cell? ⟨w.heap.size, 1, none⟩ = some (.slice ax m cx)) (first | go_keep | (refine ⟨?_, ?_⟩ <;> (rw [hgr2.cell hlt2]; simp [*]; done)) | (refine ⟨?_, ?_⟩ <;> (rw [hgr1.cell hlt2]; simp [*]; done)) | (trace_state; fail))
      ((first
        | (refine step_run2 _ rfl (.tmp 19) (.tmp 20) 22 (by rfl) (v := .slice (some ⟨_, 0, none⟩) 0 0) (by rfl) (by rfl) (run_appJ (w0 := w2) _ _ w2.heap.size (.slice (some ⟨_, 0, none⟩) 0 0) (by first | exact madeE w2.drew | exact (madeE w2.drew).alloc _ | exact HG2.out | (trace_state; fail)) a n cap l HC2.out HN.out HL.out (by first | exact (Below.refl _ _).drew.alloc (by simp) _ | exact ((Below.refl _ _).drew.alloc (by simp) _).alloc (by simp) _ | (trace_state; fail)) (Nat.le_refl _) (by simp <;> omega)) ?_; rintro v1' w3 ⟨hg1, hgr1, hro1⟩)
        | (refine step_run2 _ rfl (.tmp 21) (.tmp 23) 22 (by rfl) (by rfl) (by rfl) (run_appE2 (w0 := w2) _ _ w2.heap.size _ l (by first | exact hg1 | exact hg1.below (kbelow_box _ _) | (trace_state; fail)) _ d ax m cx ps (by first | exact Src2.box w3 _ _ _ | (have h := (Src2.box (w2.drew.alloc (.cells #[] 29)) (.int .i64 d) (.slice ax m cx) 29).grown hro1 (by simp [Value.ownBlock]); simpa using h) | exact (((Src2.box w2.drew _ _ _).alloc _).grown hro1 (by simp [Value.ownBlock])) | (trace_state; fail)) HM.out HP2.out HL1.out (by first | exact ((((Below.refl w2.heap.size w2).drew.alloc (by simp) _).trans hgr1).alloc (by have := hgr1.size; simp at this ⊢; omega) _) | exact ((((Below.refl w2.heap.size w2).drew.alloc (by simp) _).alloc (by simp) _).trans hgr1) | (trace_state; fail)) (Nat.le_refl _) (by have := hgr1.size; simp at this ⊢; omega)) ?_; rintro v2 w4 ⟨hg2, hgr2, hb2⟩)
        | (trace_state; fail)))
    · obtain ⟨x9, c9, e9, hc9⟩ := hg2.ens
      subst e9
      have HC9 := Lib.hid hc9
      have HB9 := Lib.hid (HB2.out.trans (hb2.mono HB2.out.size))
      have HPI9 := Lib.hid (HPI2.out.below hb2)
      have HJ : Hid (jrE (l ++ [⟨d, ps⟩]) = pe) := Lib.hid (by rw [← HPV.out, HPE.out])
      obtain ⟨mm, hmm⟩ : ∃ mm, (l ++ [(⟨d, ps⟩ : En)]).length = mm := ⟨_, rfl⟩
      have HMM := Lib.hid hmm
      rw [hmm]
      clear hg1 hg2 hgr1 hro1 hgr2 hb2 hc9 hmm
      go_wp2_with fail
      refine (checkJournal_ref x9 mm c9 (l ++ [⟨d, ps⟩]) _ HC9.out HMM.out).mono ?_
      rintro e w5 ⟨rfl, hb5⟩
      have HB5 := Lib.hid (HB9.out.trans (hb5.mono HB9.out.size))
      have HC5 := Lib.hid (HC9.out.below hb5)
      have HPI5 := Lib.hid (HPI9.out.below hb5)
      rw [HJ.out]
      clear hb5
      by_cases hz : pe = 0
      · have HLL : Hid ((l ++ [(⟨d, ps⟩ : En)]).length ≤ 1000) := Lib.hid (by have := (jrE_ok (HJ.out.trans hz)).1; omega)
        have HV1 := Lib.hid (HPI5.out.2 (HPV.out.trans hz))
        subst hz
        go_wp2_with fail
        refine (ledgerBegun_any _).mono ?_
        rintro e w6 ⟨rfl, hb6⟩
        have HB6 := Lib.hid (HB5.out.trans (hb6.mono HB5.out.size))
        have HV6 := Lib.hid (HV1.out.below hb6)
        have HW6 : Hid (EnsIn w6 (.slice x9 mm c9) (l ++ [⟨d, ps⟩])) := ⟨x9, c9, by rw [HMM.out], HC5.out.below hb6⟩
        clear hb6
        go_wp2_with fail
        refine (sameEns_yes _ _ _ _ HLL.out HV6.out HW6.out).mono ?_
        rintro e w7 ⟨rfl, hb7⟩
        have HB7 := Lib.hid (HB6.out.trans (hb7.mono HB6.out.size))
        clear hb7
        go_wp2_with fail
        go_ret
        exact ⟨kret_bool (by first | rfl | simp), HB7.out⟩
      · have hz' : (pe != 0) = true := by simpa using hz
        have hv1 : v1 = .slice none 0 0 := HPI5.out.1 (fun h => hz (HPV.out.symm.trans h))
        subst hv1
        clear hz
        go_wp2_with fail
        refine (ledgerBegun_any _).mono ?_
        rintro e w6 ⟨rfl, hb6⟩
        have HB6 := Lib.hid (HB5.out.trans (hb6.mono HB5.out.size))
        clear hb6
        go_wp2_with fail
        refine (sameEns_yes _ _ [] _ (by simp) (EnsIn.nil _) (EnsIn.nil _)).mono ?_
        rintro e w7 ⟨rfl, hb7⟩
        have HB7 := Lib.hid (HB6.out.trans (hb7.mono HB6.out.size))
        clear hb7
        go_wp2_with fail
        go_ret
        exact ⟨kret_bool (by first | rfl | simp), HB7.out⟩
    · obtain ⟨x9, c9, e9, hc9⟩ := hg2.ens
      subst e9
      have HC9 := Lib.hid hc9
      have HB9 := Lib.hid (HB2.out.trans (hb2.mono HB2.out.size))
      have HPI9 := Lib.hid (HPI2.out.below hb2)
      have HJ : Hid (jrE (l ++ [⟨d, ps⟩]) = pe) := Lib.hid (by rw [← HPV.out, HPE.out])
      obtain ⟨mm, hmm⟩ : ∃ mm, (l ++ [(⟨d, ps⟩ : En)]).length = mm := ⟨_, rfl⟩
      have HMM := Lib.hid hmm
      rw [hmm]
      clear hg1 hg2 hgr1 hro1 hgr2 hb2 hc9 hmm
      go_wp2_with fail
      refine (checkJournal_ref x9 mm c9 (l ++ [⟨d, ps⟩]) _ HC9.out HMM.out).mono ?_
      rintro e w5 ⟨rfl, hb5⟩
      have HB5 := Lib.hid (HB9.out.trans (hb5.mono HB9.out.size))
      have HC5 := Lib.hid (HC9.out.below hb5)
      have HPI5 := Lib.hid (HPI9.out.below hb5)
      rw [HJ.out]
      clear hb5
      by_cases hz : pe = 0
      · have HLL : Hid ((l ++ [(⟨d, ps⟩ : En)]).length ≤ 1000) := Lib.hid (by have := (jrE_ok (HJ.out.trans hz)).1; omega)
        have HV1 := Lib.hid (HPI5.out.2 (HPV.out.trans hz))
        subst hz
        go_wp2_with fail
        refine (ledgerBegun_any _).mono ?_
        rintro e w6 ⟨rfl, hb6⟩
        have HB6 := Lib.hid (HB5.out.trans (hb6.mono HB5.out.size))
        have HV6 := Lib.hid (HV1.out.below hb6)
        have HW6 : Hid (EnsIn w6 (.slice x9 mm c9) (l ++ [⟨d, ps⟩])) := ⟨x9, c9, by rw [HMM.out], HC5.out.below hb6⟩
        clear hb6
        go_wp2_with fail
        refine (sameEns_yes _ _ _ _ HLL.out HV6.out HW6.out).mono ?_
        rintro e w7 ⟨rfl, hb7⟩
        have HB7 := Lib.hid (HB6.out.trans (hb7.mono HB6.out.size))
        clear hb7
        go_wp2_with fail
        go_ret
        exact ⟨kret_bool (by first | rfl | simp), HB7.out⟩
      · have hz' : (pe != 0) = true := by simpa using hz
        have hv1 : v1 = .slice none 0 0 := HPI5.out.1 (fun h => hz (HPV.out.symm.trans h))
        subst hv1
        clear hz
        go_wp2_with fail
        refine (ledgerBegun_any _).mono ?_
        rintro e w6 ⟨rfl, hb6⟩
        have HB6 := Lib.hid (HB5.out.trans (hb6.mono HB5.out.size))
        clear hb6
        go_wp2_with fail
        refine (sameEns_yes _ _ [] _ (by simp) (EnsIn.nil _) (EnsIn.nil _)).mono ?_
        rintro e w7 ⟨rfl, hb7⟩
        have HB7 := Lib.hid (HB6.out.trans (hb7.mono HB6.out.size))
        clear hb7
        go_wp2_with fail
        go_ret
        exact ⟨kret_bool (by first | rfl | simp), HB7.out⟩
    · obtain ⟨x9, c9, e9, hc9⟩ := hg2.ens
      subst e9
      have HC9 := Lib.hid hc9
      have HB9 := Lib.hid (HB2.out.trans (hb2.mono HB2.out.size))
      have HPI9 := Lib.hid (HPI2.out.below hb2)
      have HJ : Hid (jrE (l ++ [⟨d, ps⟩]) = pe) := Lib.hid (by rw [← HPV.out, HPE.out])
      obtain ⟨mm, hmm⟩ : ∃ mm, (l ++ [(⟨d, ps⟩ : En)]).length = mm := ⟨_, rfl⟩
      have HMM := Lib.hid hmm
      rw [hmm]
      clear hg1 hg2 hgr1 hro1 hgr2 hb2 hc9 hmm
      go_wp2_with fail
      refine (checkJournal_ref x9 mm c9 (l ++ [⟨d, ps⟩]) _ HC9.out HMM.out).mono ?_
      rintro e w5 ⟨rfl, hb5⟩
      have HB5 := Lib.hid (HB9.out.trans (hb5.mono HB9.out.size))
      have HC5 := Lib.hid (HC9.out.below hb5)
      have HPI5 := Lib.hid (HPI9.out.below hb5)
      rw [HJ.out]
      clear hb5
      by_cases hz : pe = 0
      · have HLL : Hid ((l ++ [(⟨d, ps⟩ : En)]).length ≤ 1000) := Lib.hid (by have := (jrE_ok (HJ.out.trans hz)).1; omega)
        have HV1 := Lib.hid (HPI5.out.2 (HPV.out.trans hz))
        subst hz
        go_wp2_with fail
        refine (ledgerBegun_any _).mono ?_
        rintro e w6 ⟨rfl, hb6⟩
        have HB6 := Lib.hid (HB5.out.trans (hb6.mono HB5.out.size))
        have HV6 := Lib.hid (HV1.out.below hb6)
        have HW6 : Hid (EnsIn w6 (.slice x9 mm c9) (l ++ [⟨d, ps⟩])) := ⟨x9, c9, by rw [HMM.out], HC5.out.below hb6⟩
        clear hb6
        go_wp2_with fail
        refine (sameEns_yes _ _ _ _ HLL.out HV6.out HW6.out).mono ?_
        rintro e w7 ⟨rfl, hb7⟩
        have HB7 := Lib.hid (HB6.out.trans (hb7.mono HB6.out.size))
        clear hb7
        go_wp2_with fail
        go_ret
        exact ⟨kret_bool (by first | rfl | simp), HB7.out⟩
      · have hz' : (pe != 0) = true := by simpa using hz
        have hv1 : v1 = .slice none 0 0 := HPI5.out.1 (fun h => hz (HPV.out.symm.trans h))
        subst hv1
        clear hz
        go_wp2_with fail
        refine (ledgerBegun_any _).mono ?_
        rintro e w6 ⟨rfl, hb6⟩
        have HB6 := Lib.hid (HB5.out.trans (hb6.mono HB5.out.size))
        clear hb6
        go_wp2_with fail
        refine (sameEns_yes _ _ [] _ (by simp) (EnsIn.nil _) (EnsIn.nil _)).mono ?_
        rintro e w7 ⟨rfl, hb7⟩
        have HB7 := Lib.hid (HB6.out.trans (hb7.mono HB6.out.size))
        clear hb7
        go_wp2_with fail
        go_ret
        exact ⟨kret_bool (by first | rfl | simp), HB7.out⟩
  · rw [if_neg h0] at HPE
    have hz : (jrE l == 0) = false := by simpa using h0
    have hz' : (jrE l != 0) = true := by simpa using h0
    obtain ⟨cc, hcc⟩ : ∃ c, jrE l = c := ⟨_, rfl⟩
    have HPN : Hid (v1 = .slice none 0 0) := Lib.hid (HPI2.out.1 (by rw [HPE.out]; exact h0))
    have hv1 := HPN.out
    subst hv1
    have hpc : pe = cc := by rw [← HPV.out, HPE.out, hcc]
    subst hpc
    rw [hcc] at hz hz' ⊢
    clear h0 hcc
    go_wp2_with fail
    refine (ledgerBegun_any _).mono ?_
    rintro e w6 ⟨rfl, hb6⟩
    have HB6 := Lib.hid (HB2.out.trans (hb6.mono HB2.out.size))
    clear hb6
    go_wp2_with fail
    refine (sameEns_yes _ _ [] _ (by simp) (EnsIn.nil _) (EnsIn.nil _)).mono ?_
    rintro e w7 ⟨rfl, hb7⟩
    have HB7 := Lib.hid (HB6.out.trans (hb7.mono HB6.out.size))
    clear hb7
    go_wp2_with fail
    go_ret
    exact ⟨kret_bool (by first | rfl | simp), HB7.out⟩
end Go.Proofs.Ytjhmnnhmekljgaa
