/-
  The walk of the law LeaveStays: it answers true at every input.
-/
import Derived.Test.YtlaamfagjpdhgaaLvApp
import Derived.Test.YtlaamfagjpdhgaaLvOpen
import Derived.Test.YtlaamfagjpdhgaaLvSlc
import Derived.Test.YtlaamfagjpdhgaaCRefC
import Derived.Deep.RegionHeld3
namespace Go.Proofs.Ytlaamfagjpdhgaa
open Go.RowKit

/-- Which of n things a raw number speaks of. -/
def chooseI (c n : Int) : Int := (if c < 0 then -(c + 1) else c) % n
theorem choose_any (c n : Int) (w : World) (hc : -9223372036854775808 ≤ c) (hc' : c ≤ 9223372036854775807) (hn : 1 ≤ n) (hn' : n ≤ 1000000000) :
    Calls Try.prog 31 #[.int .i64 c, .int .i64 n] w fun e w' => e = .returned (.int .i64 (chooseI c n)) ∧ w' = w := by
  have hn0 : (n == 0) = false := by simp; omega
  by_cases h : c < 0
  · have H : Hid (chooseI c n = (-(c + 1)) % n) := by unfold Hid chooseI; rw [if_pos h]
    have HE : Hid (-((c + 1).tmod n) = (-(c + 1)) % n) := by unfold Hid; rw [← Int.neg_tmod]; exact Int.tmod_eq_emod_of_nonneg (by omega)
    go_enter Try.func31, Try.ntmps31
    go_wp2
    go_ret
    exact ⟨cret_int (by rw [H.out]; first | done | rw [HE.out]), rfl⟩
  · have H : Hid (chooseI c n = c % n) := by unfold Hid chooseI; rw [if_neg h]
    have HE : Hid (c.tmod n = c % n) := Int.tmod_eq_emod_of_nonneg (by omega)
    go_enter Try.func31, Try.ntmps31
    go_wp2
    go_ret
    exact ⟨cret_int (by rw [H.out]; first | done | rw [HE.out]), rfl⟩
theorem choose_bd (c n : Int) (hn : 1 ≤ n) : 0 ≤ chooseI c n ∧ chooseI c n < n :=
  ⟨Int.emod_nonneg _ (by omega), Int.emod_lt_of_pos _ (by omega)⟩
theorem swf_range {c : Int} (h : (Lit.int .i64 c).wf = true) : -9223372036854775808 ≤ c ∧ c ≤ 9223372036854775807 := by
  simp only [Lit.wf, Bool.and_eq_true, decide_eq_true_eq] at h
  exact h
set_option maxRecDepth 100000 in
set_option maxHeartbeats 4000000 in
theorem walk_leaveStays (h r c : Int) (_ : (Lit.int .i64 h).wf = true) (_ : (Lit.int .i64 r).wf = true) (_ : (Lit.int .i64 c).wf = true) (a : Option Addr) (n cap : Nat) (l : List Us) {w : World} (hc : CameU w a l) (hn : l.length = n) (hm : n ≤ maxLen) (hcp : n ≤ cap ∧ cap ≤ maxLen) (d : Int) (_ : (Lit.int .i64 d).wf = true) (q : Int) (hwq : (Lit.int .i64 q).wf = true) :
    Calls Try.prog 12 #[.agg #[.int .i64 h, .int .i64 r, .int .i64 c], .slice a n cap, .int .i64 d, .int .i64 q] w fun e w' => e = .returned (.bool true) ∧ Below w.heap.size w w' := by
  have hm' : n ≤ 9223372036854775807 := by unfold maxLen at hm; omega
  have HC := Lib.hid hc
  have HN := Lib.hid hn
  have HM := Lib.hid hm
  have HCP := Lib.hid hcp
  have HWQ := Lib.hid (swf_range hwq)
  clear hc hn hm hcp hwq
  have HB0 := Lib.hid (lbelow_box w (.cells #[.int .i64 h, .int .i64 r, .int .i64 c] 55))
  have HL0 := Lib.hid (LBox.made w h r c 55)
  have hs0 : (w.alloc (.cells #[.int .i64 h, .int .i64 r, .int .i64 c] 55)).heap.size = w.heap.size + 1 := by simp
  go_enter Try.func12, Try.ntmps12
  go_wp2_with (first | (go_at_call 33; refine (leaveBegun_any _).mono ?_; rintro e w1 ⟨rfl, hb1⟩; refine Hid.out ?_))
  have HB1 := Lib.hid (HB0.out.trans (hb1.mono (by simp)))
  have HL1 := Lib.hid (HL0.out.below hb1 (by simp))
  have hs1 : w.heap.size + 1 ≤ w1.heap.size := (by have := hb1.size; rw [hs0] at this; exact this)
  clear hb1 HB0 HL0 hs0
  refine Lib.hid ?_
  obtain ⟨k0, k1, k2⟩ := HL1.out
  go_wp2_with (first | (go_at_call 34; refine (Had_any h r c a n cap l d _ (HC.out.below HB1.out) HN.out HM.out).mono ?_; rintro e w2 ⟨⟨v, er, rfl, hh⟩, hb2⟩; refine Hid.out ?_))
  have HH := Lib.hid hh
  have HB2 := Lib.hid (HB1.out.trans (hb2.mono HB1.out.size))
  have HL2 := Lib.hid (HL1.out.below hb2 hs1)
  have hs2 : w.heap.size + 1 ≤ w2.heap.size := Nat.le_trans hs1 hb2.size
  clear hb2 hh k0 k1 k2 HB1 HL1 hs1
  refine Lib.hid ?_
  by_cases her : er = 0
  · subst her
    obtain ⟨ok, hdo⟩ := HH.out.1.1 rfl
    obtain ⟨hd0, hd1, hd2⟩ := dofB_iff.1 hdo
    obtain ⟨hh0, hh1, hr0, hr1, hc0, hc1⟩ := lvB_iff.1 ok.lv
    obtain ⟨p, hp⟩ := PreOf.exists (l := l) d (fun i j hij hj => ok.mono hij hj)
    have hv := HH.out.2 rfl p hp
    have hv0 : 0 ≤ v := by rw [hv]; exact hadD_nn ok hp.le
    have HJAN : Hid (∀ k, IsCivil d k 1 1 → h < d → v ≤ c + r) := fun k q1 q2 => by rw [hv]; exact hadD_jan ok hp q1 q2
    have HLESS : Hid (∀ k, k < n → LvOk h r c (drp l k) ∧ ∀ p', PreOf (drp l k) d p' → v ≤ hadD h r c (drp l k) d p') := fun k hk => by
      have hk' : k < l.length := by rw [HN.out]; exact hk
      exact ⟨drp_ok ok hk', fun p' hp' => by rw [hv]; exact hadD_less ok hd2 hk' hp hp'⟩
    have hn100 : n ≤ 100 := by have := ok.len; rw [HN.out] at this; exact this
    have HDO := Lib.hid hdo
    have HDB : Hid (dayB d = true) := decide_eq_true ⟨hd0, hd1⟩
    have hvn : decide (v < 0) = false := decide_eq_false (by omega)
    clear ok hdo hp hv HH
    go_wp2_with (first | (go_at_call 35; refine (civil_ref d _ HDB.out).mono ?_; rintro e w3 ⟨ky, mo, da, rfl, hci, hb3⟩; refine Hid.out ?_))
    have HCI := Lib.hid hci
    have HB3 := Lib.hid (HB2.out.trans (hb3.mono HB2.out.size))
    have HL3 := Lib.hid (HL2.out.below hb3 hs2)
    have hs3 : w.heap.size + 1 ≤ w3.heap.size := Nat.le_trans hs2 hb3.size
    have HBD := Lib.hid (lbelow_box w3 (.cells #[.int .i64 (2000 + (ky : Int)), .int .i64 (mo : Int), .int .i64 da] 59))
    have HB4 := Lib.hid (HB3.out.trans (HBD.out.mono HB3.out.size))
    have HL4 := Lib.hid (HL3.out.below HBD.out hs3)
    obtain ⟨k0, k1, k2⟩ := HL4.out
    clear hci hb3 HB2 HL2 hs2
    refine Lib.hid ?_
    by_cases hmo : mo = 1
    · have hm1 : ((mo : Int) == 1) = true := by simp [hmo]
      by_cases hda : da = 1
      · have hd1' : (da == 1) = true := by simp [hda]
        by_cases hhd : h < d
        · have hjan : decide (c + r < v) = false := decide_eq_false (by have := HJAN.out ky (by have := HCI.out; rw [hmo, hda] at this; exact this) hhd; omega)
          have hwj : IntKind.i64.wrap (c + r) = c + r := IntWalk.i64_in _ (by omega)
          clear hmo hda
          by_cases hn0 : n = 0
          · have hE : ((n : Int) == 0) = true := by simp [hn0]
            go_wp2_with fail
            go_ret
            exact ⟨rfl, HB4.out⟩
          · have hE : ((n : Int) == 0) = false := by simp; omega
            have hE2 : decide ((n : Int) = 0) = false := decide_eq_false (by omega)
            obtain ⟨k, hk⟩ : ∃ k : Nat, chooseI q n = (k : Int) := ⟨(chooseI q n).toNat, by have := choose_bd q n (by omega); omega⟩
            have hkn : k < n := by have := choose_bd q n (by omega); omega
            have HCH := Lib.hid (fun w => choose_any q n w HWQ.out.1 HWQ.out.2 (by omega) (by omega))
            rw [hk] at HCH
            clear hk
            obtain ⟨b, off, rfl, hU⟩ : ∃ b off, a = some ⟨b, off, none⟩ ∧ UAt w b off l := by
              rcases HC.out with h0 | z
              · have := HN.out; omega
              · exact z
            have HU := Lib.hid (hU.below HB4.out hU.1)
            obtain ⟨okk, hless⟩ := HLESS.out k hkn
            have HOKK := Lib.hid okk
            have HLS := Lib.hid hless
            have hcp1 : (n : Int) ≤ (cap : Int) := by have := HCP.out.1; omega
            have hcp2 : cap ≤ 9223372036854775807 := by have := HCP.out.2; unfold maxLen at this; omega
            have HLT : Hid ((l.take k).length = k) := Lib.hid (by rw [List.length_take, HN.out]; omega)
            have HLD : Hid ((l.drop (k + 1)).length = n - (k + 1)) := Lib.hid (by rw [List.length_drop, HN.out])
            have HDR : Hid (l.take k ++ l.drop (k + 1) = drp l k) := rfl
            have HDL : Hid ((drp l k).length = n - 1) := by unfold Hid; rw [drp_len (by rw [HN.out]; exact hkn), HN.out]
            obtain ⟨R, hR⟩ : ∃ R, drp l k = R := ⟨_, rfl⟩
            rw [hR] at HDR HDL HOKK HLS
            clear hR okk hless hU
            obtain ⟨p', hp'⟩ := PreOf.exists (l := R) d (fun i j hij hj => HOKK.out.mono hij hj)
            have HPP := Lib.hid hp'
            clear hp'
            have hk1 : (k : Int) + 1 ≤ (n : Int) := by omega
            have hkc : (k : Int) ≤ (cap : Int) := by omega
            have hk1c : (k : Int) + 1 ≤ (cap : Int) := by omega
            have hkz : (0 : Int) ≤ (k : Int) := by omega
            have hkz1 : (0 : Int) ≤ (k : Int) + 1 := by omega
            have hkn' : (k : Int) ≤ (n : Int) := by omega
            have hn1m : n - 1 ≤ maxLen := by unfold maxLen; omega
            go_wp2_with (first | (go_at_call 31; refine (HCH.out _).mono ?_; rintro e w' ⟨rfl, h'⟩; subst w'; refine Hid.out ?_))
            obtain ⟨W4, hW4⟩ : ∃ W4, W4 = w3.alloc (.cells #[.int .i64 (2000 + (ky : Int)), .int .i64 (mo : Int), .int .i64 da] 59) := ⟨_, rfl⟩
            rw [← hW4] at HU HB4 HL4 k0 k1 k2 ⊢
            have hs4 : w.heap.size + 1 ≤ W4.heap.size := by rw [hW4]; simp; omega
            clear hW4 HCH
            refine Lib.hid ?_
            have hw9 : IntKind.i64.wrap ((k : Int) + 1) = (k : Int) + 1 := IntWalk.i64_in _ (by omega)
            have hsl1 := run_upto b off n cap k (by omega) HCP.out.1
            obtain ⟨o2, c2, hsl2, ho2⟩ := run_from b off n cap k hkn HCP.out.1
            obtain ⟨m2, hm2⟩ : ∃ m2, n - (k + 1) = m2 := ⟨_, rfl⟩
            rw [hm2] at hsl2 HLD
            have HM2 := Lib.hid hm2
            have HO2 := Lib.hid ho2
            clear hm2 ho2
            have HSRC : Hid (∀ w7 : World, Below W4.heap.size W4 w7 → CameU w7 (some ⟨b, o2, none⟩) (l.drop (k + 1))) := fun w7 hb7 => by
              rcases HO2.out with q | q
              · rw [q]; exact .inr ⟨b, _, rfl, (HU.out.below hb7 HU.out.1).drop (k + 1)⟩
              · exact .inl (by rw [HLD.out, ← HM2.out]; omega)
            go_wp2_with fail
            go_region_held3 (fun w' => w'.cell? ⟨w.heap.size, 0, none⟩ = some (.int .i64 h) ∧ w'.cell? ⟨w.heap.size, 1, none⟩ = some (.int .i64 r) ∧ w'.cell? ⟨w.heap.size, 2, none⟩ = some (.int .i64 c)) (go_keep)
              (first
                | (go_at_call 34; refine (Had_any h r c x8 (n - 1) c8 R d _ (by exact HC8.out) HDL.out hn1m).mono ?_; rintro e w9 ⟨⟨v9, er9, rfl, hh9⟩, hb9⟩
                   have HH9 := Lib.hid hh9
                   have HB9 := Lib.hid (HB8.out.trans ((show Below w8.heap.size w8 w9 from hb9).mono HB8.out.size))
                   obtain ⟨i0, i1, i2⟩ := HL8.out.below (show Below w8.heap.size w8 w9 from hb9) hs8
                   clear hh9 hb9)
                | (have := HG7; refine step_app_us _ rfl (.tmp 67) (.tmp 71) (by rfl) W4.heap.size _ (l.take k) (by rfl) (by exact HG7.out) _ _ _ (l.drop (k + 1)) (by rfl) (HSRC.out _ HB7.out) (by exact HLD.out) (by rw [HLT.out]; have := HM2.out; omega) (by have := HB7.out.size; omega) ?_
                   intro v8 w8 hg8 hb8 _
                   rw [HDR.out] at hg8
                   obtain ⟨x8, c8, rfl, hc8⟩ := hg8.slice
                   rw [HDL.out]
                   have HC8 := Lib.hid hc8
                   have HY8 := Lib.hid (HB7.out.trans hb8)
                   have HB8 := Lib.hid (HB4.out.trans (HY8.out.mono HB4.out.size))
                   have HL8 := Lib.hid (HL4.out.below HY8.out hs4)
                   have hs8 : w.heap.size + 1 ≤ w8.heap.size := Nat.le_trans hs4 HY8.out.size
                   obtain ⟨j0, j1, j2⟩ := HL8.out
                   clear hg8 hb8 hc8)
                | (refine step_app_us _ rfl (.tmp 63) (.tmp 66) (by rfl) W4.heap.size (.slice (some ⟨W4.heap.size, 0, none⟩) 0 0) [] (by rfl) (by first | exact GrowU.made W4.drew (Nat.le_refl _) | exact GrowU.made W4 (Nat.le_refl _)) _ _ _ (l.take k) (by rfl) (by exact .inr ⟨b, off, rfl, (HU.out.below ((Below.refl W4.heap.size W4).drew.alloc (Nat.le_refl _) (.cells #[] 64)) HU.out.1).take k⟩) (by exact HLT.out) (by simp; omega) (by simp) ?_
                   intro v7 w7 hg7 hb7 _
                   rw [List.nil_append] at hg7
                   obtain ⟨x7, c7, rfl, _⟩ := hg7.slice
                   have HG7 := Lib.hid hg7
                   have HB7 := Lib.hid (((Below.refl W4.heap.size W4).drew.alloc (Nat.le_refl _) (.cells #[] 64)).trans hb7)
                   obtain ⟨j0, j1, j2⟩ := HL4.out.below HB7.out hs4
                   clear hg7 hb7))
            obtain rfl : er9 = 0 := HH9.out.1.2 ⟨HOKK.out, HDO.out⟩
            have hle : v ≤ v9 := by rw [HH9.out.2 rfl p' HPP.out]; exact HLS.out p' HPP.out
            go_wp2_with fail
            go_ret
            exact ⟨by first | rfl | exact cret_bool (by simp), HB9.out⟩
        · have hhd' : decide (h < d) = false := decide_eq_false hhd
          clear hmo hda
          by_cases hn0 : n = 0
          · have hE : ((n : Int) == 0) = true := by simp [hn0]
            go_wp2_with fail
            go_ret
            exact ⟨rfl, HB4.out⟩
          · have hE : ((n : Int) == 0) = false := by simp; omega
            have hE2 : decide ((n : Int) = 0) = false := decide_eq_false (by omega)
            obtain ⟨k, hk⟩ : ∃ k : Nat, chooseI q n = (k : Int) := ⟨(chooseI q n).toNat, by have := choose_bd q n (by omega); omega⟩
            have hkn : k < n := by have := choose_bd q n (by omega); omega
            have HCH := Lib.hid (fun w => choose_any q n w HWQ.out.1 HWQ.out.2 (by omega) (by omega))
            rw [hk] at HCH
            clear hk
            obtain ⟨b, off, rfl, hU⟩ : ∃ b off, a = some ⟨b, off, none⟩ ∧ UAt w b off l := by
              rcases HC.out with h0 | z
              · have := HN.out; omega
              · exact z
            have HU := Lib.hid (hU.below HB4.out hU.1)
            obtain ⟨okk, hless⟩ := HLESS.out k hkn
            have HOKK := Lib.hid okk
            have HLS := Lib.hid hless
            have hcp1 : (n : Int) ≤ (cap : Int) := by have := HCP.out.1; omega
            have hcp2 : cap ≤ 9223372036854775807 := by have := HCP.out.2; unfold maxLen at this; omega
            have HLT : Hid ((l.take k).length = k) := Lib.hid (by rw [List.length_take, HN.out]; omega)
            have HLD : Hid ((l.drop (k + 1)).length = n - (k + 1)) := Lib.hid (by rw [List.length_drop, HN.out])
            have HDR : Hid (l.take k ++ l.drop (k + 1) = drp l k) := rfl
            have HDL : Hid ((drp l k).length = n - 1) := by unfold Hid; rw [drp_len (by rw [HN.out]; exact hkn), HN.out]
            obtain ⟨R, hR⟩ : ∃ R, drp l k = R := ⟨_, rfl⟩
            rw [hR] at HDR HDL HOKK HLS
            clear hR okk hless hU
            obtain ⟨p', hp'⟩ := PreOf.exists (l := R) d (fun i j hij hj => HOKK.out.mono hij hj)
            have HPP := Lib.hid hp'
            clear hp'
            have hk1 : (k : Int) + 1 ≤ (n : Int) := by omega
            have hkc : (k : Int) ≤ (cap : Int) := by omega
            have hk1c : (k : Int) + 1 ≤ (cap : Int) := by omega
            have hkz : (0 : Int) ≤ (k : Int) := by omega
            have hkz1 : (0 : Int) ≤ (k : Int) + 1 := by omega
            have hkn' : (k : Int) ≤ (n : Int) := by omega
            have hn1m : n - 1 ≤ maxLen := by unfold maxLen; omega
            go_wp2_with (first | (go_at_call 31; refine (HCH.out _).mono ?_; rintro e w' ⟨rfl, h'⟩; subst w'; refine Hid.out ?_))
            obtain ⟨W4, hW4⟩ : ∃ W4, W4 = w3.alloc (.cells #[.int .i64 (2000 + (ky : Int)), .int .i64 (mo : Int), .int .i64 da] 59) := ⟨_, rfl⟩
            rw [← hW4] at HU HB4 HL4 k0 k1 k2 ⊢
            have hs4 : w.heap.size + 1 ≤ W4.heap.size := by rw [hW4]; simp; omega
            clear hW4 HCH
            refine Lib.hid ?_
            have hw9 : IntKind.i64.wrap ((k : Int) + 1) = (k : Int) + 1 := IntWalk.i64_in _ (by omega)
            have hsl1 := run_upto b off n cap k (by omega) HCP.out.1
            obtain ⟨o2, c2, hsl2, ho2⟩ := run_from b off n cap k hkn HCP.out.1
            obtain ⟨m2, hm2⟩ : ∃ m2, n - (k + 1) = m2 := ⟨_, rfl⟩
            rw [hm2] at hsl2 HLD
            have HM2 := Lib.hid hm2
            have HO2 := Lib.hid ho2
            clear hm2 ho2
            have HSRC : Hid (∀ w7 : World, Below W4.heap.size W4 w7 → CameU w7 (some ⟨b, o2, none⟩) (l.drop (k + 1))) := fun w7 hb7 => by
              rcases HO2.out with q | q
              · rw [q]; exact .inr ⟨b, _, rfl, (HU.out.below hb7 HU.out.1).drop (k + 1)⟩
              · exact .inl (by rw [HLD.out, ← HM2.out]; omega)
            go_wp2_with fail
            go_region_held3 (fun w' => w'.cell? ⟨w.heap.size, 0, none⟩ = some (.int .i64 h) ∧ w'.cell? ⟨w.heap.size, 1, none⟩ = some (.int .i64 r) ∧ w'.cell? ⟨w.heap.size, 2, none⟩ = some (.int .i64 c)) (go_keep)
              (first
                | (go_at_call 34; refine (Had_any h r c x8 (n - 1) c8 R d _ (by exact HC8.out) HDL.out hn1m).mono ?_; rintro e w9 ⟨⟨v9, er9, rfl, hh9⟩, hb9⟩
                   have HH9 := Lib.hid hh9
                   have HB9 := Lib.hid (HB8.out.trans ((show Below w8.heap.size w8 w9 from hb9).mono HB8.out.size))
                   obtain ⟨i0, i1, i2⟩ := HL8.out.below (show Below w8.heap.size w8 w9 from hb9) hs8
                   clear hh9 hb9)
                | (have := HG7; refine step_app_us _ rfl (.tmp 67) (.tmp 71) (by rfl) W4.heap.size _ (l.take k) (by rfl) (by exact HG7.out) _ _ _ (l.drop (k + 1)) (by rfl) (HSRC.out _ HB7.out) (by exact HLD.out) (by rw [HLT.out]; have := HM2.out; omega) (by have := HB7.out.size; omega) ?_
                   intro v8 w8 hg8 hb8 _
                   rw [HDR.out] at hg8
                   obtain ⟨x8, c8, rfl, hc8⟩ := hg8.slice
                   rw [HDL.out]
                   have HC8 := Lib.hid hc8
                   have HY8 := Lib.hid (HB7.out.trans hb8)
                   have HB8 := Lib.hid (HB4.out.trans (HY8.out.mono HB4.out.size))
                   have HL8 := Lib.hid (HL4.out.below HY8.out hs4)
                   have hs8 : w.heap.size + 1 ≤ w8.heap.size := Nat.le_trans hs4 HY8.out.size
                   obtain ⟨j0, j1, j2⟩ := HL8.out
                   clear hg8 hb8 hc8)
                | (refine step_app_us _ rfl (.tmp 63) (.tmp 66) (by rfl) W4.heap.size (.slice (some ⟨W4.heap.size, 0, none⟩) 0 0) [] (by rfl) (by first | exact GrowU.made W4.drew (Nat.le_refl _) | exact GrowU.made W4 (Nat.le_refl _)) _ _ _ (l.take k) (by rfl) (by exact .inr ⟨b, off, rfl, (HU.out.below ((Below.refl W4.heap.size W4).drew.alloc (Nat.le_refl _) (.cells #[] 64)) HU.out.1).take k⟩) (by exact HLT.out) (by simp; omega) (by simp) ?_
                   intro v7 w7 hg7 hb7 _
                   rw [List.nil_append] at hg7
                   obtain ⟨x7, c7, rfl, _⟩ := hg7.slice
                   have HG7 := Lib.hid hg7
                   have HB7 := Lib.hid (((Below.refl W4.heap.size W4).drew.alloc (Nat.le_refl _) (.cells #[] 64)).trans hb7)
                   obtain ⟨j0, j1, j2⟩ := HL4.out.below HB7.out hs4
                   clear hg7 hb7))
            obtain rfl : er9 = 0 := HH9.out.1.2 ⟨HOKK.out, HDO.out⟩
            have hle : v ≤ v9 := by rw [HH9.out.2 rfl p' HPP.out]; exact HLS.out p' HPP.out
            go_wp2_with fail
            go_ret
            exact ⟨by first | rfl | exact cret_bool (by simp), HB9.out⟩
      · have hd1' : (da == 1) = false := by simpa using hda
        have hd1'' : decide (da = 1) = false := decide_eq_false hda
        clear hmo
        by_cases hn0 : n = 0
        · have hE : ((n : Int) == 0) = true := by simp [hn0]
          go_wp2_with fail
          go_ret
          exact ⟨rfl, HB4.out⟩
        · have hE : ((n : Int) == 0) = false := by simp; omega
          have hE2 : decide ((n : Int) = 0) = false := decide_eq_false (by omega)
          obtain ⟨k, hk⟩ : ∃ k : Nat, chooseI q n = (k : Int) := ⟨(chooseI q n).toNat, by have := choose_bd q n (by omega); omega⟩
          have hkn : k < n := by have := choose_bd q n (by omega); omega
          have HCH := Lib.hid (fun w => choose_any q n w HWQ.out.1 HWQ.out.2 (by omega) (by omega))
          rw [hk] at HCH
          clear hk
          obtain ⟨b, off, rfl, hU⟩ : ∃ b off, a = some ⟨b, off, none⟩ ∧ UAt w b off l := by
            rcases HC.out with h0 | z
            · have := HN.out; omega
            · exact z
          have HU := Lib.hid (hU.below HB4.out hU.1)
          obtain ⟨okk, hless⟩ := HLESS.out k hkn
          have HOKK := Lib.hid okk
          have HLS := Lib.hid hless
          have hcp1 : (n : Int) ≤ (cap : Int) := by have := HCP.out.1; omega
          have hcp2 : cap ≤ 9223372036854775807 := by have := HCP.out.2; unfold maxLen at this; omega
          have HLT : Hid ((l.take k).length = k) := Lib.hid (by rw [List.length_take, HN.out]; omega)
          have HLD : Hid ((l.drop (k + 1)).length = n - (k + 1)) := Lib.hid (by rw [List.length_drop, HN.out])
          have HDR : Hid (l.take k ++ l.drop (k + 1) = drp l k) := rfl
          have HDL : Hid ((drp l k).length = n - 1) := by unfold Hid; rw [drp_len (by rw [HN.out]; exact hkn), HN.out]
          obtain ⟨R, hR⟩ : ∃ R, drp l k = R := ⟨_, rfl⟩
          rw [hR] at HDR HDL HOKK HLS
          clear hR okk hless hU
          obtain ⟨p', hp'⟩ := PreOf.exists (l := R) d (fun i j hij hj => HOKK.out.mono hij hj)
          have HPP := Lib.hid hp'
          clear hp'
          have hk1 : (k : Int) + 1 ≤ (n : Int) := by omega
          have hkc : (k : Int) ≤ (cap : Int) := by omega
          have hk1c : (k : Int) + 1 ≤ (cap : Int) := by omega
          have hkz : (0 : Int) ≤ (k : Int) := by omega
          have hkz1 : (0 : Int) ≤ (k : Int) + 1 := by omega
          have hkn' : (k : Int) ≤ (n : Int) := by omega
          have hn1m : n - 1 ≤ maxLen := by unfold maxLen; omega
          go_wp2_with (first | (go_at_call 31; refine (HCH.out _).mono ?_; rintro e w' ⟨rfl, h'⟩; subst w'; refine Hid.out ?_))
          obtain ⟨W4, hW4⟩ : ∃ W4, W4 = w3.alloc (.cells #[.int .i64 (2000 + (ky : Int)), .int .i64 (mo : Int), .int .i64 da] 59) := ⟨_, rfl⟩
          rw [← hW4] at HU HB4 HL4 k0 k1 k2 ⊢
          have hs4 : w.heap.size + 1 ≤ W4.heap.size := by rw [hW4]; simp; omega
          clear hW4 HCH
          refine Lib.hid ?_
          have hw9 : IntKind.i64.wrap ((k : Int) + 1) = (k : Int) + 1 := IntWalk.i64_in _ (by omega)
          have hsl1 := run_upto b off n cap k (by omega) HCP.out.1
          obtain ⟨o2, c2, hsl2, ho2⟩ := run_from b off n cap k hkn HCP.out.1
          obtain ⟨m2, hm2⟩ : ∃ m2, n - (k + 1) = m2 := ⟨_, rfl⟩
          rw [hm2] at hsl2 HLD
          have HM2 := Lib.hid hm2
          have HO2 := Lib.hid ho2
          clear hm2 ho2
          have HSRC : Hid (∀ w7 : World, Below W4.heap.size W4 w7 → CameU w7 (some ⟨b, o2, none⟩) (l.drop (k + 1))) := fun w7 hb7 => by
            rcases HO2.out with q | q
            · rw [q]; exact .inr ⟨b, _, rfl, (HU.out.below hb7 HU.out.1).drop (k + 1)⟩
            · exact .inl (by rw [HLD.out, ← HM2.out]; omega)
          go_wp2_with fail
          go_region_held3 (fun w' => w'.cell? ⟨w.heap.size, 0, none⟩ = some (.int .i64 h) ∧ w'.cell? ⟨w.heap.size, 1, none⟩ = some (.int .i64 r) ∧ w'.cell? ⟨w.heap.size, 2, none⟩ = some (.int .i64 c)) (go_keep)
            (first
              | (go_at_call 34; refine (Had_any h r c x8 (n - 1) c8 R d _ (by exact HC8.out) HDL.out hn1m).mono ?_; rintro e w9 ⟨⟨v9, er9, rfl, hh9⟩, hb9⟩
                 have HH9 := Lib.hid hh9
                 have HB9 := Lib.hid (HB8.out.trans ((show Below w8.heap.size w8 w9 from hb9).mono HB8.out.size))
                 obtain ⟨i0, i1, i2⟩ := HL8.out.below (show Below w8.heap.size w8 w9 from hb9) hs8
                 clear hh9 hb9)
              | (have := HG7; refine step_app_us _ rfl (.tmp 67) (.tmp 71) (by rfl) W4.heap.size _ (l.take k) (by rfl) (by exact HG7.out) _ _ _ (l.drop (k + 1)) (by rfl) (HSRC.out _ HB7.out) (by exact HLD.out) (by rw [HLT.out]; have := HM2.out; omega) (by have := HB7.out.size; omega) ?_
                 intro v8 w8 hg8 hb8 _
                 rw [HDR.out] at hg8
                 obtain ⟨x8, c8, rfl, hc8⟩ := hg8.slice
                 rw [HDL.out]
                 have HC8 := Lib.hid hc8
                 have HY8 := Lib.hid (HB7.out.trans hb8)
                 have HB8 := Lib.hid (HB4.out.trans (HY8.out.mono HB4.out.size))
                 have HL8 := Lib.hid (HL4.out.below HY8.out hs4)
                 have hs8 : w.heap.size + 1 ≤ w8.heap.size := Nat.le_trans hs4 HY8.out.size
                 obtain ⟨j0, j1, j2⟩ := HL8.out
                 clear hg8 hb8 hc8)
              | (refine step_app_us _ rfl (.tmp 63) (.tmp 66) (by rfl) W4.heap.size (.slice (some ⟨W4.heap.size, 0, none⟩) 0 0) [] (by rfl) (by first | exact GrowU.made W4.drew (Nat.le_refl _) | exact GrowU.made W4 (Nat.le_refl _)) _ _ _ (l.take k) (by rfl) (by exact .inr ⟨b, off, rfl, (HU.out.below ((Below.refl W4.heap.size W4).drew.alloc (Nat.le_refl _) (.cells #[] 64)) HU.out.1).take k⟩) (by exact HLT.out) (by simp; omega) (by simp) ?_
                 intro v7 w7 hg7 hb7 _
                 rw [List.nil_append] at hg7
                 obtain ⟨x7, c7, rfl, _⟩ := hg7.slice
                 have HG7 := Lib.hid hg7
                 have HB7 := Lib.hid (((Below.refl W4.heap.size W4).drew.alloc (Nat.le_refl _) (.cells #[] 64)).trans hb7)
                 obtain ⟨j0, j1, j2⟩ := HL4.out.below HB7.out hs4
                 clear hg7 hb7))
          obtain rfl : er9 = 0 := HH9.out.1.2 ⟨HOKK.out, HDO.out⟩
          have hle : v ≤ v9 := by rw [HH9.out.2 rfl p' HPP.out]; exact HLS.out p' HPP.out
          go_wp2_with fail
          go_ret
          exact ⟨by first | rfl | exact cret_bool (by simp), HB9.out⟩
    · have hm1 : ((mo : Int) == 1) = false := by simp; omega
      have hm1' : decide ((mo : Int) = 1) = false := decide_eq_false (by omega)
      by_cases hn0 : n = 0
      · have hE : ((n : Int) == 0) = true := by simp [hn0]
        go_wp2_with fail
        go_ret
        exact ⟨rfl, HB4.out⟩
      · have hE : ((n : Int) == 0) = false := by simp; omega
        have hE2 : decide ((n : Int) = 0) = false := decide_eq_false (by omega)
        obtain ⟨k, hk⟩ : ∃ k : Nat, chooseI q n = (k : Int) := ⟨(chooseI q n).toNat, by have := choose_bd q n (by omega); omega⟩
        have hkn : k < n := by have := choose_bd q n (by omega); omega
        have HCH := Lib.hid (fun w => choose_any q n w HWQ.out.1 HWQ.out.2 (by omega) (by omega))
        rw [hk] at HCH
        clear hk
        obtain ⟨b, off, rfl, hU⟩ : ∃ b off, a = some ⟨b, off, none⟩ ∧ UAt w b off l := by
          rcases HC.out with h0 | z
          · have := HN.out; omega
          · exact z
        have HU := Lib.hid (hU.below HB4.out hU.1)
        obtain ⟨okk, hless⟩ := HLESS.out k hkn
        have HOKK := Lib.hid okk
        have HLS := Lib.hid hless
        have hcp1 : (n : Int) ≤ (cap : Int) := by have := HCP.out.1; omega
        have hcp2 : cap ≤ 9223372036854775807 := by have := HCP.out.2; unfold maxLen at this; omega
        have HLT : Hid ((l.take k).length = k) := Lib.hid (by rw [List.length_take, HN.out]; omega)
        have HLD : Hid ((l.drop (k + 1)).length = n - (k + 1)) := Lib.hid (by rw [List.length_drop, HN.out])
        have HDR : Hid (l.take k ++ l.drop (k + 1) = drp l k) := rfl
        have HDL : Hid ((drp l k).length = n - 1) := by unfold Hid; rw [drp_len (by rw [HN.out]; exact hkn), HN.out]
        obtain ⟨R, hR⟩ : ∃ R, drp l k = R := ⟨_, rfl⟩
        rw [hR] at HDR HDL HOKK HLS
        clear hR okk hless hU
        obtain ⟨p', hp'⟩ := PreOf.exists (l := R) d (fun i j hij hj => HOKK.out.mono hij hj)
        have HPP := Lib.hid hp'
        clear hp'
        have hk1 : (k : Int) + 1 ≤ (n : Int) := by omega
        have hkc : (k : Int) ≤ (cap : Int) := by omega
        have hk1c : (k : Int) + 1 ≤ (cap : Int) := by omega
        have hkz : (0 : Int) ≤ (k : Int) := by omega
        have hkz1 : (0 : Int) ≤ (k : Int) + 1 := by omega
        have hkn' : (k : Int) ≤ (n : Int) := by omega
        have hn1m : n - 1 ≤ maxLen := by unfold maxLen; omega
        go_wp2_with (first | (go_at_call 31; refine (HCH.out _).mono ?_; rintro e w' ⟨rfl, h'⟩; subst w'; refine Hid.out ?_))
        obtain ⟨W4, hW4⟩ : ∃ W4, W4 = w3.alloc (.cells #[.int .i64 (2000 + (ky : Int)), .int .i64 (mo : Int), .int .i64 da] 59) := ⟨_, rfl⟩
        rw [← hW4] at HU HB4 HL4 k0 k1 k2 ⊢
        have hs4 : w.heap.size + 1 ≤ W4.heap.size := by rw [hW4]; simp; omega
        clear hW4 HCH
        refine Lib.hid ?_
        have hw9 : IntKind.i64.wrap ((k : Int) + 1) = (k : Int) + 1 := IntWalk.i64_in _ (by omega)
        have hsl1 := run_upto b off n cap k (by omega) HCP.out.1
        obtain ⟨o2, c2, hsl2, ho2⟩ := run_from b off n cap k hkn HCP.out.1
        obtain ⟨m2, hm2⟩ : ∃ m2, n - (k + 1) = m2 := ⟨_, rfl⟩
        rw [hm2] at hsl2 HLD
        have HM2 := Lib.hid hm2
        have HO2 := Lib.hid ho2
        clear hm2 ho2
        have HSRC : Hid (∀ w7 : World, Below W4.heap.size W4 w7 → CameU w7 (some ⟨b, o2, none⟩) (l.drop (k + 1))) := fun w7 hb7 => by
          rcases HO2.out with q | q
          · rw [q]; exact .inr ⟨b, _, rfl, (HU.out.below hb7 HU.out.1).drop (k + 1)⟩
          · exact .inl (by rw [HLD.out, ← HM2.out]; omega)
        go_wp2_with fail
        go_region_held3 (fun w' => w'.cell? ⟨w.heap.size, 0, none⟩ = some (.int .i64 h) ∧ w'.cell? ⟨w.heap.size, 1, none⟩ = some (.int .i64 r) ∧ w'.cell? ⟨w.heap.size, 2, none⟩ = some (.int .i64 c)) (go_keep)
          (first
            | (go_at_call 34; refine (Had_any h r c x8 (n - 1) c8 R d _ (by exact HC8.out) HDL.out hn1m).mono ?_; rintro e w9 ⟨⟨v9, er9, rfl, hh9⟩, hb9⟩
               have HH9 := Lib.hid hh9
               have HB9 := Lib.hid (HB8.out.trans ((show Below w8.heap.size w8 w9 from hb9).mono HB8.out.size))
               obtain ⟨i0, i1, i2⟩ := HL8.out.below (show Below w8.heap.size w8 w9 from hb9) hs8
               clear hh9 hb9)
            | (have := HG7; refine step_app_us _ rfl (.tmp 67) (.tmp 71) (by rfl) W4.heap.size _ (l.take k) (by rfl) (by exact HG7.out) _ _ _ (l.drop (k + 1)) (by rfl) (HSRC.out _ HB7.out) (by exact HLD.out) (by rw [HLT.out]; have := HM2.out; omega) (by have := HB7.out.size; omega) ?_
               intro v8 w8 hg8 hb8 _
               rw [HDR.out] at hg8
               obtain ⟨x8, c8, rfl, hc8⟩ := hg8.slice
               rw [HDL.out]
               have HC8 := Lib.hid hc8
               have HY8 := Lib.hid (HB7.out.trans hb8)
               have HB8 := Lib.hid (HB4.out.trans (HY8.out.mono HB4.out.size))
               have HL8 := Lib.hid (HL4.out.below HY8.out hs4)
               have hs8 : w.heap.size + 1 ≤ w8.heap.size := Nat.le_trans hs4 HY8.out.size
               obtain ⟨j0, j1, j2⟩ := HL8.out
               clear hg8 hb8 hc8)
            | (refine step_app_us _ rfl (.tmp 63) (.tmp 66) (by rfl) W4.heap.size (.slice (some ⟨W4.heap.size, 0, none⟩) 0 0) [] (by rfl) (by first | exact GrowU.made W4.drew (Nat.le_refl _) | exact GrowU.made W4 (Nat.le_refl _)) _ _ _ (l.take k) (by rfl) (by exact .inr ⟨b, off, rfl, (HU.out.below ((Below.refl W4.heap.size W4).drew.alloc (Nat.le_refl _) (.cells #[] 64)) HU.out.1).take k⟩) (by exact HLT.out) (by simp; omega) (by simp) ?_
               intro v7 w7 hg7 hb7 _
               rw [List.nil_append] at hg7
               obtain ⟨x7, c7, rfl, _⟩ := hg7.slice
               have HG7 := Lib.hid hg7
               have HB7 := Lib.hid (((Below.refl W4.heap.size W4).drew.alloc (Nat.le_refl _) (.cells #[] 64)).trans hb7)
               obtain ⟨j0, j1, j2⟩ := HL4.out.below HB7.out hs4
               clear hg7 hb7))
        obtain rfl : er9 = 0 := HH9.out.1.2 ⟨HOKK.out, HDO.out⟩
        have hle : v ≤ v9 := by rw [HH9.out.2 rfl p' HPP.out]; exact HLS.out p' HPP.out
        go_wp2_with fail
        go_ret
        exact ⟨by first | rfl | exact cret_bool (by simp), HB9.out⟩
  · have hne : (er != 0) = true := by simpa using her
    go_wp2_with fail
    go_ret
    exact ⟨rfl, HB2.out⟩
end Go.Proofs.Ytlaamfagjpdhgaa
