/-
  The walk of the law LedgerTrials: it answers true at every input.
-/
import Derived.Test.YtdgcfakbmhchdaaQTriW
namespace Go.Proofs.Ytdgcfakbmhchdaa
open Go.RowKit Go.Sort

theorem namB_a : namB ⟨#[97]⟩ = true := by decide +kernel
theorem askA (l : List En) (d : Int) : askE l ⟨#[97]⟩ 0 d = trE l d := by
  rw [askE_1, namB_a, if_pos rfl]
  rfl
set_option maxRecDepth 100000 in
set_option maxHeartbeats 4000000 in
theorem walk_ledgerTrials (a : Option Addr) (n cap : Nat) (l : List En) {w : World} (hc : CameE w a l) (hn : l.length = n) (_ : n ≤ maxLen) (_ : ∀ j, j < n → (Lit.int .i64 (enth l j).day).wf = true) (d : Int) (_ : (Lit.int .i64 d).wf = true) :
    Calls Try.prog 7 #[.slice a n cap, .int .i64 d] w fun e w' => e = .returned (.bool true) ∧ Go.RowKit.Below w.heap.size w w' := by
  have HC := Lib.hid hc
  have HN := Lib.hid hn
  clear hc hn
  go_enter Try.func7, Try.ntmps7
  go_wp2_with fail
  refine (Trial_any a n cap l d _ HC.out HN.out).mono ?_
  rintro e w1 ⟨v, rfl, htr, hb⟩
  have HB1 := Lib.hid hb
  have HTR := Lib.hid htr
  clear hb htr
  have HBX := Lib.hid (kbelow_box w1 (.cells #[.int .i64 d] 3))
  have HB2 := Lib.hid (HB1.out.trans (HBX.out.mono HB1.out.size))
  have d0 : (w1.alloc (.cells #[.int .i64 d] 3)).cell? ⟨w1.heap.size, 0, none⟩ = some (.int .i64 d) := by simp
  have HASK := Lib.hid (askA l d)
  go_wp2_with (first
    | (go_at_call 22; refine (onLedger_1 a n cap l ⟨#[97]⟩ d w1.heap.size 1 _ (HC.out.below HB2.out) HN.out (by decide) d0).mono ?_; rintro e w3 ⟨rfl, hb3⟩; refine Hid.out ?_))
  have HB3 := Lib.hid (HB2.out.trans (hb3.mono HB2.out.size))
  have HTR3 := Lib.hid ((HTR.out.below HBX.out).below hb3)
  rw [HASK.out]
  clear hb3 d0 HBX HB2 HB1 HTR HASK
  by_cases h0 : trE l d = 0
  · obtain ⟨am, hams, hlen, hin⟩ := HTR3.out.2 h0
    have HAMS := Lib.hid hams
    have HIN := Lib.hid hin
    have HLE : Hid (am.length ≤ 100000) := hlen
    have H0 : Hid (jrE l = 0) := by
      unfold Hid
      unfold trE at h0
      split at h0
      · assumption
      · rename_i q; exact absurd h0 q
    rw [h0]
    obtain ⟨xv, cv, rfl, _⟩ := hin
    clear h0 hams hlen HTR3
    refine Lib.hid ?_
    go_wp2_with (first
      | (go_at_call 26; refine (trialOf_ref a n cap l d _ (HC.out.below HB3.out) HN.out H0.out).mono ?_; rintro e w4 ⟨u, am2, rfl, hams2, hlen2, hu, hb4⟩; refine Hid.out ?_))
    obtain rfl : am = am2 := HAMS.out.unique hams2
    have HB4 := Lib.hid (HB3.out.trans (hb4.mono HB3.out.size))
    have HV4 := Lib.hid (HIN.out.below hb4)
    have HU4 := Lib.hid hu
    obtain ⟨xu, cu, rfl, _⟩ := hu
    clear hb4 hams2 hlen2 HIN HAMS
    refine Lib.hid ?_
    go_wp2_with (first
      | (go_at_call 11; refine (ledgerBegun_any _).mono ?_; rintro e w8 ⟨rfl, hb8⟩; refine Hid.out ?_)
      )
    have HB8 := Lib.hid (HB4.out.trans (hb8.mono HB4.out.size))
    have HV8 := Lib.hid (HV4.out.below hb8)
    have HU8 := Lib.hid (HU4.out.below hb8)
    clear hb8
    refine Lib.hid ?_
    go_wp2_with (first
      | (go_at_call 27; refine (sameAms_yes _ _ am _ HLE.out HV8.out HU8.out).mono ?_; rintro e w9 ⟨rfl, hb9⟩)
      )
    go_ret
    exact ⟨by first | rfl | exact kret_bool (by simp), HB8.out.trans (hb9.mono HB8.out.size)⟩
  · obtain rfl := HTR3.out.1 h0
    have HLE : Hid (([] : List Am).length ≤ 100000) := by unfold Hid; simp
    have h1 : (trE l d == 0) = false := by simpa using h0
    have h2 : decide (trE l d = 0) = false := decide_eq_false h0
    have h3 : (trE l d == trE l d) = true := by simp
    obtain ⟨cc, hcc⟩ : ∃ z, trE l d = z := ⟨_, rfl⟩
    rw [hcc] at h1 h2 h3 ⊢
    clear h0 hcc HTR3
    refine Lib.hid ?_
    go_wp2_with (first
      | (go_at_call 11; refine (ledgerBegun_any _).mono ?_; rintro e w8 ⟨rfl, hb8⟩; refine Hid.out ?_)
      )
    have HB8 := Lib.hid (HB3.out.trans (hb8.mono HB3.out.size))
    have HV8 := Lib.hid (AmsIn.nil w8)
    have HU8 := Lib.hid (AmsIn.nil w8)
    clear hb8
    refine Lib.hid ?_
    go_wp2_with (first
      | (go_at_call 27; refine (sameAms_yes _ _ [] _ HLE.out HV8.out HU8.out).mono ?_; rintro e w9 ⟨rfl, hb9⟩)
      )
    go_ret
    exact ⟨by first | rfl | exact kret_bool (by simp), HB8.out.trans (hb9.mono HB8.out.size)⟩
end Go.Proofs.Ytdgcfakbmhchdaa
