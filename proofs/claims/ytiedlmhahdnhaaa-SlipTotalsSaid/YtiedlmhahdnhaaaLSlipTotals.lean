/-
  The walk of the law SlipTotals: it answers true at every input.
-/
import Derived.Test.YtiedlmhahdnhaaaSTotR
import Derived.Test.YtiedlmhahdnhaaaSSame
namespace Go.Proofs.Ytiedlmhahdnhaaa
open Go.RowKit Go.Sort

theorem sameAmsS (v u : Value) (l : List Am) (w : World) (hl : l.length ≤ 100000) (hv : AmsIn w v l) (hu : AmsIn w u l) :
    Calls Try.prog 16 #[v, u] w fun e w' => e = .returned (.bool true) ∧ Go.RowKit.Below w.heap.size w w' := by
  obtain ⟨x, c, rfl, hv⟩ := hv
  obtain ⟨y, d, rfl, hu⟩ := hu
  refine (sameAmounts_yes x y l.length c d l w hv hu rfl (by omega)).mono ?_
  rintro e w' ⟨h, q, rfl⟩
  exact ⟨h, ⟨rfl, rfl, rfl, Nat.le_refl _, fun _ _ => rfl⟩⟩
set_option maxRecDepth 100000 in
set_option maxHeartbeats 4000000 in
theorem walk_slipTotals (a : Option Addr) (n cap : Nat) (l : List Sl) {w : World} (hc : CameS w a l) (hn : l.length = n) (_ : n ≤ maxLen) (_ : ∀ j, j < n → WfSl (snth l j)) (p : Int) (_ : (Lit.int .i64 p).wf = true) :
    Calls Try.prog 4 #[.slice a n cap, .int .i64 p] w fun e w' => e = .returned (.bool true) ∧ Go.RowKit.Below w.heap.size w w' := by
  have HC := Lib.hid hc
  have HN := Lib.hid hn
  clear hc hn
  go_enter Try.func4, Try.ntmps4
  go_wp2_with fail
  refine (Totals_any a n cap l p _ HC.out HN.out).mono ?_
  rintro e w1 ⟨v, er, rfl, hret, hb⟩
  have HB1 := Lib.hid hb
  have HR1 := Lib.hid hret
  clear hb hret
  go_wp2_with fail
  refine (checkSlips_ref a n cap l _ (HC.out.below HB1.out) HN.out).mono ?_
  rintro e w2 ⟨rfl, hb⟩
  have HB2 := Lib.hid (HB1.out.trans (hb.mono HB1.out.size))
  have HR2 := Lib.hid (HR1.out.below hb)
  clear hb HB1 HR1
  rcases HR2.out with ⟨h0, rfl, rfl⟩ | ⟨h0, hp, rfl, rfl⟩ | ⟨h0, hp, am, hams, hlen, hcase⟩
  · have h1 : (slE l == 0) = false := by simpa using h0
    have h2 : decide (slE l = 0) = false := decide_eq_false h0
    have h3 : (slE l == slE l) = true := by simp
    obtain ⟨cc, hcc⟩ : ∃ z, slE l = z := ⟨_, rfl⟩
    rw [hcc] at h1 h2 h3 ⊢
    have HLE : Hid (([] : List Am).length ≤ 100000) := by unfold Hid; simp
    clear h0 hcc HR2
    go_wp2_with (first | (go_at_call 10; refine (slipBegun_any _).mono ?_; rintro e w8 ⟨rfl, hb8⟩; refine Hid.out ?_))
    have HB8 := Lib.hid (HB2.out.trans (hb8.mono HB2.out.size))
    have HV8 := Lib.hid ((AmsIn.nil w2).below hb8)
    have HU8 := Lib.hid ((AmsIn.nil w2).below hb8)
    clear hb8
    refine Lib.hid ?_
    go_wp2_with (first | (go_at_call 16; refine (sameAmsS _ _ [] _ HLE.out HV8.out HU8.out).mono ?_; rintro e w9 ⟨rfl, hb9⟩))
    go_ret
    exact ⟨by first | rfl | exact kret_bool (by simp), HB8.out.trans (hb9.mono HB8.out.size)⟩
  · have HLE : Hid (([] : List Am).length ≤ 100000) := by unfold Hid; simp
    rw [h0]
    clear h0 HR2
    go_wp2_with (first | (go_at_call 14; refine (isPerson_ref _ _).mono ?_; rintro e w' ⟨rfl, h'⟩; subst w'; rw [hp]) | (go_at_call 10; refine (slipBegun_any _).mono ?_; rintro e w8 ⟨rfl, hb8⟩; refine Hid.out ?_))
    have HB8 := Lib.hid (HB2.out.trans (hb8.mono HB2.out.size))
    clear hb8
    refine Lib.hid ?_
    go_wp2_with (first | (go_at_call 16; refine (sameAmsS _ _ [] _ HLE.out (AmsIn.nil _) (AmsIn.nil _)).mono ?_; rintro e w9 ⟨rfl, hb9⟩))
    go_ret
    exact ⟨by first | rfl | exact kret_bool (by simp), HB8.out.trans (hb9.mono HB8.out.size)⟩
  · have H0 := Lib.hid h0
    have HAMS := Lib.hid hams
    have HCASE := Lib.hid hcase
    have HLE : Hid (am.length ≤ 100000) := by unfold Hid; omega
    rw [h0]
    clear h0 hams hlen hcase HR2
    go_wp2_with (first
      | (go_at_call 14; refine (isPerson_ref _ _).mono ?_; rintro e w' ⟨rfl, h'⟩; subst w'; rw [hp])
      | (go_at_call 15; refine (slipTotals_ref a n cap l p _ (HC.out.below HB2.out) HN.out H0.out).mono ?_; rintro e w3 ⟨u, ok, am2, rfl, hams2, hlen2, hcase2, hb3⟩; refine Hid.out ?_))
    obtain rfl : am = am2 := HAMS.out.unique hams2
    have HB3 := Lib.hid (HB2.out.trans (hb3.mono HB2.out.size))
    have HC3 := Lib.hid hcase2
    have HK3 := Lib.hid hb3
    clear hb3 hams2 hlen2 hcase2
    rcases HCASE.out with ⟨hm, rfl, rfl⟩ | ⟨hm, rfl, hv⟩
    · rcases HC3.out with ⟨_, rfl, rfl⟩ | ⟨hm2, _⟩
      · have HLE : Hid (([] : List Am).length ≤ 100000) := by unfold Hid; simp
        clear HCASE HC3
        refine Lib.hid ?_
        go_wp2_with (first | (go_at_call 10; refine (slipBegun_any _).mono ?_; rintro e w8 ⟨rfl, hb8⟩; refine Hid.out ?_))
        have HB8 := Lib.hid (HB3.out.trans (hb8.mono HB3.out.size))
        have HV8 := Lib.hid ((AmsIn.nil w3).below hb8)
        have HU8 := Lib.hid ((AmsIn.nil w3).below hb8)
        clear hb8
        refine Lib.hid ?_
        go_wp2_with (first | (go_at_call 16; refine (sameAmsS _ _ [] _ HLE.out HV8.out HU8.out).mono ?_; rintro e w9 ⟨rfl, hb9⟩))
        go_ret
        exact ⟨by first | rfl | exact kret_bool (by simp), HB8.out.trans (hb9.mono HB8.out.size)⟩
      · rw [hm] at hm2; cases hm2
    · rcases HC3.out with ⟨hm2, _⟩ | ⟨_, rfl, hu⟩
      · rw [hm] at hm2; cases hm2
      · have HV3 := Lib.hid (hv.below HK3.out)
        have HU3 := Lib.hid hu
        obtain ⟨xv, cv, rfl, _⟩ := hv
        obtain ⟨xu, cu, rfl, _⟩ := hu
        clear HCASE HC3
        refine Lib.hid ?_
        go_wp2_with (first | (go_at_call 10; refine (slipBegun_any _).mono ?_; rintro e w8 ⟨rfl, hb8⟩; refine Hid.out ?_))
        have HB8 := Lib.hid (HB3.out.trans (hb8.mono HB3.out.size))
        have HV8 := Lib.hid (HV3.out.below hb8)
        have HU8 := Lib.hid (HU3.out.below hb8)
        clear hb8
        refine Lib.hid ?_
        go_wp2_with (first | (go_at_call 16; refine (sameAmsS _ _ am _ HLE.out HV8.out HU8.out).mono ?_; rintro e w9 ⟨rfl, hb9⟩))
        go_ret
        exact ⟨by first | rfl | exact kret_bool (by simp), HB8.out.trans (hb9.mono HB8.out.size)⟩
end Go.Proofs.Ytiedlmhahdnhaaa
