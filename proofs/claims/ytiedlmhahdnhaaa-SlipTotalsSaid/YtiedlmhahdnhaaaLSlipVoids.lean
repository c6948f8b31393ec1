/-
  The walk of the law SlipVoids: it answers true at every input.
-/
import Derived.Test.YtiedlmhahdnhaaaSSame
namespace Go.Proofs.Ytiedlmhahdnhaaa
open Go.RowKit Go.Sort

theorem voidL_len (l : List Sl) (x : Int) : (voidL l x).length = l.length := vd_len _ _ _
theorem voidG_len (l : List Sl) (x : Int) : (voidG l x).length ≤ l.length := gn_len _ _ _
theorem voidE_sl {l : List Sl} {x : Int} {c : Bool} (h : slE l ≠ 0) : voidE l x c = slE l := by unfold voidE; rw [if_neg h]
theorem voidE_zero {l : List Sl} {x : Int} {c : Bool} (h : voidE l x c = 0) : slE l = 0 := by
  by_cases h0 : slE l = 0
  · exact h0
  · rw [voidE_sl h0] at h; exact absurd h h0
set_option maxRecDepth 100000 in
set_option maxHeartbeats 2000000 in
theorem walk_slipVoids (a : Option Addr) (n cap : Nat) (l : List Sl) {w : World} (hc : CameS w a l) (hn : l.length = n) (_ : n ≤ maxLen) (_ : ∀ j, j < n → WfSl (snth l j)) (x : Int) (_ : (Lit.int .i64 x).wf = true) (c : Bool) :
    Calls Try.prog 5 #[.slice a n cap, .int .i64 x, .bool c] w fun e w' => e = .returned (.bool true) ∧ Go.RowKit.Below w.heap.size w w' := by
  have HC := Lib.hid hc
  have HN := Lib.hid hn
  clear hc hn
  go_enter Try.func5, Try.ntmps5
  go_wp2_with fail
  refine (Void_any a n cap l x c _ HC.out HN.out).mono ?_
  rintro e w1 ⟨v, u, rfl, hret, hb⟩
  have HB1 := Lib.hid hb
  have HV1 := Lib.hid hret.same
  have HC1 := Lib.hid (HC.out.below hb)
  clear hb hret
  go_wp2_with fail
  refine (checkSlips_ref a n cap l _ HC1.out HN.out).mono ?_
  rintro e w2 ⟨rfl, hb⟩
  have HB2 := Lib.hid (HB1.out.trans (hb.mono HB1.out.size))
  have HV2 := Lib.hid (HV1.out.below hb)
  have HC2 := Lib.hid (HC1.out.below hb)
  clear hb
  by_cases h0 : slE l = 0
  · have H0 := Lib.hid h0
    rw [h0]
    clear h0
    have HNL : Hid (l.length ≤ 200) := Lib.hid (slE_ok H0.out).1
    go_wp2_with fail
    refine (voidSlip_ref a n cap l x c _ HC2.out HN.out H0.out).mono ?_
    rintro e w3 ⟨v3, u3, rfl, hret, hb⟩
    have HBQ := Lib.hid (HB2.out.trans (hb.mono HB2.out.size))
    have HVQ := Lib.hid (HV2.out.below hb)
    have HR3 := Lib.hid hret
    clear hb hret
    by_cases he : voidE l x c = 0
    · have HE := Lib.hid he
      rw [he]
      clear he
      go_wp2_with fail
      refine (slipBegun_any _).mono ?_
      rintro e w5 ⟨rfl, hb5⟩
      have HB5 := Lib.hid (HBQ.out.trans (hb5.mono HBQ.out.size))
      have HV5 := Lib.hid (HVQ.out.below hb5)
      have HR5 := Lib.hid (HR3.out.below hb5)
      clear hb5
      go_wp2_with fail
      refine (slipsAre_yes v u v3 u3 0 (voidL l x) (voidG l x) _ (by rw [voidL_len]; have := HNL.out; omega) (by have := voidG_len l x; have := HNL.out; omega) (HV5.out.2 HE.out).1 (HV5.out.2 HE.out).2 (fun _ => (HR5.out.2 HE.out).1) (fun _ => (HR5.out.2 HE.out).2) (fun h => absurd rfl h)).mono ?_
      rintro e w6 ⟨rfl, hb6⟩
      have HB6 := Lib.hid (HB5.out.trans (hb6.mono HB5.out.size))
      clear hb6
      go_wp2_with fail
      go_ret
      exact ⟨kret_bool (by first | rfl | simp), HB6.out⟩
    · have HE := Lib.hid he
      obtain ⟨er, her⟩ : ∃ er, voidE l x c = er := ⟨_, rfl⟩
      have HER : Hid (er ≠ 0) := Lib.hid (by rw [← her]; exact he)
      rw [her]
      obtain ⟨rfl, rfl⟩ := HVQ.out.1 HE.out
      clear he her
      go_wp2_with fail
      refine (slipBegun_any _).mono ?_
      rintro e w5 ⟨rfl, hb5⟩
      have HB5 := Lib.hid (HBQ.out.trans (hb5.mono HBQ.out.size))
      have HV5 := Lib.hid (HVQ.out.below hb5)
      clear hb5
      go_wp2_with fail
      refine (slipsAre_yes _ _ v3 u3 er [] [] _ (by simp) (by simp) (SlsIn.nil _) (CameI.nil _) (fun h => absurd h HER.out) (fun h => absurd h HER.out) (fun _ => ⟨rfl, rfl⟩)).mono ?_
      rintro e w6 ⟨rfl, hb6⟩
      have HB6 := Lib.hid (HB5.out.trans (hb6.mono HB5.out.size))
      clear hb6
      go_wp2_with fail
      go_ret
      exact ⟨kret_bool (by first | rfl | simp), HB6.out⟩
  · have HE : Hid (voidE l x c ≠ 0) := Lib.hid (by rw [voidE_sl h0]; exact h0)
    rw [voidE_sl h0]
    have h0' : (slE l == 0) = false := by simp [h0]
    obtain ⟨er, her⟩ : ∃ er, slE l = er := ⟨_, rfl⟩
    have HER : Hid (er ≠ 0) := Lib.hid (by rw [← her]; exact h0)
    rw [her] at h0' ⊢
    obtain ⟨rfl, rfl⟩ := HV2.out.1 HE.out
    have HBQ := HB2
    have HVQ := HV2
    clear h0 her
    go_wp2_with fail
    refine (slipBegun_any _).mono ?_
    rintro e w5 ⟨rfl, hb5⟩
    have HB5 := Lib.hid (HBQ.out.trans (hb5.mono HBQ.out.size))
    have HV5 := Lib.hid (HVQ.out.below hb5)
    clear hb5
    go_wp2_with fail
    refine (slipsAre_yes _ _ _ _ er [] [] _ (by simp) (by simp) (SlsIn.nil _) (CameI.nil _) (fun h => absurd h HER.out) (fun h => absurd h HER.out) (fun _ => ⟨rfl, rfl⟩)).mono ?_
    rintro e w6 ⟨rfl, hb6⟩
    have HB6 := Lib.hid (HB5.out.trans (hb6.mono HB5.out.size))
    clear hb6
    go_wp2_with fail
    go_ret
    exact ⟨kret_bool (by first | rfl | simp), HB6.out⟩
end Go.Proofs.Ytiedlmhahdnhaaa
