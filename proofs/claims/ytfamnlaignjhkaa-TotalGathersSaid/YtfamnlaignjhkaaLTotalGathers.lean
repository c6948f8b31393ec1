/-
  The walk of the law TotalGathers: it answers true at every input.
-/
import Derived.Test.YtfamnlaignjhkaaOGathR
namespace Go.Proofs.Ytfamnlaignjhkaa
open Go.RowKit Go.Sort

set_option maxRecDepth 100000 in
set_option maxHeartbeats 2000000 in
theorem walk_totalGathers (a : Option Addr) (n cap : Nat) (l : List Tt) {w : World} (hc : CameO w a l) (hn : l.length = n) (hm : n ≤ maxLen) (hf : NFit l) :
    Calls Try.prog 7 #[.slice a n cap] w fun e w' => e = .returned (.bool true) ∧ Go.RowKit.Below w.heap.size w w' := by
  have HC := Lib.hid hc
  have HM := Lib.hid hm
  have HN := Lib.hid hn
  have HF := Lib.hid hf
  clear hm hc hn hf
  go_enter Try.func7, Try.ntmps7
  go_wp2_with fail
  refine (Gather_any a n cap l _ HC.out HN.out).mono ?_
  rintro e w1 ⟨v, er, rfl, hret, hb⟩
  have HR := Lib.hid hret
  have HB1 := Lib.hid hb
  clear hret hb
  go_wp2_with fail
  refine (checkTotals_ref a n cap l true _ (HC.out.below HB1.out) HF.out HN.out HM.out).mono ?_
  rintro e w2 ⟨rfl, hb⟩
  rw [show refE true l = checkE true l from rfl]
  have HB2 := Lib.hid (HB1.out.trans (hb.mono HB1.out.size))
  have HB12 := Lib.hid hb
  clear hb
  by_cases h0 : checkE true l = 0
  · have HLR : Hid (ListRet (sumsOf l) w1 v er) := by
      rcases HR.out with ⟨h1, _⟩ | ⟨_, h⟩
      · exact absurd h0 h1
      · exact h
    have HOK := Lib.hid (okT_all h0).1
    have H84 : Hid (n ≤ 800) := Lib.hid (by have := (okT_all h0).2; have := HN.out; omega)
    have HSG : Hid (SgnIs n 1 l l) := Lib.hid (by rw [← HN.out]; exact sgn_all l)
    rw [h0]
    clear h0 HR
    go_wp2_with fail
    refine (gatherTotals_ref a n cap l n 1 l _ (HC.out.below HB2.out) HN.out H84.out (.inl rfl) HSG.out HOK.out).mono ?_
    rintro e w3 ⟨v', er', rfl, hret, hb⟩
    obtain ⟨rfl, L, x, c, x', c', rfl, rfl, hcx, hcx', h4, hl0⟩ := HLR.out.det2 hret
    have HBQ := Lib.hid (HB2.out.trans (hb.mono HB2.out.size))
    have HXQ := Lib.hid ((hcx.below HB12.out).below hb)
    have HYQ := Lib.hid hcx'
    have HL0 := Lib.hid hl0
    obtain ⟨m, hm⟩ : ∃ m, L.length = m := ⟨_, rfl⟩
    rw [hm] at h4 ⊢
    have HLN := Lib.hid hm
    have HL4 : Hid (m ≤ 1000) := Lib.hid (by omega)
    clear hret hb hcx hcx' h4 hl0 HLR hm
    go_wp2_with fail
    refine (totalBegun_any _).mono ?_
    rintro e w5 ⟨rfl, hb⟩
    have HB5 := Lib.hid (HBQ.out.trans (hb.mono HBQ.out.size))
    have HX5 := Lib.hid (HXQ.out.below hb)
    have HY5 := Lib.hid (HYQ.out.below hb)
    clear hb
    go_wp2_with fail
    refine (totalsAre_yes _ _ _ _ _ _ L _ HX5.out HY5.out HLN.out HL4.out HL0.out).mono ?_
    rintro e w6 ⟨rfl, hb⟩
    have HB6 := Lib.hid (HB5.out.trans (hb.mono HB5.out.size))
    clear hb
    go_wp2_with fail
    go_ret
    exact ⟨oret_bool (by simp), HB6.out⟩
  · have hb2 : er = checkE true l ∧ v = .slice none 0 0 := by
      rcases HR.out with ⟨_, h⟩ | ⟨h, _⟩
      · exact h
      · exact absurd h h0
    obtain ⟨rfl, rfl⟩ := hb2
    have h0' : (checkE true l == 0) = false := by simp [h0]
    obtain ⟨er, her⟩ : ∃ c, checkE true l = c := ⟨_, rfl⟩
    rw [her] at h0' ⊢
    have HBQ := HB2
    obtain ⟨L, hL⟩ : ∃ L : List Tt, L = [] := ⟨_, rfl⟩
    have HXQ : Hid (CameO w2 none L) := Lib.hid (.inl (by rw [hL]; rfl))
    have HYQ : Hid (CameO w2 none L) := Lib.hid (.inl (by rw [hL]; rfl))
    have HL0 : Hid (er ≠ 0 → L = []) := fun _ => hL
    have HLN : Hid (L.length = 0) := Lib.hid (by rw [hL]; rfl)
    have HL4 : Hid (0 ≤ 1000) := Lib.hid (by omega)
    clear h0 her HR hL
    go_wp2_with fail
    refine (totalBegun_any _).mono ?_
    rintro e w5 ⟨rfl, hb⟩
    have HB5 := Lib.hid (HBQ.out.trans (hb.mono HBQ.out.size))
    have HX5 := Lib.hid (HXQ.out.below hb)
    have HY5 := Lib.hid (HYQ.out.below hb)
    clear hb
    go_wp2_with fail
    refine (totalsAre_yes _ _ _ _ _ _ L _ HX5.out HY5.out HLN.out HL4.out HL0.out).mono ?_
    rintro e w6 ⟨rfl, hb⟩
    have HB6 := Lib.hid (HB5.out.trans (hb.mono HB5.out.size))
    clear hb
    go_wp2_with fail
    go_ret
    exact ⟨oret_bool (by simp), HB6.out⟩
end Go.Proofs.Ytfamnlaignjhkaa
