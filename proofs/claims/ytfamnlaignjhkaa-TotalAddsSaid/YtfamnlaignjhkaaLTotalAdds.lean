/-
  The walk of the law TotalAdds: it answers true at every input.
-/
import Derived.Test.YtfamnlaignjhkaaOJoin
namespace Go.Proofs.Ytfamnlaignjhkaa
open Go.RowKit Go.Sort

set_option maxRecDepth 100000 in
set_option maxHeartbeats 4000000 in
theorem walk_totalAdds (a : Option Addr) (n cap : Nat) (l : List Tt) {w : World} (hc : CameO w a l) (hn : l.length = n) (hm : n ≤ maxLen) (hf : NFit l) (b : Option Addr) (n' cap' : Nat) (l' : List Tt) (hc' : CameO w b l') (hn' : l'.length = n') (hm' : n' ≤ maxLen) (hf' : NFit l') :
    Calls Try.prog 4 #[.slice a n cap, .slice b n' cap'] w fun e w' => e = .returned (.bool true) ∧ Go.RowKit.Below w.heap.size w w' := by
  have HC := Lib.hid hc
  have HM := Lib.hid hm
  have HN := Lib.hid hn
  have HF := Lib.hid hf
  have HC' := Lib.hid hc'
  have HM' := Lib.hid hm'
  have HN' := Lib.hid hn'
  have HF' := Lib.hid hf'
  clear hm hc hn hf hm' hc' hn' hf'
  go_enter Try.func4, Try.ntmps4
  go_wp2_with fail
  refine (Add_any a n cap l b n' cap' l' _ HC.out HN.out HM.out HC'.out HN'.out HM'.out).mono ?_
  rintro e w1 ⟨v, er, rfl, hret, hb⟩
  have HR := Lib.hid hret
  have HB1 := Lib.hid hb
  clear hret hb
  go_wp2_with fail
  refine (Less_any a n cap l b n' cap' l' _ (HC.out.below HB1.out) HN.out HM.out (HC'.out.below HB1.out) HN'.out HM'.out).mono ?_
  rintro e w2 ⟨v2, er2, rfl, hret, hb⟩
  have HR2 := Lib.hid hret
  have HB2 := Lib.hid (HB1.out.trans (hb.mono HB1.out.size))
  have HB12 := Lib.hid hb
  clear hret hb
  go_wp2_with fail
  refine (twoTotals_ref a n cap l b n' cap' l' _ (HC.out.below HB2.out) HN.out HM.out HF.out (HC'.out.below HB2.out) HN'.out HM'.out HF'.out).mono ?_
  rintro e w3 ⟨rfl, hb⟩
  have HB3 := Lib.hid (HB2.out.trans (hb.mono HB2.out.size))
  have HB23 := Lib.hid hb
  clear hb
  by_cases h0 : twoE l l' = 0
  · have HLR : Hid (ListRet (sumsOf (l ++ l')) w1 v er) := by
      rcases HR.out with ⟨h1, _⟩ | ⟨_, h⟩
      · exact absurd h0 h1
      · exact h
    have HLR2 : Hid (ListRet (sumsOf (l ++ negL l')) w2 v2 er2) := by
      rcases HR2.out with ⟨h1, _⟩ | ⟨_, h⟩
      · exact absurd h0 h1
      · exact h
    have HOK : Hid (∀ t ∈ l ++ l', OkT t) := fun t ht => by
      rcases List.mem_append.1 ht with h | h
      · exact (totE_ok (twoE_ok h0).1).1 t h
      · exact (totE_ok (twoE_ok h0).2).1 t h
    have HOK2 : Hid (∀ t ∈ l ++ negL l', OkT t) := fun t ht => by
      rcases List.mem_append.1 ht with h | h
      · exact (totE_ok (twoE_ok h0).1).1 t h
      · exact negL_ok (totE_ok (twoE_ok h0).2).1 t h
    have H4a : Hid (n ≤ 400) := Lib.hid (by have := (totE_ok (twoE_ok h0).1).2.1; have := HN.out; omega)
    have H4b : Hid (n' ≤ 400) := Lib.hid (by have := (totE_ok (twoE_ok h0).2).2.1; have := HN'.out; omega)
    rw [h0]
    clear h0 HR HR2
    have HG0 := Lib.hid (GrowO.made w3 (B := w3.heap.size) (Nat.le_refl _))
    have HX0 := Lib.hid (HB3.out.alloc HB3.out.size (.cells #[] 50))
    have HZ0 : Hid (w3.heap.size ≤ (w3.alloc (.cells #[] 50)).heap.size) := Lib.hid (by simp)
    have h4a := H4a.out
    have h4b := H4b.out
    go_wp2_with (first
      | (have := HG1; at_builtin; refine wpList_app_src _ rfl _ _ rfl w3.heap.size _ l rfl HG1.out b n' cap' l' rfl (HC'.out.below HX1.out) HN'.out (by have := HN.out; omega) HZ1.out ?_; intro v5 w5 hgr5 _ hbel5)
      | (at_builtin; refine wpList_app_src _ rfl _ _ rfl w3.heap.size (.slice (some ⟨w3.heap.size, 0, none⟩) 0 0) [] rfl HG0.out a n cap l rfl (HC.out.below HX0.out) HN.out (by simp; omega) HZ0.out ?_; intro v4 w4 hgr4 hgw4 hbel4
         have HG1 := Lib.hid hgr4
         rw [List.nil_append] at HG1
         have HX1 := Lib.hid (HX0.out.trans (hbel4.mono HB3.out.size))
         have HZ1 := Lib.hid (Nat.le_trans HZ0.out hgw4.size)
         have HW4 := Lib.hid hbel4
         clear hgr4 hbel4 hgw4))
    obtain ⟨xb, cb, rfl, hcb⟩ := hgr5.slice
    have HCB := Lib.hid hcb
    have HX5 := Lib.hid (HX1.out.trans (hbel5.mono HB3.out.size))
    have HW5 : Hid (Go.RowKit.Below w3.heap.size w3 w5) := Lib.hid (((obelow_box w3 (.cells #[] 50)).trans HW4.out).trans hbel5)
    have HLB : Hid ((l ++ l').length = n + n') := Lib.hid (by rw [List.length_append, HN.out, HN'.out])
    rw [HLB.out]
    clear hgr5 hbel5 hcb HG0 HG1 HX0 HX1 HZ0 HZ1 HW4
    have HS1 : Hid (SgnIs n 1 (l ++ l') (l ++ l')) := Lib.hid (by rw [← HN.out]; exact sgn_one l l')
    have HS2 : Hid (SgnIs n (-1) (l ++ l') (l ++ negL l')) := Lib.hid (by rw [← HN.out]; exact sgn_neg l l')
    go_wp2_with fail
    refine (gatherTotals_ref xb (n + n') cb (l ++ l') n 1 (l ++ l') _ HCB.out HLB.out (by omega) (.inl rfl) HS1.out HOK.out).mono ?_
    rintro e w6 ⟨v6, er6, rfl, hret, hb⟩
    obtain ⟨rfl, L, x, c, x', c', rfl, rfl, hcx, hcx', hl4, hl0⟩ := HLR.out.det2 hret
    have HX6 := Lib.hid (HX5.out.trans (hb.mono HX5.out.size))
    have HXA := Lib.hid ((((hcx.below HB12.out).below HB23.out).below HW5.out).below hb)
    have HYA := Lib.hid hcx'
    have HL0 := Lib.hid hl0
    have HCB6 := Lib.hid (HCB.out.below hb)
    have HW6 := Lib.hid hb
    obtain ⟨m, hm⟩ : ∃ m, L.length = m := ⟨_, rfl⟩
    rw [hm] at hl4 ⊢
    have HLN := Lib.hid hm
    have HL4 : Hid (m ≤ 1000) := Lib.hid (by omega)
    clear hret hb hcx hcx' hl4 hl0 HLR hm
    go_wp2_with fail
    refine (gatherTotals_ref xb (n + n') cb (l ++ l') n (-1) (l ++ negL l') _ HCB6.out HLB.out (by omega) (.inr rfl) HS2.out HOK2.out).mono ?_
    rintro e w7 ⟨v7, er7, rfl, hret, hb⟩
    obtain ⟨rfl, M, u, d, u', d', rfl, rfl, hcu, hcu', hm4, hm0⟩ := HLR2.out.det2 hret
    have HBQ := Lib.hid (HX6.out.trans (hb.mono HX6.out.size))
    have HXQ := Lib.hid (HXA.out.below hb)
    have HYQ := Lib.hid (HYA.out.below hb)
    have HUQ := Lib.hid ((((hcu.below HB23.out).below HW5.out).below HW6.out).below hb)
    have HVQ := Lib.hid hcu'
    have HM0 := Lib.hid hm0
    obtain ⟨q, hq⟩ : ∃ m, M.length = m := ⟨_, rfl⟩
    rw [hq] at hm4 ⊢
    have HMN := Lib.hid hq
    have HM4 : Hid (q ≤ 1000) := Lib.hid (by omega)
    clear hret hb hcu hcu' hm4 hm0 HLR2 hq
    go_wp2_with fail
    refine (totalBegun_any _).mono ?_
    rintro e w5 ⟨rfl, hb⟩
    have HB5 := Lib.hid (HBQ.out.trans (hb.mono HBQ.out.size))
    have HX5 := Lib.hid (HXQ.out.below hb)
    have HY5 := Lib.hid (HYQ.out.below hb)
    have HU5 := Lib.hid (HUQ.out.below hb)
    have HV5 := Lib.hid (HVQ.out.below hb)
    clear hb
    go_wp2_with fail
    refine (totalsAre_yes _ _ _ _ _ _ L _ HX5.out HY5.out HLN.out HL4.out HL0.out).mono ?_
    rintro e w6 ⟨rfl, hb⟩
    have HB6 := Lib.hid (HB5.out.trans (hb.mono HB5.out.size))
    have HU6 := Lib.hid (HU5.out.below hb)
    have HV6 := Lib.hid (HV5.out.below hb)
    clear hb
    go_wp2_with fail
    refine (totalsAre_yes _ _ _ _ _ _ M _ HU6.out HV6.out HMN.out HM4.out HM0.out).mono ?_
    rintro e w7 ⟨rfl, hb⟩
    have HB7 := Lib.hid (HB6.out.trans (hb.mono HB6.out.size))
    clear hb
    go_wp2_with fail
    go_ret
    exact ⟨oret_bool (by simp), HB7.out⟩
  · have hb2 : er = twoE l l' ∧ v = .slice none 0 0 := by
      rcases HR.out with ⟨_, h⟩ | ⟨h, _⟩
      · exact h
      · exact absurd h h0
    have hb3 : er2 = twoE l l' ∧ v2 = .slice none 0 0 := by
      rcases HR2.out with ⟨_, h⟩ | ⟨h, _⟩
      · exact h
      · exact absurd h h0
    obtain ⟨rfl, rfl⟩ := hb2
    obtain ⟨rfl, rfl⟩ := hb3
    have h0' : (twoE l l' == 0) = false := by simp [h0]
    obtain ⟨er, her⟩ : ∃ c, twoE l l' = c := ⟨_, rfl⟩
    rw [her] at h0' ⊢
    have HBQ := HB3
    obtain ⟨L, hL⟩ : ∃ L : List Tt, L = [] := ⟨_, rfl⟩
    obtain ⟨M, hM⟩ : ∃ L : List Tt, L = [] := ⟨_, rfl⟩
    have HXQ : Hid (CameO w3 none L) := Lib.hid (.inl (by rw [hL]; rfl))
    have HYQ : Hid (CameO w3 none L) := Lib.hid (.inl (by rw [hL]; rfl))
    have HUQ : Hid (CameO w3 none M) := Lib.hid (.inl (by rw [hM]; rfl))
    have HVQ : Hid (CameO w3 none M) := Lib.hid (.inl (by rw [hM]; rfl))
    have HL0 : Hid (er ≠ 0 → L = []) := fun _ => hL
    have HM0 : Hid (er ≠ 0 → M = []) := fun _ => hM
    have HLN : Hid (L.length = 0) := Lib.hid (by rw [hL]; rfl)
    have HMN : Hid (M.length = 0) := Lib.hid (by rw [hM]; rfl)
    have HL4 : Hid (0 ≤ 1000) := Lib.hid (by omega)
    have HM4 : Hid (0 ≤ 1000) := Lib.hid (by omega)
    clear h0 her HR HR2 hL hM
    go_wp2_with fail
    refine (totalBegun_any _).mono ?_
    rintro e w5 ⟨rfl, hb⟩
    have HB5 := Lib.hid (HBQ.out.trans (hb.mono HBQ.out.size))
    have HX5 := Lib.hid (HXQ.out.below hb)
    have HY5 := Lib.hid (HYQ.out.below hb)
    have HU5 := Lib.hid (HUQ.out.below hb)
    have HV5 := Lib.hid (HVQ.out.below hb)
    clear hb
    go_wp2_with fail
    refine (totalsAre_yes _ _ _ _ _ _ L _ HX5.out HY5.out HLN.out HL4.out HL0.out).mono ?_
    rintro e w6 ⟨rfl, hb⟩
    have HB6 := Lib.hid (HB5.out.trans (hb.mono HB5.out.size))
    have HU6 := Lib.hid (HU5.out.below hb)
    have HV6 := Lib.hid (HV5.out.below hb)
    clear hb
    go_wp2_with fail
    refine (totalsAre_yes _ _ _ _ _ _ M _ HU6.out HV6.out HMN.out HM4.out HM0.out).mono ?_
    rintro e w7 ⟨rfl, hb⟩
    have HB7 := Lib.hid (HB6.out.trans (hb.mono HB6.out.size))
    clear hb
    go_wp2_with fail
    go_ret
    exact ⟨oret_bool (by simp), HB7.out⟩
end Go.Proofs.Ytfamnlaignjhkaa
