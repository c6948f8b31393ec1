/-
  The walk of the law SlipCascades: it answers true at every input.
-/
import Derived.Test.YtopcnnmdnnmgoaaSCasc
namespace Go.Proofs.Ytopcnnmdnnmgoaa
open Go.RowKit Go.Sort

theorem voidE_facts {l : List Sl} {x : Int} {c : Bool} (h : voidE l x c = 0) : slE l = 0 ∧ fstN l x < l.length ∧ (snth l (fstN l x)).gone = false := by
  unfold voidE at h
  split at h
  · rename_i h0
    split at h
    · rename_i h1
      split at h
      · cases h
      · rename_i h2
        exact ⟨h0, h1, by simpa using h2⟩
    · cases h
  · rename_i h0
    exact absurd h h0
theorem fstN_num : ∀ {l : List Sl} {x : Int}, fstN l x < l.length → (snth l (fstN l x)).num = x
  | [], x, h => by simp at h
  | r :: l, x, h => by
    rw [fstN] at *
    split at h
    · rename_i e
      rw [if_pos e]
      exact e
    · rename_i e
      rw [if_neg e]
      exact fstN_num (l := l) (by simpa using h)
theorem nth_app {a t : List Int} {z : Int} : nth (a ++ (z :: t)) a.length = z := by
  unfold nth
  simp [List.getD_eq_getElem?_getD]
theorem at_one {w : World} {b off m : Nat} {G : List Int} (h : At w b off G) (hm : m < G.length) : At w b (off + m) [nth G m] := by
  refine ⟨h.1, fun j hj => ?_⟩
  obtain rfl : j = 0 := by simpa using hj
  exact h.2 m hm
set_option maxRecDepth 100000 in
set_option maxHeartbeats 4000000 in
theorem walk_slipCascades (a : Option Addr) (n cap : Nat) (l : List Sl) {w : World} (hc : CameS w a l) (hn : l.length = n) (_ : n ≤ maxLen) (_ : ∀ j, j < n → WfSl (snth l j)) (x : Int) (_ : (Lit.int .i64 x).wf = true) (q : Int) (_ : (Lit.int .i64 q).wf = true) :
    Calls Try.prog 9 #[.slice a n cap, .int .i64 x, .int .i64 q] w fun e w' => e = .returned (.bool true) ∧ Go.RowKit.Below w.heap.size w w' := by
  have HC := Lib.hid hc
  have HN := Lib.hid hn
  clear hc hn
  go_enter Try.func9, Try.ntmps9
  go_wp2_with fail
  refine (slipBegun_any _).mono ?_
  rintro e w1 ⟨rfl, hb⟩
  have HB1 := Lib.hid hb
  have HC1 := Lib.hid (HC.out.below hb)
  clear hb
  go_wp2_with fail
  refine (Void_any a n cap l x true _ HC1.out HN.out).mono ?_
  rintro e w2 ⟨v, u, rfl, hret, hb⟩
  have HB2 := Lib.hid (HB1.out.trans (hb.mono HB1.out.size))
  have HV2 := Lib.hid hret.same
  have HC2 := Lib.hid (HC1.out.below hb)
  clear hb hret
  by_cases he : voidE l x true = 0
  · obtain ⟨h0, hf, hgo⟩ := voidE_facts he
    have hnum := fstN_num hf
    obtain ⟨hv, hu⟩ := HV2.out.2 he
    unfold voidL at hv
    unfold voidG at hu
    rw [he]
    have hidx : idxV l x = (fstN l x : Int) := by unfold idxV; rw [if_pos hf]
    obtain ⟨k, hk⟩ : ∃ k, fstN l x = k := ⟨_, rfl⟩
    rw [hk] at hv hu hf hgo hnum hidx
    obtain ⟨p, hp⟩ : ∃ p, (snth l k).per = p := ⟨_, rfl⟩
    rw [hp] at hv hu
    have hmk : mt p (snth l k) = true := by unfold mt; rw [hp, hgo]; simp
    obtain ⟨vx, vc, ev, hvc⟩ := hv
    rw [vd_len, HN.out] at ev
    subst ev
    obtain ⟨ux, uc, eu, ⟨hcap, hcm⟩, hul⟩ := hu
    subst eu
    have hlast : gn l p k = gn l p (k + 1) ++ [x] := by rw [gn_yes hf hmk, hnum]
    have hpos : 0 < (gn l p k).length := by rw [hlast]; simp
    obtain ⟨ub, uo, eux, hat⟩ : ∃ b off, ux = some ⟨b, off, none⟩ ∧ At w2 b off (gn l p k) := by
      rcases hul with h | h
      · omega
      · exact h
    subst eux
    have H0 := Lib.hid h0
    have HF := Lib.hid hf
    have HP := Lib.hid hp
    have HIX := Lib.hid hidx
    have HVC := Lib.hid hvc
    have HAT := Lib.hid hat
    have HLAST := Lib.hid hlast
    have HNL : Hid (n ≤ 200) := Lib.hid (by rw [← HN.out]; exact (slE_ok h0).1)
    have HGL := Lib.hid (gn_len l p k)
    have HPOS := Lib.hid hpos
    have HCP := Lib.hid hcap
    have HCX := Lib.hid hcm
    obtain ⟨G, hG⟩ : ∃ G, gn l p k = G := ⟨_, rfl⟩
    have HG := Lib.hid hG
    rw [hG] at HAT HLAST HGL HPOS HCP ⊢
    obtain ⟨ng, hng⟩ : ∃ ng, G.length = ng := ⟨_, rfl⟩
    have HNG := Lib.hid hng
    rw [hng] at HPOS HCP HGL ⊢
    have hn200 := HNL.out
    have hng200 : ng ≤ 200 := by have := HGL.out; have := HN.out; omega
    have hposI : 0 < ng := HPOS.out
    clear he h0 hf hgo hnum hidx hk hp hmk hvc hul hcap hcm hlast hpos hat hG hng HV2
    go_wp2_with fail
    go_loopw [10, 11] (fun yv i wr => ∃ (d yc : Nat) (yx : Option Addr), k ≤ d ∧ d ≤ n ∧ yv = .slice yx n yc ∧ i = .int .i64 ((gn l p d).length : Nat) ∧ CameS wr yx (vd l p d) ∧ Go.RowKit.Below w2.heap.size w2 wr) (fun _ i _ => ng - (intOf i).toNat)
    case atStart =>
      refine ⟨n, cap, a, by have := HF.out; have := HN.out; omega, Nat.le_refl _, rfl, ?_, ?_, Below.refl _ _⟩
      · rw [← HN.out, gn_all]; rfl
      · rw [← HN.out, vd_all]; exact HC2.out
    case round =>
      obtain ⟨d, yc, yx, hkd, hdn, rfl, rfl, hyc, hb⟩ := hrel
      have HY := Lib.hid hyc
      have HB := Lib.hid hb
      have HDL : Hid (d ≤ l.length) := Lib.hid (by rw [HN.out]; exact hdn)
      obtain ⟨m, hm⟩ : ∃ m, (gn l p d).length = m := ⟨_, rfl⟩
      have HM := Lib.hid hm
      rw [hm]
      clear hyc hb hm
      by_cases hlt : m < ng
      · have hlt' : (m : Int) < (ng : Int) := by omega
        obtain ⟨d', h1, h2, h3, h4⟩ := gn_next hkd HDL.out (by rw [HM.out, HG.out, HNG.out]; exact hlt)
        obtain ⟨c1, c2, c3, c4⟩ := casc_step H0.out HDL.out h2 h3 h4
        obtain ⟨t, ht⟩ := gn_prefix (l := l) (p := p) (k := k) (d := d') h1 (by have := HDL.out; omega)
        have hnth : nth G m = (snth l d').num := by
          rw [← HG.out, ht, c4, List.append_assoc, ← HM.out]
          exact nth_app
        have hc0 := (HAT.out.below HB.out HAT.out.1).2 m (by rw [HNG.out]; exact hlt)
        rw [hnth] at hc0
        have HONE : Hid (∀ w', Go.RowKit.Below wr.heap.size wr w' → At w' ub (uo + m) [(snth l d').num]) := Lib.hid (fun w' hb' => by
          have q1 := HAT.out.below HB.out HAT.out.1
          have q2 := at_one (q1.below hb' q1.1) (m := m) (by rw [HNG.out]; exact hlt)
          rw [hnth] at q2
          exact q2)
        have HC2' := Lib.hid c2
        have HC3 := Lib.hid c3
        have HC4 : Hid ((gn l p d').length = m + 1) := Lib.hid (by rw [c4]; simp [HM.out])
        have HC1' := Lib.hid c1
        have HD1 := Lib.hid h1
        have HD2 := Lib.hid h2
        obtain ⟨z, hz⟩ : ∃ z, (snth l d').num = z := ⟨_, rfl⟩
        rw [hz] at hc0 HONE HC2' HC3 HC1'
        clear c1 c2 c3 c4 h1 h2 h3 h4 ht t hnth hz
        have HVO := Lib.hid (fun (_ : Unit) => Void_any yx n yc (vd l p d) z false wr HY.out (by rw [vd_len, HN.out]))
        go_wp2_with fail
        refine (HVO.out ()).mono ?_
        rintro e w3 ⟨v3, u3, rfl, hret, hb3⟩
        obtain ⟨hs3, hu3⟩ := hret.same.2 HC1'.out
        rw [HC2'.out] at hs3
        rw [HC3.out] at hu3
        rw [HC1'.out]
        obtain ⟨sx, sc, es, hsc⟩ := hs3
        rw [vd_len, HN.out] at es
        subst es
        have HSC := Lib.hid hsc
        have HU3 := Lib.hid hu3
        have HB3 := Lib.hid (HB.out.trans (hb3.mono HB.out.size))
        have HAT3 := Lib.hid (HONE.out w3 hb3)
        have hcap1 : (m : Int) + 1 ≤ (uc : Int) := by have := HCP.out; omega
        have hcap2 : uc ≤ maxLen := HCX.out
        have hw1 : IntKind.i64.wrap ((m : Int) + 1) = (m : Int) + 1 := IntWalk.i64_in _ (by omega)
        clear hret hb3 hu3 hsc hc0 HVO
        go_wp2_with fail
        refine (sameI_yes u3 (.slice (some ⟨ub, uo + m, none⟩) 1 (uc - m)) [z] _ (by simp) HU3.out ⟨_, _, rfl, ⟨by simp; omega, by omega⟩, .inr ⟨ub, uo + m, rfl, HAT3.out⟩⟩).mono ?_
        rintro e w4 ⟨rfl, qd, hw4⟩
        subst hw4
        have HS4 := Lib.hid (HSC.out.below (kbelow_dN (Below.refl _ w3) qd))
        have HB4 := Lib.hid (kbelow_dN HB3.out qd)
        clear hcap1 hcap2
        go_wp2_with fail
        go_roundw
        case rel => exact ⟨d', sc, sx, HD1.out, by have := HD2.out; omega, rfl, by rw [HC4.out]; go_num, HS4.out, HB4.out⟩
        case measure => simp [intOf]; omega
      · have hme : m = ng := by
          obtain ⟨t, ht⟩ := gn_prefix (l := l) (p := p) (k := k) (d := d) hkd HDL.out
          have h1 := congrArg List.length ht
          rw [HG.out, HNG.out, List.length_append, HM.out] at h1
          omega
        have HVE := Lib.hid (vd_end (l := l) (p := p) hkd HDL.out (by rw [HM.out, HG.out, HNG.out, hme]))
        rw [HVE.out] at HY
        have HLW := Lib.hid (HC2.out.below HB.out)
        have HBW := Lib.hid (HB2.out.trans (HB.out.mono HB2.out.size))
        have hnl : decide ((m : Int) < (ng : Int)) = false := decide_eq_false (by omega)
        have hk0 : decide ((k : Int) < 0) = false := decide_eq_false (by omega)
        have HK : Hid (k < n) := Lib.hid (by rw [← HN.out]; exact HF.out)
        have hkn : (k : Int) < (n : Int) := by have := HK.out; omega
        have hz0 : ((ng : Int) == 0) = false := by rw [beq_eq_false_iff_ne]; omega
        have hw1 : IntKind.i64.wrap ((ng : Int) - 1) = (ng : Int) - 1 := IntWalk.i64_in _ (by omega)
        have ht1 : ((ng : Int) - 1).toNat = ng - 1 := by omega
        have hl1 : (ng : Int) - 1 < (ng : Int) := by omega
        have hg1 : (0 : Int) ≤ (ng : Int) - 1 := by omega
        have hnx : nth G (ng - 1) = x := by
          rw [← HNG.out, HLAST.out]
          rw [List.length_append]
          exact nth_app
        have hnl2 : decide (m < ng) = false := decide_eq_false hlt
        have hnl3 : ¬ ((m : Int) < (ng : Int)) := by omega
        clear hme HM
        go_wp2_with fail
        refine (slipAt_ref a n cap l x _ HLW.out HN.out HNL.out).mono ?_
        rintro e w4 ⟨rfl, hw4⟩
        subst hw4
        rw [HIX.out]
        go_wp2_with fail
        refine (ssame_yes _ _ (vd l p k) _ (by rw [vd_len, HN.out]; omega) ⟨vx, vc, by rw [vd_len, HN.out], HVC.out.below HB.out⟩ ⟨yx, yc, by rw [vd_len, HN.out], HY.out⟩).mono ?_
        rintro e w5 ⟨rfl, hb5⟩
        have HB5 := Lib.hid (HB.out.trans (hb5.mono HB.out.size))
        have HW5 := Lib.hid (HBW.out.trans (hb5.mono HBW.out.size))
        have HL5 := Lib.hid (HLW.out.below hb5)
        have hc5 := (HAT.out.below HB5.out HAT.out.1).2 (ng - 1) (by rw [HNG.out]; omega)
        rw [hnx] at hc5
        obtain ⟨b, off, rfl, hcell⟩ := HL5.out.open HN.out (by omega)
        obtain ⟨⟨-, z1, -, -⟩, -⟩ := hcell _ (Below.refl _ _) k HK.out
        rw [HP.out] at z1
        clear hb5 hcell hnx
        by_cases hqp : q = p
        · have hqp' : (q == p) = true := by simp [hqp]
          clear hqp
          go_wp2_with fail
          go_ret
          exact ⟨rfl, HW5.out⟩
        · have hqp' : (q == p) = false := by simp [hqp]
          have HQ := Lib.hid hqp
          clear hqp
          go_wp2_with fail
          refine (Totals_any _ n cap l q _ HL5.out HN.out).mono ?_
          rintro e w6 ⟨v6, e6, rfl, hr6, hb6⟩
          have HR6 := Lib.hid hr6
          have HW6 := Lib.hid (HW5.out.trans (hb6.mono HW5.out.size))
          have HB6 := Lib.hid (HB5.out.trans (hb6.mono HB5.out.size))
          clear hr6 hb6 hc5 z1
          go_wp2_with fail
          refine (Totals_any vx n vc (vd l p k) q _ (HVC.out.below HB6.out) (by rw [vd_len, HN.out])).mono ?_
          rintro e w7 ⟨v7, e7, rfl, hr7, hb7⟩
          obtain ⟨he67, am, hal, ha6, ha7⟩ := (HR6.out.below hb7).det hr7 (slE_vd l p k).symm (amsOf_other HQ.out).symm
          subst he67
          have HW7 := Lib.hid (HW6.out.trans (hb7.mono HW6.out.size))
          have HA6 := Lib.hid ha6
          have HA7 := Lib.hid ha7
          have HAL := Lib.hid hal
          clear hr7 hb7 ha6 ha7 hal
          go_wp2_with fail
          refine (asame_yes v6 v7 am _ HAL.out HA6.out HA7.out).mono ?_
          rintro e w8 ⟨rfl, qd, hw8⟩
          subst hw8
          have HW8 := Lib.hid (kbelow_dN HW7.out qd)
          go_wp2_with fail
          go_ret
          exact ⟨kret_bool (by first | rfl | simp), HW8.out⟩
  · have h1 : (voidE l x true != 0) = true := by simp [he]
    obtain ⟨er, her⟩ : ∃ er, voidE l x true = er := ⟨_, rfl⟩
    rw [her] at h1 ⊢
    clear he her HV2
    go_wp2_with fail
    go_ret
    exact ⟨rfl, HB2.out⟩
end Go.Proofs.Ytopcnnmdnnmgoaa
