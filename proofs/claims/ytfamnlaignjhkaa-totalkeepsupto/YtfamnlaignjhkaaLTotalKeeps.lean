/-
  The walk of the law TotalKeeps: it answers true at every input that is not too great.
-/
import Derived.Test.YtfamnlaignjhkaaOKeep
namespace Go.Proofs.Ytfamnlaignjhkaa
open Go.RowKit Go.Sort

theorem wf_range {c : Int} (h : (Lit.int .i64 c).wf = true) : -9223372036854775808 ≤ c ∧ c ≤ 9223372036854775807 := by
  simp only [Lit.wf, Bool.and_eq_true, decide_eq_true_eq] at h
  exact h
set_option maxRecDepth 100000 in
set_option maxHeartbeats 16000000 in
theorem walk_totalKeeps (a : Option Addr) (n cap : Nat) (l : List Tt) {w : World} (hc : CameO w a l) (hn : l.length = n) (hm : n ≤ maxLen) (_ : NFit l) (b : Option Addr) (n' cap' : Nat) (l' : List Tt) (hc' : CameO w b l') (hn' : l'.length = n') (hm' : n' ≤ maxLen) (_ : NFit l') (s : ByteArray) (_ : s.size ≤ maxLen) (y : Int) (_ : (Lit.int .i64 y).wf = true) (tn : Int) (ht : (Lit.int .i64 tn).wf = true) (hb1 : n ≤ 1048576) (hb2 : n' ≤ 1048576) :
    Calls Try.prog 9 #[.slice a n cap, .slice b n' cap', .string s, .int .i64 y, .int .i64 tn] w fun e w' => e = .returned (.bool true) ∧ Go.RowKit.Below w.heap.size w w' := by
  have HC := Lib.hid hc
  have HM := Lib.hid hm
  have HN := Lib.hid hn
  have HC' := Lib.hid hc'
  have HM' := Lib.hid hm'
  have HN' := Lib.hid hn'
  clear hm hc hn hm' hc' hn'
  go_enter Try.func9, Try.ntmps9
  go_wp2_with fail
  refine (totalBegun_any _).mono ?_
  rintro e w1 ⟨rfl, hb⟩
  have HB1 := Lib.hid hb
  clear hb
  go_wp2_with fail
  refine (Add_any a n cap l b n' cap' l' _ (HC.out.below HB1.out) HN.out HM.out (HC'.out.below HB1.out) HN'.out HM'.out).mono ?_
  rintro e w2 ⟨v, er, rfl, hret, hb⟩
  have HR := Lib.hid hret
  have HB2 := Lib.hid (HB1.out.trans (hb.mono HB1.out.size))
  clear hret hb
  by_cases h0 : er = 0
  · subst h0
    have hadd : totE l = 0 ∧ totE l' = 0 ∧ ∃ X x c, v = .slice x X.length c ∧ CameO w2 x X ∧ X.length ≤ 400 ∧ totE X = 0 ∧ ∀ s y, sumNY s y X = sumNY s y (l ++ l') := by
      rcases HR.out with ⟨h1, h2, _⟩ | ⟨h1, h2⟩
      · exact absurd h2.symm h1
      · obtain ⟨hl, hm⟩ := twoE_ok h1
        rcases h2 with ⟨_, e, _⟩ | ⟨_, _, _, _, e, _⟩ | ⟨ha, X, hX, h4, hup, _, x, c, rfl, hc⟩
        · cases e
        · cases e
        · exact ⟨hl, hm, X, x, c, rfl, hc, h4, made_right hl hm hX ha hup h4, fun s y => made_sum (fun t ht => by
            rcases List.mem_append.1 ht with h | h
            · exact (totE_ok hl).1 t h
            · exact (totE_ok hm).1 t h) hX hup s y⟩
    obtain ⟨hl, hm, X, x, c, rfl, hcx, h4, hX, hsum⟩ := hadd
    have HCX := Lib.hid hcx
    have HTL := Lib.hid hl
    have HTM := Lib.hid hm
    have HTX := Lib.hid hX
    have HSUM : Hid (sumNY s y X = sumNY s y l + sumNY s y l') := Lib.hid (by rw [hsum, sumNY_append])
    obtain ⟨nx, hnx⟩ : ∃ m, X.length = m := ⟨_, rfl⟩
    rw [hnx] at h4 ⊢
    have HNX := Lib.hid hnx
    have HMX : Hid (nx ≤ maxLen) := Lib.hid (by unfold maxLen; omega)
    clear hl hm hcx h4 hX hsum hnx HR
    go_wp2_with fail
    refine (Sum_any a n cap l s y _ (HC.out.below HB2.out) HN.out HM.out).mono ?_
    rintro e w3 ⟨rfl, hb⟩
    have HB3 := Lib.hid (HB2.out.trans (hb.mono HB2.out.size))
    have HCX3 := Lib.hid (HCX.out.below hb)
    clear hb
    go_wp2_with fail
    refine (Sum_any b n' cap' l' s y _ (HC'.out.below HB3.out) HN'.out HM'.out).mono ?_
    rintro e w4 ⟨rfl, hb⟩
    have HB4 := Lib.hid (HB3.out.trans (hb.mono HB3.out.size))
    have HCX4 := Lib.hid (HCX3.out.below hb)
    clear hb
    go_wp2_with fail
    refine (Sum_any x nx c X s y _ HCX4.out HNX.out HMX.out).mono ?_
    rintro e w5 ⟨rfl, hb⟩
    have HBQ := Lib.hid (HB4.out.trans (hb.mono HB4.out.size))
    clear hb
    generalize hWQ : w5 = WQ at HBQ ⊢
    clear hWQ
    by_cases he : sumE l s y = 0
    · obtain ⟨_, q1, q2⟩ := sumE_ok he
      obtain ⟨f1, f2⟩ := sumE_of HTL.out q1 q2
      obtain ⟨f3, f4⟩ := sumE_of HTM.out q1 q2
      obtain ⟨f5, f6⟩ := sumE_of HTX.out q1 q2
      rw [f1, f2, f3, f4, f5, f6, HSUM.out]
      have g1 := sumNY_bound s y (totE_ok HTL.out).1
      have g2 := sumNY_bound s y (totE_ok HTM.out).1
      have g3 := (totE_ok HTL.out).2.1
      have g4 := (totE_ok HTM.out).2.1
      obtain ⟨p, hp⟩ : ∃ p, sumNY s y l = p := ⟨_, rfl⟩
      obtain ⟨q, hq⟩ : ∃ p, sumNY s y l' = p := ⟨_, rfl⟩
      rw [hp] at g1 ⊢
      rw [hq] at g2 ⊢
      have hw : IntKind.i64.wrap (p + q) = p + q := IntWalk.i64_in _ (by omega)
      have hne : (p + q != p + q) = false := by simp
      clear he q1 q2 f1 f2 f3 f4 f5 f6 g1 g2 g3 g4 hp hq
      have HG0 := Lib.hid (GrowO.made WQ (B := WQ.heap.size) (Nat.le_refl _))
      have HX0 := Lib.hid (HBQ.out.alloc HBQ.out.size (.cells #[] 50))
      have HZ0 : Hid (WQ.heap.size ≤ (WQ.alloc (.cells #[] 50)).heap.size) := Lib.hid (by simp)
      go_wp2_with (first
        | (have := HG1; at_builtin; refine wpList_app_src _ rfl _ _ rfl WQ.heap.size _ l rfl HG1.out b n' cap' l' rfl (HC'.out.below HX1.out) HN'.out (by have := HN.out; omega) HZ1.out ?_; intro v5 w5 hgr5 _ hbel5)
        | (at_builtin; refine wpList_app_src _ rfl _ _ rfl WQ.heap.size (.slice (some ⟨WQ.heap.size, 0, none⟩) 0 0) [] rfl HG0.out a n cap l rfl (HC.out.below HX0.out) HN.out (by simp; omega) HZ0.out ?_; intro v4 w4 hgr4 hgw4 hbel4
           have HG1 := Lib.hid hgr4
           rw [List.nil_append] at HG1
           have HX1 := Lib.hid (HX0.out.trans (hbel4.mono HBQ.out.size))
           have HZ1 := Lib.hid (Nat.le_trans HZ0.out hgw4.size)
           clear hgr4 hbel4 hgw4))
      have HX5 := Lib.hid (HX1.out.trans (hbel5.mono HBQ.out.size))
      have HG5 := Lib.hid hgr5
      obtain ⟨xb, cb, rfl, hcb⟩ := hgr5.slice
      have HCB := Lib.hid hcb
      obtain ⟨M, hM⟩ : ∃ M, l ++ l' = M := ⟨_, rfl⟩
      rw [hM] at HG5 HCB ⊢
      obtain ⟨N, hN⟩ : ∃ N, M.length = N := ⟨_, rfl⟩
      have HNS : Hid (N ≤ 2097152) := Lib.hid (by rw [← hN, ← hM, List.length_append]; have := HN.out; have := HN'.out; omega)
      rw [hN] at HG5 ⊢
      have HLN := Lib.hid hN
      clear hM hN hcb hgr5 hbel5 HG0 HG1 HX0 HX1 HZ0 HZ1
      go_wp2_with fail
      refine (Gather_any xb N cb M _ HCB.out HLN.out).mono ?_
      rintro e w6 ⟨v6, er6, rfl, hret, hb⟩
      have HR6 := Lib.hid hret
      have HX6 := Lib.hid (HX5.out.trans (hb.mono HX5.out.size))
      have HG6 := Lib.hid (HG5.out.below hb)
      clear hret hb
      by_cases h6 : er6 = 0
      · subst h6
        by_cases hN0 : N = 0
        · subst hN0
          go_wp2_with fail
          go_ret
          exact ⟨rfl, HX6.out⟩
        · have hN1 : 1 ≤ N := by omega
          have hNi : ((N : Int) == 0) = false := by simp; omega
          have hns := HNS.out
          obtain ⟨k, hk, hkN⟩ := choose_nat tn N hN1
          have HCH := Lib.hid (fun w => choose_any tn N w (by have := wf_range ht; omega) (by have := wf_range ht; omega) (by omega) (by omega))
          rw [hk] at HCH
          obtain ⟨g, c', hv, hBg, hat, _⟩ : ∃ g c', Value.slice xb N cb = .slice (some ⟨g, 0, none⟩) N c' ∧ WQ.heap.size ≤ g ∧ OAt w6 g 0 M ∧ True := by
            rcases HG6.out.form with ⟨e1, e2⟩ | ⟨g, c', e1, e2, e3, _⟩
            · have := HLN.out
              rw [e2] at this
              simp at this
              omega
            · exact ⟨g, c', by rw [e1, HLN.out], e2, e3, trivial⟩
          injection hv with hv1 hv2 hv3
          subst hv1
          subst hv3
          clear hv2
          have HAT := Lib.hid hat
          have hcl : N ≤ cb := by
            rcases HG6.out.2 with ⟨e1, _⟩ | ⟨_, c9, _, e1, _, _, e4, _⟩
            · cases e1
            · injection e1 with _ _ e3
              subst e3
              rw [HLN.out] at e4
              exact e4
          clear hk hat hBg hN0
          have hkN' : (k : Int) ≤ (N : Int) := by omega
          have hkc : (k : Int) ≤ (cb : Int) := by omega
          have hk0 : (0 : Int) ≤ (k : Int) := by omega
          have hkne : cb ≠ k := by omega
          have HSPL : Hid (M = M.take k ++ M.drop k) := Lib.hid (List.take_append_drop k M).symm
          have HLT : Hid ((M.take k).length = k) := Lib.hid (by rw [List.length_take, HLN.out]; omega)
          have HLD : Hid ((M.drop k).length = N - k) := Lib.hid (by rw [List.length_drop, HLN.out])
          have hlr : (M.drop k ++ M.take k).length = N := by rw [List.length_append, HLT.out, HLD.out]; omega
          obtain ⟨R, hR⟩ : ∃ R, M.drop k ++ M.take k = R := ⟨_, rfl⟩
          rw [hR] at hlr
          have HRR := Lib.hid hR
          have HLR := Lib.hid hlr
          clear hR hlr
          go_wp2_with (first | (go_at_call 27; refine (HCH.out _).mono ?_; rintro e w' ⟨rfl, h'⟩; subst w'))
          go_region_held3 (fun _ => True) (trivial)
            (first
              | (go_at_call 25; refine (Gather_any x8 N c8 R _ HC9.out HLR.out).mono ?_; rintro e w9 ⟨v9, er9, rfl, hret9, hb9⟩
                 have HR9 := Lib.hid hret9
                 have HX9 := Lib.hid (HX8.out.trans (hb9.mono HX8.out.size))
                 have HY9 := Lib.hid hb9
                 clear hret9 hb9)
              | (have := HG7; refine step_app_own _ rfl (.tmp 98) (.tmp 101) (by rfl) w6.heap.size _ (M.drop k) (by rfl) HG7.out ⟨g, 0, none⟩ k cb (M.take k) (by rfl) (Or.inr ⟨g, 0, rfl, (HAT.out.below HB7.out HAT.out.1).take k⟩) HLT.out (by have := HLD.out; omega) (by have := HB7.out.size; omega) ?_
                 intro v8 w8 hg8 hb8 _
                 rw [HRR.out] at hg8
                 obtain ⟨x8, c8, rfl, hc8⟩ := hg8.slice
                 rw [HLR.out]
                 have HC9 := Lib.hid hc8
                 have HB8 := Lib.hid (HB7.out.trans hb8)
                 have HX8 := Lib.hid (HX6.out.trans (HB8.out.mono HX6.out.size))
                 clear hg8 hb8 hc8)
              | (refine step_app_own _ rfl (.tmp 94) (.tmp 97) (by rfl) w6.heap.size (.slice (some ⟨w6.heap.size, 0, none⟩) 0 0) [] (by rfl) (by first | exact GrowO.made w6.drew (Nat.le_refl _) | exact GrowO.made w6 (Nat.le_refl _)) ⟨g, k * 4, none⟩ (N - k) (cb - k) (M.drop k) (by rfl) (Or.inr ⟨g, k * 4, rfl, OAt.drop (HAT.out.below ((Below.refl w6.heap.size w6).drew.alloc (Nat.le_refl _) (.cells #[] 50)) HAT.out.1) k⟩) HLD.out (by simp; omega) (by simp) ?_
                 intro v7 w7 hg7 hb7 _
                 rw [List.nil_append] at hg7
                 obtain ⟨x7, c7, rfl, _⟩ := hg7.slice
                 have HG7 := Lib.hid hg7
                 have HB7 := Lib.hid (((Below.refl w6.heap.size w6).drew.alloc (Nat.le_refl _) (.cells #[] 50)).trans hb7)
                 clear hg7 hb7))
          obtain ⟨rfl, X, x, c, x', c', rfl, rfl, hcx, hcx', h4⟩ := gath_turn (l := M.take k) (m := M.drop k) (by rw [← HSPL.out]; exact HR6.out) (by rw [HRR.out]; exact HR9.out)
          have HXX := Lib.hid (hcx.below (HB8.out.trans (HY9.out.mono HB8.out.size)))
          have HXY := Lib.hid hcx'
          obtain ⟨m, hm⟩ : ∃ m, X.length = m := ⟨_, rfl⟩
          rw [hm] at h4 ⊢
          have HMN := Lib.hid hm
          have HM4 : Hid (m ≤ 1000) := Lib.hid (by omega)
          clear hcx hcx' h4 hm
          go_wp2_with fail
          refine (sameTotals_yes x x' m c c' X _ HXX.out HXY.out HMN.out HM4.out).mono ?_
          rintro e w10 ⟨rfl, hb⟩
          have HB10 := Lib.hid (HX9.out.trans (hb.mono HX9.out.size))
          clear hb
          go_wp2_with fail
          go_ret
          exact ⟨oret_bool (by simp), HB10.out⟩
      · have h6' : (er6 != 0) = true := by simp [h6]
        clear h6
        go_wp2_with fail
        go_ret
        exact ⟨rfl, HX6.out⟩
    · have he' : (sumE l s y == 0) = false := by simp [he]
      obtain ⟨ea, hea⟩ : ∃ p, sumE l s y = p := ⟨_, rfl⟩
      rw [hea] at he' ⊢
      generalize sumE l' s y = eb
      generalize sumE X s y = ec
      generalize sumV l s y = va
      generalize sumV l' s y = vb
      generalize sumV X s y = vc
      clear he hea
      have HG0 := Lib.hid (GrowO.made WQ (B := WQ.heap.size) (Nat.le_refl _))
      have HX0 := Lib.hid (HBQ.out.alloc HBQ.out.size (.cells #[] 50))
      have HZ0 : Hid (WQ.heap.size ≤ (WQ.alloc (.cells #[] 50)).heap.size) := Lib.hid (by simp)
      go_wp2_with (first
        | (have := HG1; at_builtin; refine wpList_app_src _ rfl _ _ rfl WQ.heap.size _ l rfl HG1.out b n' cap' l' rfl (HC'.out.below HX1.out) HN'.out (by have := HN.out; omega) HZ1.out ?_; intro v5 w5 hgr5 _ hbel5)
        | (at_builtin; refine wpList_app_src _ rfl _ _ rfl WQ.heap.size (.slice (some ⟨WQ.heap.size, 0, none⟩) 0 0) [] rfl HG0.out a n cap l rfl (HC.out.below HX0.out) HN.out (by simp; omega) HZ0.out ?_; intro v4 w4 hgr4 hgw4 hbel4
           have HG1 := Lib.hid hgr4
           rw [List.nil_append] at HG1
           have HX1 := Lib.hid (HX0.out.trans (hbel4.mono HBQ.out.size))
           have HZ1 := Lib.hid (Nat.le_trans HZ0.out hgw4.size)
           clear hgr4 hbel4 hgw4))
      have HX5 := Lib.hid (HX1.out.trans (hbel5.mono HBQ.out.size))
      have HG5 := Lib.hid hgr5
      obtain ⟨xb, cb, rfl, hcb⟩ := hgr5.slice
      have HCB := Lib.hid hcb
      obtain ⟨M, hM⟩ : ∃ M, l ++ l' = M := ⟨_, rfl⟩
      rw [hM] at HG5 HCB ⊢
      obtain ⟨N, hN⟩ : ∃ N, M.length = N := ⟨_, rfl⟩
      have HNS : Hid (N ≤ 2097152) := Lib.hid (by rw [← hN, ← hM, List.length_append]; have := HN.out; have := HN'.out; omega)
      rw [hN] at HG5 ⊢
      have HLN := Lib.hid hN
      clear hM hN hcb hgr5 hbel5 HG0 HG1 HX0 HX1 HZ0 HZ1
      go_wp2_with fail
      refine (Gather_any xb N cb M _ HCB.out HLN.out).mono ?_
      rintro e w6 ⟨v6, er6, rfl, hret, hb⟩
      have HR6 := Lib.hid hret
      have HX6 := Lib.hid (HX5.out.trans (hb.mono HX5.out.size))
      have HG6 := Lib.hid (HG5.out.below hb)
      clear hret hb
      by_cases h6 : er6 = 0
      · subst h6
        by_cases hN0 : N = 0
        · subst hN0
          go_wp2_with fail
          go_ret
          exact ⟨rfl, HX6.out⟩
        · have hN1 : 1 ≤ N := by omega
          have hNi : ((N : Int) == 0) = false := by simp; omega
          have hns := HNS.out
          obtain ⟨k, hk, hkN⟩ := choose_nat tn N hN1
          have HCH := Lib.hid (fun w => choose_any tn N w (by have := wf_range ht; omega) (by have := wf_range ht; omega) (by omega) (by omega))
          rw [hk] at HCH
          obtain ⟨g, c', hv, hBg, hat, _⟩ : ∃ g c', Value.slice xb N cb = .slice (some ⟨g, 0, none⟩) N c' ∧ WQ.heap.size ≤ g ∧ OAt w6 g 0 M ∧ True := by
            rcases HG6.out.form with ⟨e1, e2⟩ | ⟨g, c', e1, e2, e3, _⟩
            · have := HLN.out
              rw [e2] at this
              simp at this
              omega
            · exact ⟨g, c', by rw [e1, HLN.out], e2, e3, trivial⟩
          injection hv with hv1 hv2 hv3
          subst hv1
          subst hv3
          clear hv2
          have HAT := Lib.hid hat
          have hcl : N ≤ cb := by
            rcases HG6.out.2 with ⟨e1, _⟩ | ⟨_, c9, _, e1, _, _, e4, _⟩
            · cases e1
            · injection e1 with _ _ e3
              subst e3
              rw [HLN.out] at e4
              exact e4
          clear hk hat hBg hN0
          have hkN' : (k : Int) ≤ (N : Int) := by omega
          have hkc : (k : Int) ≤ (cb : Int) := by omega
          have hk0 : (0 : Int) ≤ (k : Int) := by omega
          have hkne : cb ≠ k := by omega
          have HSPL : Hid (M = M.take k ++ M.drop k) := Lib.hid (List.take_append_drop k M).symm
          have HLT : Hid ((M.take k).length = k) := Lib.hid (by rw [List.length_take, HLN.out]; omega)
          have HLD : Hid ((M.drop k).length = N - k) := Lib.hid (by rw [List.length_drop, HLN.out])
          have hlr : (M.drop k ++ M.take k).length = N := by rw [List.length_append, HLT.out, HLD.out]; omega
          obtain ⟨R, hR⟩ : ∃ R, M.drop k ++ M.take k = R := ⟨_, rfl⟩
          rw [hR] at hlr
          have HRR := Lib.hid hR
          have HLR := Lib.hid hlr
          clear hR hlr
          go_wp2_with (first | (go_at_call 27; refine (HCH.out _).mono ?_; rintro e w' ⟨rfl, h'⟩; subst w'))
          go_region_held3 (fun _ => True) (trivial)
            (first
              | (go_at_call 25; refine (Gather_any x8 N c8 R _ HC9.out HLR.out).mono ?_; rintro e w9 ⟨v9, er9, rfl, hret9, hb9⟩
                 have HR9 := Lib.hid hret9
                 have HX9 := Lib.hid (HX8.out.trans (hb9.mono HX8.out.size))
                 have HY9 := Lib.hid hb9
                 clear hret9 hb9)
              | (have := HG7; refine step_app_own _ rfl (.tmp 98) (.tmp 101) (by rfl) w6.heap.size _ (M.drop k) (by rfl) HG7.out ⟨g, 0, none⟩ k cb (M.take k) (by rfl) (Or.inr ⟨g, 0, rfl, (HAT.out.below HB7.out HAT.out.1).take k⟩) HLT.out (by have := HLD.out; omega) (by have := HB7.out.size; omega) ?_
                 intro v8 w8 hg8 hb8 _
                 rw [HRR.out] at hg8
                 obtain ⟨x8, c8, rfl, hc8⟩ := hg8.slice
                 rw [HLR.out]
                 have HC9 := Lib.hid hc8
                 have HB8 := Lib.hid (HB7.out.trans hb8)
                 have HX8 := Lib.hid (HX6.out.trans (HB8.out.mono HX6.out.size))
                 clear hg8 hb8 hc8)
              | (refine step_app_own _ rfl (.tmp 94) (.tmp 97) (by rfl) w6.heap.size (.slice (some ⟨w6.heap.size, 0, none⟩) 0 0) [] (by rfl) (by first | exact GrowO.made w6.drew (Nat.le_refl _) | exact GrowO.made w6 (Nat.le_refl _)) ⟨g, k * 4, none⟩ (N - k) (cb - k) (M.drop k) (by rfl) (Or.inr ⟨g, k * 4, rfl, OAt.drop (HAT.out.below ((Below.refl w6.heap.size w6).drew.alloc (Nat.le_refl _) (.cells #[] 50)) HAT.out.1) k⟩) HLD.out (by simp; omega) (by simp) ?_
                 intro v7 w7 hg7 hb7 _
                 rw [List.nil_append] at hg7
                 obtain ⟨x7, c7, rfl, _⟩ := hg7.slice
                 have HG7 := Lib.hid hg7
                 have HB7 := Lib.hid (((Below.refl w6.heap.size w6).drew.alloc (Nat.le_refl _) (.cells #[] 50)).trans hb7)
                 clear hg7 hb7))
          obtain ⟨rfl, X, x, c, x', c', rfl, rfl, hcx, hcx', h4⟩ := gath_turn (l := M.take k) (m := M.drop k) (by rw [← HSPL.out]; exact HR6.out) (by rw [HRR.out]; exact HR9.out)
          have HXX := Lib.hid (hcx.below (HB8.out.trans (HY9.out.mono HB8.out.size)))
          have HXY := Lib.hid hcx'
          obtain ⟨m, hm⟩ : ∃ m, X.length = m := ⟨_, rfl⟩
          rw [hm] at h4 ⊢
          have HMN := Lib.hid hm
          have HM4 : Hid (m ≤ 1000) := Lib.hid (by omega)
          clear hcx hcx' h4 hm
          go_wp2_with fail
          refine (sameTotals_yes x x' m c c' X _ HXX.out HXY.out HMN.out HM4.out).mono ?_
          rintro e w10 ⟨rfl, hb⟩
          have HB10 := Lib.hid (HX9.out.trans (hb.mono HX9.out.size))
          clear hb
          go_wp2_with fail
          go_ret
          exact ⟨oret_bool (by simp), HB10.out⟩
      · have h6' : (er6 != 0) = true := by simp [h6]
        clear h6
        go_wp2_with fail
        go_ret
        exact ⟨rfl, HX6.out⟩
  · have h0' : (er == 0) = false := by simp [h0]
    have HBQ := HB2
    clear h0 HR
    generalize hWQ : w2 = WQ at HBQ ⊢
    clear hWQ
    have HG0 := Lib.hid (GrowO.made WQ (B := WQ.heap.size) (Nat.le_refl _))
    have HX0 := Lib.hid (HBQ.out.alloc HBQ.out.size (.cells #[] 50))
    have HZ0 : Hid (WQ.heap.size ≤ (WQ.alloc (.cells #[] 50)).heap.size) := Lib.hid (by simp)
    go_wp2_with (first
      | (have := HG1; at_builtin; refine wpList_app_src _ rfl _ _ rfl WQ.heap.size _ l rfl HG1.out b n' cap' l' rfl (HC'.out.below HX1.out) HN'.out (by have := HN.out; omega) HZ1.out ?_; intro v5 w5 hgr5 _ hbel5)
      | (at_builtin; refine wpList_app_src _ rfl _ _ rfl WQ.heap.size (.slice (some ⟨WQ.heap.size, 0, none⟩) 0 0) [] rfl HG0.out a n cap l rfl (HC.out.below HX0.out) HN.out (by simp; omega) HZ0.out ?_; intro v4 w4 hgr4 hgw4 hbel4
         have HG1 := Lib.hid hgr4
         rw [List.nil_append] at HG1
         have HX1 := Lib.hid (HX0.out.trans (hbel4.mono HBQ.out.size))
         have HZ1 := Lib.hid (Nat.le_trans HZ0.out hgw4.size)
         clear hgr4 hbel4 hgw4))
    have HX5 := Lib.hid (HX1.out.trans (hbel5.mono HBQ.out.size))
    have HG5 := Lib.hid hgr5
    obtain ⟨xb, cb, rfl, hcb⟩ := hgr5.slice
    have HCB := Lib.hid hcb
    obtain ⟨M, hM⟩ : ∃ M, l ++ l' = M := ⟨_, rfl⟩
    rw [hM] at HG5 HCB ⊢
    obtain ⟨N, hN⟩ : ∃ N, M.length = N := ⟨_, rfl⟩
    have HNS : Hid (N ≤ 2097152) := Lib.hid (by rw [← hN, ← hM, List.length_append]; have := HN.out; have := HN'.out; omega)
    rw [hN] at HG5 ⊢
    have HLN := Lib.hid hN
    clear hM hN hcb hgr5 hbel5 HG0 HG1 HX0 HX1 HZ0 HZ1
    go_wp2_with fail
    refine (Gather_any xb N cb M _ HCB.out HLN.out).mono ?_
    rintro e w6 ⟨v6, er6, rfl, hret, hb⟩
    have HR6 := Lib.hid hret
    have HX6 := Lib.hid (HX5.out.trans (hb.mono HX5.out.size))
    have HG6 := Lib.hid (HG5.out.below hb)
    clear hret hb
    by_cases h6 : er6 = 0
    · subst h6
      by_cases hN0 : N = 0
      · subst hN0
        go_wp2_with fail
        go_ret
        exact ⟨rfl, HX6.out⟩
      · have hN1 : 1 ≤ N := by omega
        have hNi : ((N : Int) == 0) = false := by simp; omega
        have hns := HNS.out
        obtain ⟨k, hk, hkN⟩ := choose_nat tn N hN1
        have HCH := Lib.hid (fun w => choose_any tn N w (by have := wf_range ht; omega) (by have := wf_range ht; omega) (by omega) (by omega))
        rw [hk] at HCH
        obtain ⟨g, c', hv, hBg, hat, _⟩ : ∃ g c', Value.slice xb N cb = .slice (some ⟨g, 0, none⟩) N c' ∧ WQ.heap.size ≤ g ∧ OAt w6 g 0 M ∧ True := by
          rcases HG6.out.form with ⟨e1, e2⟩ | ⟨g, c', e1, e2, e3, _⟩
          · have := HLN.out
            rw [e2] at this
            simp at this
            omega
          · exact ⟨g, c', by rw [e1, HLN.out], e2, e3, trivial⟩
        injection hv with hv1 hv2 hv3
        subst hv1
        subst hv3
        clear hv2
        have HAT := Lib.hid hat
        have hcl : N ≤ cb := by
          rcases HG6.out.2 with ⟨e1, _⟩ | ⟨_, c9, _, e1, _, _, e4, _⟩
          · cases e1
          · injection e1 with _ _ e3
            subst e3
            rw [HLN.out] at e4
            exact e4
        clear hk hat hBg hN0
        have hkN' : (k : Int) ≤ (N : Int) := by omega
        have hkc : (k : Int) ≤ (cb : Int) := by omega
        have hk0 : (0 : Int) ≤ (k : Int) := by omega
        have hkne : cb ≠ k := by omega
        have HSPL : Hid (M = M.take k ++ M.drop k) := Lib.hid (List.take_append_drop k M).symm
        have HLT : Hid ((M.take k).length = k) := Lib.hid (by rw [List.length_take, HLN.out]; omega)
        have HLD : Hid ((M.drop k).length = N - k) := Lib.hid (by rw [List.length_drop, HLN.out])
        have hlr : (M.drop k ++ M.take k).length = N := by rw [List.length_append, HLT.out, HLD.out]; omega
        obtain ⟨R, hR⟩ : ∃ R, M.drop k ++ M.take k = R := ⟨_, rfl⟩
        rw [hR] at hlr
        have HRR := Lib.hid hR
        have HLR := Lib.hid hlr
        clear hR hlr
        go_wp2_with (first | (go_at_call 27; refine (HCH.out _).mono ?_; rintro e w' ⟨rfl, h'⟩; subst w'))
        go_region_held3 (fun _ => True) (trivial)
          (first
            | (go_at_call 25; refine (Gather_any x8 N c8 R _ HC9.out HLR.out).mono ?_; rintro e w9 ⟨v9, er9, rfl, hret9, hb9⟩
               have HR9 := Lib.hid hret9
               have HX9 := Lib.hid (HX8.out.trans (hb9.mono HX8.out.size))
               have HY9 := Lib.hid hb9
               clear hret9 hb9)
            | (have := HG7; refine step_app_own _ rfl (.tmp 98) (.tmp 101) (by rfl) w6.heap.size _ (M.drop k) (by rfl) HG7.out ⟨g, 0, none⟩ k cb (M.take k) (by rfl) (Or.inr ⟨g, 0, rfl, (HAT.out.below HB7.out HAT.out.1).take k⟩) HLT.out (by have := HLD.out; omega) (by have := HB7.out.size; omega) ?_
               intro v8 w8 hg8 hb8 _
               rw [HRR.out] at hg8
               obtain ⟨x8, c8, rfl, hc8⟩ := hg8.slice
               rw [HLR.out]
               have HC9 := Lib.hid hc8
               have HB8 := Lib.hid (HB7.out.trans hb8)
               have HX8 := Lib.hid (HX6.out.trans (HB8.out.mono HX6.out.size))
               clear hg8 hb8 hc8)
            | (refine step_app_own _ rfl (.tmp 94) (.tmp 97) (by rfl) w6.heap.size (.slice (some ⟨w6.heap.size, 0, none⟩) 0 0) [] (by rfl) (by first | exact GrowO.made w6.drew (Nat.le_refl _) | exact GrowO.made w6 (Nat.le_refl _)) ⟨g, k * 4, none⟩ (N - k) (cb - k) (M.drop k) (by rfl) (Or.inr ⟨g, k * 4, rfl, OAt.drop (HAT.out.below ((Below.refl w6.heap.size w6).drew.alloc (Nat.le_refl _) (.cells #[] 50)) HAT.out.1) k⟩) HLD.out (by simp; omega) (by simp) ?_
               intro v7 w7 hg7 hb7 _
               rw [List.nil_append] at hg7
               obtain ⟨x7, c7, rfl, _⟩ := hg7.slice
               have HG7 := Lib.hid hg7
               have HB7 := Lib.hid (((Below.refl w6.heap.size w6).drew.alloc (Nat.le_refl _) (.cells #[] 50)).trans hb7)
               clear hg7 hb7))
        obtain ⟨rfl, X, x, c, x', c', rfl, rfl, hcx, hcx', h4⟩ := gath_turn (l := M.take k) (m := M.drop k) (by rw [← HSPL.out]; exact HR6.out) (by rw [HRR.out]; exact HR9.out)
        have HXX := Lib.hid (hcx.below (HB8.out.trans (HY9.out.mono HB8.out.size)))
        have HXY := Lib.hid hcx'
        obtain ⟨m, hm⟩ : ∃ m, X.length = m := ⟨_, rfl⟩
        rw [hm] at h4 ⊢
        have HMN := Lib.hid hm
        have HM4 : Hid (m ≤ 1000) := Lib.hid (by omega)
        clear hcx hcx' h4 hm
        go_wp2_with fail
        refine (sameTotals_yes x x' m c c' X _ HXX.out HXY.out HMN.out HM4.out).mono ?_
        rintro e w10 ⟨rfl, hb⟩
        have HB10 := Lib.hid (HX9.out.trans (hb.mono HX9.out.size))
        clear hb
        go_wp2_with fail
        go_ret
        exact ⟨oret_bool (by simp), HB10.out⟩
    · have h6' : (er6 != 0) = true := by simp [h6]
      clear h6
      go_wp2_with fail
      go_ret
      exact ⟨rfl, HX6.out⟩
end Go.Proofs.Ytfamnlaignjhkaa
