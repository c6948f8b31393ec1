/-
  The walk of the law SlipLasts: it answers true at every input.
-/
import Derived.Test.YtiedlmhahdnhaaaSLastW
namespace Go.Proofs.Ytiedlmhahdnhaaa
open Go.RowKit Go.Sort

theorem lastsTo_len (l : List Sl) (k : Nat) : (lastsTo l k).length ≤ k := by
  unfold lastsTo
  rw [List.length_map]
  exact Nat.le_trans (List.length_filter_le _ _) (by simp)
theorem lastsTo_zero (l : List Sl) : lastsTo l 0 = [] := rfl
/-- The law's numbersAre at what is right. -/
theorem numbersAre_ok (v u : Value) (L : List Int) (w : World) (hL : L.length ≤ 100000) (hv : CameI w v L) (hu : CameI w u L) :
    Calls Try.prog 23 #[v, .int .i64 0, .int .i64 0, u] w fun e w' => e = .returned (.bool true) ∧ Go.RowKit.Below w.heap.size w w' := by
  have HV := Lib.hid hv
  have HU := Lib.hid hu
  obtain ⟨x, c, rfl, _⟩ := hv
  obtain ⟨y, d, rfl, _⟩ := hu
  go_enter Try.func23, Try.ntmps23
  go_wp2_with (first | (go_at_call 24; refine (sameI_yes _ _ L _ hL HV.out HU.out).mono ?_; rintro e w1 ⟨rfl, k1, rfl⟩))
  go_ret
  exact ⟨rfl, ⟨rfl, rfl, rfl, Nat.le_refl _, fun _ _ => rfl⟩⟩
theorem numbersAre_no (u : Value) (er : Int) (w : World) (her : er ≠ 0) :
    Calls Try.prog 23 #[.slice none 0 0, .int .i64 er, .int .i64 er, u] w fun e w' => e = .returned (.bool true) ∧ Go.RowKit.Below w.heap.size w w' := by
  have hne : (er != 0) = true := by simpa using her
  have hee : (er == er) = true := by simp
  go_enter Try.func23, Try.ntmps23
  go_wp2_with (first | (go_at_call 24; refine (sameI_yes _ _ [] _ (by simp) (CameI.nil _) (CameI.nil _)).mono ?_; rintro e w1 ⟨rfl, k1, rfl⟩))
  go_ret
  exact ⟨rfl, ⟨rfl, rfl, rfl, Nat.le_refl _, fun _ _ => rfl⟩⟩
set_option maxRecDepth 100000 in
set_option maxHeartbeats 4000000 in
theorem walk_slipLasts (a : Option Addr) (n cap : Nat) (l : List Sl) {w : World} (hc : CameS w a l) (hn : l.length = n) (hm : n ≤ maxLen) (_ : ∀ j, j < n → WfSl (snth l j)) :
    Calls Try.prog 7 #[.slice a n cap] w fun e w' => e = .returned (.bool true) ∧ Go.RowKit.Below w.heap.size w w' := by
  have hm' : n ≤ 9223372036854775807 := by unfold maxLen at hm; omega
  have HC := Lib.hid hc
  have HN := Lib.hid hn
  clear hc hn hm
  go_enter Try.func7, Try.ntmps7
  go_wp2_with fail
  refine (Lasts_any a n cap l _ HC.out HN.out).mono ?_
  rintro e w1 ⟨v, er, rfl, rfl, hli, hb⟩
  have HB1 := Lib.hid hb
  have HL1 := Lib.hid hli
  have HC1 := Lib.hid (HC.out.below hb)
  clear hb hli
  go_wp2_with fail
  refine (checkSlips_ref a n cap l _ HC1.out HN.out).mono ?_
  rintro e w2 ⟨rfl, hb⟩
  have HB2 := Lib.hid (HB1.out.trans (hb.mono HB1.out.size))
  have HL2 := Lib.hid (HL1.out.below hb)
  have HC2 := Lib.hid (HC1.out.below hb)
  clear hb HB1 HL1 HC1
  by_cases h0 : slE l = 0
  · have H0 := Lib.hid h0
    have hL : n ≤ 200 := by rw [← HN.out]; exact (slE_ok h0).1
    rw [h0]
    have HO := Lib.hid (fun h0 => HC2.out.open HN.out h0)
    have HV2 := Lib.hid (HL2.out.2 h0)
    clear h0 HL2
    go_wp2_with fail
    go_loopw [6, 7] (fun lv i wr => ∃ k : Nat, k ≤ n ∧ i = .int .i64 k ∧ Grow wr w2.heap.size lv (lastsTo l k) ∧ Go.RowKit.Below w2.heap.size w2 wr) (fun _ i _ => n - (intOf i).toNat)
    case atStart => exact ⟨0, Nat.zero_le _, rfl, by rw [lastsTo_zero]; exact Grow.nil _ _, Below.refl _ _⟩
    case round =>
      obtain ⟨k, hk, rfl, hgr, hb⟩ := hrel
      have HG := Lib.hid hgr
      have HB := Lib.hid hb
      obtain ⟨x9, c9, hlv⟩ : ∃ x9 c9, u6 = .slice x9 (lastsTo l k).length c9 := by
        rcases hgr.2 with ⟨h1, h2⟩ | ⟨g9, c9, cur, h1, _⟩
        · exact ⟨none, 0, by rw [h1, h2]⟩
        · exact ⟨_, c9, h1⟩
      subst hlv
      clear hgr hb
      by_cases hlt : k < n
      · have hlt' : (k : Int) < (n : Int) := by omega
        have HST := Lib.hid (lastsTo_step l k)
        have HIL : Hid (isLast l k = lst l k (n - (k + 1))) := by unfold Hid isLast; rw [HN.out]
        have HLL : Hid ((lastsTo l k).length ≤ 200) := by unfold Hid; have := lastsTo_len l k; omega
        obtain ⟨b, off, rfl, hcell⟩ := HO.out (by omega)
        have HCELL := Lib.hid hcell
        obtain ⟨⟨x0, x1, x2, x3⟩, _⟩ := hcell wr HB.out k hlt
        clear hcell
        obtain ⟨m9, hm9⟩ : ∃ m9, (lastsTo l k).length = m9 := ⟨_, rfl⟩
        rw [hm9] at HG HLL ⊢
        have HM9 := Lib.hid hm9
        clear hm9
        obtain ⟨nu, hnu⟩ : ∃ z, (snth l k).num = z := ⟨_, rfl⟩
        rw [hnu] at x0 HST
        clear hnu
        have HL0 : Hid (lst l k 0 = !(snth l k).gone) := rfl
        have HLS : Hid (∀ t, lst l k (t + 1) = (lst l k t && ((snth l (k + 1 + t)).per != (snth l k).per || (snth l (k + 1 + t)).gone))) := fun t => rfl
        obtain ⟨go, hgo⟩ : ∃ z, (snth l k).gone = z := ⟨_, rfl⟩
        obtain ⟨pe, hpe⟩ : ∃ z, (snth l k).per = z := ⟨_, rfl⟩
        rw [hgo] at x3 HL0
        rw [hpe] at x1 HLS
        clear hgo hpe
        go_wp2_with fail
        have HBW : Hid (∀ q, Go.RowKit.Below w2.heap.size w2 (wr.drewN q)) := fun q => HB.out.trans ⟨rfl, rfl, rfl, Nat.le_refl _, fun _ _ => rfl⟩
        generalize wr = wq at *
        go_loopw [8, 9] (fun la kk wv => ∃ j q : Nat, j ≤ n ∧ k + 1 ≤ j ∧ la = .bool (lst l k (j - (k + 1))) ∧ kk = .int .i64 j ∧ wv = wq.drewN q) (fun _ kk _ => n - (intOf kk).toNat)
        case atStart => exact ⟨k + 1, 0, by omega, Nat.le_refl _, by rw [Nat.sub_self, HL0.out], by go_num, rfl⟩
        case round =>
          obtain ⟨j, q, hj, hkj, rfl, rfl, rfl⟩ := hrel
          by_cases hjl : j < n
          · have hjl' : (j : Int) < (n : Int) := by omega
            obtain ⟨⟨_, y1, _, y3⟩, _⟩ := HCELL.out wq HB.out j hjl
            have HNX : Hid (lst l k (j + 1 - (k + 1)) = (lst l k (j - (k + 1)) && ((snth l j).per != pe || (snth l j).gone))) := by
              unfold Hid
              rw [show j + 1 - (k + 1) = (j - (k + 1)) + 1 from by omega, HLS.out, show k + 1 + (j - (k + 1)) = j from by omega]
            obtain ⟨pj, hpj⟩ : ∃ z, (snth l j).per = z := ⟨_, rfl⟩
            obtain ⟨gj, hgj⟩ : ∃ z, (snth l j).gone = z := ⟨_, rfl⟩
            rw [hpj] at y1 HNX
            rw [hgj] at y3 HNX
            clear hpj hgj
            obtain ⟨la, hla⟩ : ∃ z, lst l k (j - (k + 1)) = z := ⟨_, rfl⟩
            rw [hla] at HNX ⊢
            clear hla
            cases la
            · go_wp2_with fail
              go_quiet (fail)
              go_wp2_with fail
              go_roundw
              case rel => exact ⟨j + 1, _, by omega, by omega, by rw [HNX.out]; first | rfl | simp, by go_num, rfl⟩
              case measure => simp [intOf]; omega
            · cases hne : (pj != pe)
              · rw [hne] at HNX
                cases gj
                · go_wp2_with fail
                  go_quiet (fail)
                  go_wp2_with fail
                  go_roundw
                  case rel => exact ⟨j + 1, _, by omega, by omega, by rw [HNX.out]; first | rfl | simp, by go_num, rfl⟩
                  case measure => simp [intOf]; omega
                · go_wp2_with fail
                  go_quiet (fail)
                  go_wp2_with fail
                  go_roundw
                  case rel => exact ⟨j + 1, _, by omega, by omega, by rw [HNX.out]; first | rfl | simp, by go_num, rfl⟩
                  case measure => simp [intOf]; omega
              · rw [hne] at HNX
                go_wp2_with fail
                go_quiet (fail)
                go_wp2_with fail
                go_roundw
                case rel => exact ⟨j + 1, _, by omega, by omega, by rw [HNX.out]; first | rfl | simp, by go_num, rfl⟩
                case measure => simp [intOf]; omega
          · have hjn : j = n := by omega
            subst hjn
            have hnl : decide ((j : Int) < (j : Int)) = false := decide_eq_false (by omega)
            rw [← HIL.out]
            have HGQ : Hid (Grow (wq.drewN q) w2.heap.size (.slice x9 m9 c9) (lastsTo l k)) := HG.out
            have HBQ := Lib.hid (HBW.out q)
            have x0' : (wq.drewN q).cell? ⟨b, off + k * 5, none⟩ = some (.int .i64 nu) := x0
            obtain ⟨W, hW⟩ : ∃ W, wq.drewN q = W := ⟨_, rfl⟩
            rw [hW] at HGQ HBQ x0' ⊢
            clear hW
            cases hil : isLast l k
            · have HS1 : Hid (lastsTo l (k + 1) = lastsTo l k) := by unfold Hid; rw [HST.out, hil]; simp
              clear HST HIL hil
              go_wp2_with fail
              go_roundw
              case rel => exact ⟨k + 1, by omega, by go_num, by rw [HS1.out]; exact HGQ.out, HBQ.out⟩
              case measure => simp [intOf]; omega
            · have HS1 : Hid (lastsTo l (k + 1) = lastsTo l k ++ [nu]) := by unfold Hid; rw [HST.out, hil]; simp
              clear HST HIL hil
              have HG2 := Lib.hid (Grow.alloc HGQ.out (.cells #[.int .i64 nu] 3))
              have HB3 := Lib.hid (HBQ.out.alloc HBQ.out.size (.cells #[.int .i64 nu] 3))
              have HLT := Lib.hid (Grow.lt HG2.out)
              go_wp2_with (first
                | (at_builtin; refine wpList_app _ rfl _ _ rfl w2.heap.size (.slice x9 m9 c9) (lastsTo l k) rfl HG2.out ⟨W.heap.size, 0, none⟩ 1 nu rfl (by simp) (by have := HLL.out; have := HM9.out; omega) (by have := HBQ.out.size; simp; omega) ?_; intro v' w3 hgr2 hgrow2 hob2 _))
              go_roundw
              case rel => exact ⟨k + 1, by omega, by go_num, by rw [HS1.out]; exact hgr2, HB3.out.grown hgrow2 HB3.out.size (fun i hi => (HLT.out i hi).1)⟩
              case measure => simp [intOf]; omega
      · have hkn : k = n := by omega
        subst hkn
        have hnl : decide ((k : Int) < (k : Int)) = false := decide_eq_false (by omega)
        have HLL : Hid ((lastsTo l k).length ≤ 200) := by unfold Hid; have := lastsTo_len l k; omega
        have HFU : Hid (lastsTo l l.length = lastsTo l k) := by unfold Hid; rw [HN.out]
        rw [HFU.out] at HV2
        have HCM := Lib.hid (Grow.came HG.out)
        have HV3 := Lib.hid (HV2.out.below HB.out)
        obtain ⟨L, hL'⟩ : ∃ L, lastsTo l k = L := ⟨_, rfl⟩
        rw [hL'] at HV3 HCM HLL ⊢
        have HBB := Lib.hid (HB2.out.trans (HB.out.mono HB2.out.size))
        clear hL'
        go_wp2_with (first | (go_at_call 10; refine (slipBegun_any _).mono ?_; rintro e w5 ⟨rfl, hb5⟩; refine Hid.out ?_))
        have HB5 := Lib.hid (HBB.out.trans (hb5.mono HBB.out.size))
        have HV5 := Lib.hid (HV3.out.below hb5)
        have HC5 := Lib.hid (HCM.out.below hb5)
        clear hb5
        refine Lib.hid ?_
        go_wp2_with (first | (go_at_call 23; refine (numbersAre_ok v _ L _ (by have := HLL.out; omega) HV5.out HC5.out).mono ?_; rintro e w6 ⟨rfl, hb6⟩))
        go_ret
        exact ⟨rfl, HB5.out.trans (hb6.mono HB5.out.size)⟩
  · have h0' : (slE l != 0) = true := by simp [h0]
    have hE : (slE l == 0) = false := by simpa using h0
    have hE2 : decide (slE l = 0) = false := decide_eq_false h0
    obtain rfl : v = .slice none 0 0 := HL2.out.1 h0
    obtain ⟨cc, hcc⟩ : ∃ c, slE l = c := ⟨_, rfl⟩
    rw [hcc] at h0' h0 hE hE2 ⊢
    clear hcc
    by_cases hz : n = 0
    · subst hz
      go_wp2_with fail
      go_loopw [7] (fun i wv => i = .int .i64 0 ∧ wv = w2) (fun _ _ => 0)
      case atStart => exact ⟨rfl, rfl⟩
      case round =>
        obtain ⟨rfl, rfl⟩ := hrel
        go_wp2_with (first | (go_at_call 10; refine (slipBegun_any _).mono ?_; rintro e w5 ⟨rfl, hb5⟩; refine Hid.out ?_))
        have HB5 := Lib.hid (HB2.out.trans (hb5.mono HB2.out.size))
        clear hb5
        refine Lib.hid ?_
        go_wp2_with (first | (go_at_call 23; refine (numbersAre_no _ cc _ h0).mono ?_; rintro e w6 ⟨rfl, hb6⟩))
        go_ret
        exact ⟨rfl, HB5.out.trans (hb6.mono HB5.out.size)⟩
    · have hz' : (0 : Int) < (n : Int) := by omega
      go_wp2_with fail
      go_loopw [7] (fun i wv => i = .int .i64 0 ∧ wv = w2) (fun _ _ => 0)
      case atStart => exact ⟨rfl, rfl⟩
      case round =>
        obtain ⟨rfl, rfl⟩ := hrel
        go_wp2_with (first | (go_at_call 10; refine (slipBegun_any _).mono ?_; rintro e w5 ⟨rfl, hb5⟩; refine Hid.out ?_))
        have HB5 := Lib.hid (HB2.out.trans (hb5.mono HB2.out.size))
        clear hb5
        refine Lib.hid ?_
        go_wp2_with (first | (go_at_call 23; refine (numbersAre_no _ cc _ h0).mono ?_; rintro e w6 ⟨rfl, hb6⟩))
        go_ret
        exact ⟨rfl, HB5.out.trans (hb6.mono HB5.out.size)⟩
end Go.Proofs.Ytiedlmhahdnhaaa
