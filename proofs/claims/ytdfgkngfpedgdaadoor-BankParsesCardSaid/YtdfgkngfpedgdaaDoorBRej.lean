/-
  Promise P4: the walk of Reject.
-/
import Derived.Test.YtdfgkngfpedgdaaDoorBPayA
namespace Go.Proofs.YtdfgkngfpedgdaaDoor
open Go.RowKit Go.Maps Go.WideMaps

theorem MapI.kept {w w' : World} {b n c : Nat} {g : Int → Option Int} {row : Option Nat} (h : MapI w b n g c) (hg : w.grownBy w' row) (hr : some b ≠ row) : MapI w' b n g c := by
  have hlt := h.lt
  obtain ⟨D, ⟨es, clock, hbk, h3⟩, h2⟩ := h
  exact ⟨D, ⟨es, clock, by rw [hg.block b hlt hr]; exact hbk, h3⟩, h2⟩
def oneI (z : List Int) (k : Nat) : Int → Option Int := fun x => if metI z x k = true then some 1 else none
theorem oneI_no {z : List Int} {k : Nat} {x : Int} (h : metI z x k = false) : oneI z k x = none := by unfold oneI; rw [h]; rfl
theorem oneI_yes {z : List Int} {k : Nat} {x : Int} (h : metI z x k = true) : oneI z k x = some 1 := by unfold oneI; rw [h]; rfl
theorem oneI_succ (z : List Int) (k : Nat) : oneI z (k + 1) = fun x => if x = nth z k then some 1 else oneI z k x := by
  funext x
  unfold oneI
  rw [metI]
  by_cases e : x = nth z k
  · rw [if_pos e, e]; simp
  · rw [if_neg e]
    have : (nth z k == x) = false := by simpa using fun q => e q.symm
    rw [this, Bool.or_false]
/-- A slice of ints: its cells behind whatever leaves what was there. -/
theorem Came.openI {w : World} {a : Option Addr} {l : List Int} (h : Came w a l) {n : Nat} (hn : l.length = n) (h0 : 0 < n) : ∃ b off, a = some ⟨b, off, none⟩ ∧ b < w.heap.size ∧ ∀ w', Below w.heap.size w w' → ∀ k, k < n → w'.cell? ⟨b, off + k, none⟩ = some (.int .i64 (nth l k)) := by
  rcases h with h | ⟨b, off, rfl, h⟩
  · omega
  · exact ⟨b, off, rfl, h.1, fun w' hb k hk => (h.below hb h.1).2 k (by omega)⟩
/-- What Reject answers. -/
def RejRet (w w' : World) (e : Ending) (l : List Py) (n : Nat) (z : List Int) (m : Nat) : Prop := ∃ lv rv, e = .returned (.tuple #[lv, rv, .int .i64 (rejE l n z m)]) ∧
  ((rejE l n z m ≠ 0 ∧ lv = .slice none 0 0 ∧ rv = .slice none 0 0) ∨ (rejE l n z m = 0 ∧ GrowP w' w.heap.size lv (selP l (fun x => !metI z x m) n) ∧ GrowP w' w.heap.size rv (selP l (fun x => metI z x m) n))) ∧ Below w.heap.size w w'
set_option maxRecDepth 100000 in
set_option maxHeartbeats 4000000 in
theorem Reject_any (a : Option Addr) (n cap : Nat) (l : List Py) (za : Option Addr) (m zcap : Nat) (z : List Int) (w : World) (ht : Tab w) (hc : CameP w a l) (hf : ∀ j, j < n → FitP (pnth l j)) (hn : l.length = n) (hm : n ≤ 9223372036854775807)
    (hz : Came w za z) (hzn : z.length = m) (hzm : m ≤ maxLen) (hzw : ∀ x ∈ z, (Lit.int .i64 x).wf = true) :
    Calls Tryd.prog 24 #[.slice a n cap, .slice za m zcap] w fun e w' => RejRet w w' e l n z m := by
  have HCK := Lib.hid (checkPayments_any a n cap l w ht hc hf hn hm)
  have HC := Lib.hid hc
  have HF := Lib.hid hf
  have HN := Lib.hid hn
  have HZO := Lib.hid (fun h0 => hz.openI hzn h0)
  have HZW : Hid (∀ j, j < m → (Lit.int .i64 (nth z j)).wf = true) := fun j hj => nth_mem_or (by decide) hzw j
  have hmI : m ≤ 9223372036854775807 := by unfold maxLen at hzm; omega
  clear ht hc hf hn hz hzn hzw
  by_cases hp : payE l n = 0
  · rw [hp] at HCK
    have HRE := Lib.hid (rejE_ref (z := z) (m := m) hp)
    have hn300 := (payE_zero hp).1
    have HPL := Lib.hid (fun w hc => placesByRef_any a n cap l w hc HF.out HN.out hn300)
    have hmm := make_mapI
    clear hp
    go_enter Tryd.func24, Tryd.ntmps24
    go_wp2_with fail
    refine HCK.out.mono ?_
    rintro e w1 ⟨rfl, hb1⟩
    have HB1 := Lib.hid hb1
    clear hb1
    go_wp2_with fail
    refine (HPL.out _ (HC.out.below HB1.out)).mono ?_
    rintro e w2 ⟨pb, rfl, _, hpm, hb2⟩
    have HB2 := Lib.hid (HB1.out.trans (hb2.mono HB1.out.size))
    have HPM := Lib.hid (hpm.below (bbelow_box w2 (.map #[] 0)))
    have HPB := Lib.hid hpm.lt
    have HB3 := Lib.hid (HB2.out.alloc HB2.out.size (.map #[] 0))
    clear hb2 hpm
    go_wp2_with fail
    go_loopw [30] (fun i wr => ∃ k : Nat, k ≤ m ∧ i = .int .i64 k ∧ (∀ j, j < k → badI l n z j = 0) ∧ (∃ c, MapI wr w2.heap.size k (oneI z k) c) ∧ MapI wr pb n (lastR l n) (cntR l n) ∧ Below w.heap.size w wr) (fun i _ => m - (intOf i).toNat)
    case atStart => exact ⟨0, Nat.zero_le _, rfl, fun j hj => by omega, ⟨0, MapI.made w2⟩, HPM.out, HB3.out⟩
    case round =>
      clear hmm HPL HCK
      obtain ⟨k, hk, rfl, hall, ⟨ct, hmt⟩, hmp, hb⟩ := hrel
      have HA := Lib.hid hall
      have HMT := Lib.hid hmt
      have HMP := Lib.hid hmp
      have HB := Lib.hid hb
      clear hall hmt hmp hb
      by_cases hlt : k < m
      · have hlt' : (k : Int) < (m : Int) := by omega
        obtain ⟨b, off, rfl, hbl, hcell⟩ := HZO.out (by omega)
        have x0 := hcell wr HB.out k hlt
        clear hcell
        have hkey : keyOf Tryd.prog 3 (.int .i64 (nth z k)) = some (.int .i64 (nth z k)) := keyOf_int_mk Tryd.underlying3 (HZW.out k hlt)
        obtain ⟨D1, hown1, hD1, _⟩ := HMP.out
        obtain ⟨D2, hown2, hD2, _⟩ := HMT.out
        have hd1 := (hD1 (nth z k)).1
        rw [lastR_met] at hd1
        have hd2 := (hD2 (nth z k)).2
        have HD2 := Lib.hid hD2
        have HOS := Lib.hid (oneI_succ z k)
        have HFA := Lib.hid (fun h => firstI_at (l := l) (n := n) (z := z) (k := k) HA.out h hlt)
        have HNX : Hid (badI l n z k = 0 → ∀ j, j < k + 1 → badI l n z j = 0) := fun h j hj => by
          by_cases e : j = k
          · subst e; exact h
          · exact HA.out j (by omega)
        clear hD1 hD2
        obtain ⟨v1, _, hr1, hv1⟩ := hown1.look_ok intLaw Tryd.underlying71 (zeroInt _) (plainElem_int Tryd.underlying3 (by decide)) hkey
        obtain ⟨c1, rfl, _, _⟩ := plainElem_int_inv Tryd.underlying3 hv1
        rw [hd1] at hr1
        clear hv1
        cases hmt : metR l (nth z k) n
        · have HE : Hid (rejE l n z m = 5) := by unfold Hid; have := badI_none hmt; rw [HRE.out, HFA.out (by rw [this]; decide), this]
          have HNE : Hid ((5 : Int) ≠ 0) := by unfold Hid; decide
          rw [hmt] at hr1
          go_wp2_with fail
          go_ret3
          refine ⟨.slice none 0 0, .slice none 0 0, ?_, .inl ⟨?_, rfl, rfl⟩, HB.out⟩
          · show Ending.returned (.tuple #[.slice none 0 0, .slice none 0 0, .int .i64 (5)]) = _
            rw [HE.out]
          · rw [HE.out]; exact HNE.out
        · rw [hmt] at hr1
          obtain ⟨c2, hr2, hc2, _⟩ := hown2.lookup_int intLaw Tryd.underlying71 Tryd.underlying3 (zeroInt _) hkey
          rw [hd2] at hc2
          cases hti : metI z (nth z k) k
          · rw [oneI_no hti] at hc2
            obtain rfl : c2 = 0 := by cases hc2; rfl
            have HOK := Lib.hid (HNX.out (badI_ok hmt hti))
            clear hc2 hd1 hd2 HFA HNX
            generalize nth z k = x at *
            go_wp2_with (first
              | (at_mapUpdate; refine wpList_mapUpdate_own _ rfl _ _ _ 71 rfl 3 3 intLaw Tryd.underlying71 (plainElem (H := Unit) Tryd.prog 3) w2.heap.size k _ rfl hown2 (by unfold maxLen at *; omega) _ _ _ rfl rfl hkey (.lit (.int .i64 1)) [] (plainElem_int Tryd.underlying3 (by decide)) ?_; intro w5 hown5 hgrow5
                 obtain ⟨c5, hr5, hc5, _⟩ := hown5.lookup_int intLaw Tryd.underlying71 Tryd.underlying3 (zeroInt _) hkey
                 rw [atKey_put_same hown2.isMap (show WideAt.IsKeyLit (.int .i64 x) from trivial)] at hc5
                 obtain rfl : c5 = 1 := by cases hc5; rfl))
            go_roundw
            case rel =>
              refine ⟨k + 1, by omega, by go_num, HOK.out, ⟨_, _, hown5, ?_, rfl⟩, ?_, ?_⟩
              · rw [HOS.out]
                exact mapI_put hown2.isMap HD2.out
              · refine HMP.out.kept hgrow5 ?_
                intro e
                have := HPB.out
                cases e
                omega
              · exact HB.out.grown hgrow5 HB.out.size (fun j hj => by cases hj; exact HB2.out.size)
            case measure => simp [intOf]; omega
          · rw [oneI_yes hti] at hc2
            obtain rfl : c2 = 1 := by cases hc2; rfl
            have HE : Hid (rejE l n z m = 6) := by unfold Hid; have := badI_twice hmt hti; rw [HRE.out, HFA.out (by rw [this]; decide), this]
            have HNE : Hid ((6 : Int) ≠ 0) := by unfold Hid; decide
            clear hc2 hd1 hd2 HFA HNX
            generalize nth z k = x at *
            go_wp2_with (first
              | (at_mapUpdate; refine wpList_mapUpdate_own _ rfl _ _ _ 71 rfl 3 3 intLaw Tryd.underlying71 (plainElem (H := Unit) Tryd.prog 3) w2.heap.size k _ rfl hown2 (by unfold maxLen at *; omega) _ _ _ rfl rfl hkey (.lit (.int .i64 2)) [] (plainElem_int Tryd.underlying3 (by decide)) ?_; intro w5 hown5 hgrow5
                 obtain ⟨c5, hr5, hc5, _⟩ := hown5.lookup_int intLaw Tryd.underlying71 Tryd.underlying3 (zeroInt _) hkey
                 rw [atKey_put_same hown2.isMap (show WideAt.IsKeyLit (.int .i64 x) from trivial)] at hc5
                 obtain rfl : c5 = 2 := by cases hc5; rfl))
            have HB5 := Lib.hid (HB.out.grown hgrow5 HB.out.size (fun j hj => by cases hj; exact HB2.out.size))
            go_ret3
            refine ⟨.slice none 0 0, .slice none 0 0, ?_, .inl ⟨?_, rfl, rfl⟩, HB5.out⟩
            · show Ending.returned (.tuple #[.slice none 0 0, .slice none 0 0, .int .i64 6]) = _
              rw [HE.out]
            · rw [HE.out]; exact HNE.out
      · obtain rfl : m = k := by omega
        have HE : Hid (rejE l n z m = 0) := by unfold Hid; rw [HRE.out]; exact firstI_ok HA.out
        have HO := Lib.hid (fun h0 => HC.out.open HN.out h0)
        have HBS := Lib.hid HB.out.size
        clear HA
        generalize wr = wz at *
        go_wp2_with fail
        go_loopw [14, 15, 53] (fun lv rv i wr => ∃ k : Nat, k ≤ n ∧ i = .int .i64 k ∧ GrowP wr wz.heap.size lv (selP l (fun x => !metI z x m) k) ∧ GrowP wr wz.heap.size rv (selP l (fun x => metI z x m) k) ∧ Apart lv rv ∧ Below wz.heap.size wz wr) (fun _ _ i _ => n - (intOf i).toNat)
        case atStart => exact ⟨0, Nat.zero_le _, rfl, GrowP.nil _ _, GrowP.nil _ _, .inl rfl, Below.refl _ _⟩
        case round =>
          obtain ⟨k, hk, rfl, hgl, hgr, hap, hb6⟩ := hrel
          have HGL := Lib.hid hgl
          have HGR := Lib.hid hgr
          have HAP := Lib.hid hap
          have HB6 := Lib.hid hb6
          have HLL := Lib.hid (selP_len l (fun x => !metI z x m) k)
          have HLR := Lib.hid (selP_len l (fun x => metI z x m) k)
          obtain ⟨xl, cl, hvl, _⟩ := hgl.slice
          obtain ⟨xr, cr, hvr, _⟩ := hgr.slice
          subst hvl hvr
          clear hgl hgr hap hb6
          by_cases hlt2 : k < n
          · have hlt2' : (k : Int) < (n : Int) := by omega
            obtain ⟨b, off, rfl, hbl, hcell⟩ := HO.out (by omega)
            have hbw := HB.out.trans (HB6.out.mono HB.out.size)
            obtain ⟨x0, x1, x2, x3⟩ := hcell wr hbw k hlt2
            have hfit := HF.out k hlt2
            have hkey : keyOf Tryd.prog 3 (.int .i64 (pnth l k).ref) = some (.int .i64 (pnth l k).ref) := keyOf_int_mk Tryd.underlying3 hfit.2.2
            have HY1 := Lib.hid (@selP_yes l (fun x => !metI z x m) k)
            have HY2 := Lib.hid (@selP_yes l (fun x => metI z x m) k)
            have HY3 := Lib.hid (@selP_no l (fun x => !metI z x m) k)
            have HY4 := Lib.hid (@selP_no l (fun x => metI z x m) k)
            have HBX := Lib.hid (bbelow_box wr (.cells #[.string (pnth l k).acc, .string (pnth l k).nam, .int .i64 (pnth l k).mon, .int .i64 (pnth l k).ref] 46))
            obtain ⟨D2, hown2, hD2, _⟩ := (HMT.out.below HB6.out).below HBX.out
            obtain ⟨c2, hr2, hc2, _⟩ := hown2.lookup_int intLaw Tryd.underlying71 Tryd.underlying3 (zeroInt _) hkey
            rw [(hD2 (pnth l k).ref).2] at hc2
            have HBW := Lib.hid (HB6.out.trans (HBX.out.mono HB6.out.size))
            have HGLx := Lib.hid (HGL.out.below HBX.out)
            have HGRx := Lib.hid (HGR.out.below HBX.out)
            have HPY : Hid (pnth l k = ⟨(pnth l k).acc, (pnth l k).nam, (pnth l k).mon, (pnth l k).ref⟩) := rfl
            clear hD2 hcell hfit hbw hbl HBX
            generalize hpk : pnth l k = pk at *
            clear hpk
            generalize selP l (fun x => !metI z x m) k = L0 at *
            generalize selP l (fun x => metI z x m) k = L1 at *
            cases hti : metI z pk.ref m
            · rw [oneI_no hti] at hc2
              obtain rfl : c2 = 0 := by cases hc2; rfl
              have HS1 := Lib.hid (HY1.out (by simp [hti]))
              have HS2 := Lib.hid (HY4.out hti)
              clear hc2
              go_wp2_with (at_builtin; go_loud (refine wpList_appP _ rfl _ _ rfl wz.heap.size _ L0 rfl ?hgw _ 1 pk rfl ?h0 ?h1 ?h2 ?h3 ?hl ?hB ?_; rotate_right; intro v9 w9 hg9 hgr9 hd9 hb9; refine Hid.out ?_))
              case hgw => exact HGLx.out.alloc _
              all_goals try (case h0 => simp)
              all_goals try (case h1 => simp)
              all_goals try (case h2 => simp)
              all_goals try (case h3 => simp)
              case hl => have := HLL.out; have := HLR.out; omega
              case hB => have := HBW.out.size; simp at *; omega
              have HO9 := Lib.hid ((HGRx.out.alloc _).kept hgr9 ?hapx)
              case hapx => first | exact HAP.out.symm | exact HAP.out
              have HA9 : Hid (Apart _ v9) := Apart.appP ?hap2 (HGRx.out.alloc _) hd9
              case hap2 => first | exact HAP.out.symm | exact HAP.out
              have HB9 := Lib.hid ((HBW.out.alloc HBW.out.size _).trans hb9)
              have HG9 := Lib.hid hg9
              obtain ⟨x9, c9, hv9, _⟩ := hg9.slice
              subst hv9
              clear hg9 hgr9 hd9 hb9
              refine Lib.hid ?_
              go_wp2_with fail
              go_roundw
              case rel => exact ⟨k + 1, by omega, by go_num, by rw [HS1.out]; exact HG9.out, by rw [HS2.out]; exact HO9.out, HA9.out.symm, HB9.out⟩
              case measure => simp [intOf]; omega
            · rw [oneI_yes hti] at hc2
              obtain rfl : c2 = 1 := by cases hc2; rfl
              have HS1 := Lib.hid (HY3.out (by simp [hti]))
              have HS2 := Lib.hid (HY2.out hti)
              clear hc2
              go_wp2_with (at_builtin; go_loud (refine wpList_appP _ rfl _ _ rfl wz.heap.size _ L1 rfl ?hgw _ 1 pk rfl ?h0 ?h1 ?h2 ?h3 ?hl ?hB ?_; rotate_right; intro v9 w9 hg9 hgr9 hd9 hb9; refine Hid.out ?_))
              case hgw => exact HGRx.out.alloc _
              all_goals try (case h0 => simp)
              all_goals try (case h1 => simp)
              all_goals try (case h2 => simp)
              all_goals try (case h3 => simp)
              case hl => have := HLL.out; have := HLR.out; omega
              case hB => have := HBW.out.size; simp at *; omega
              have HO9 := Lib.hid ((HGLx.out.alloc _).kept hgr9 ?hapx)
              case hapx => first | exact HAP.out.symm | exact HAP.out
              have HA9 : Hid (Apart _ v9) := Apart.appP ?hap2 (HGLx.out.alloc _) hd9
              case hap2 => first | exact HAP.out.symm | exact HAP.out
              have HB9 := Lib.hid ((HBW.out.alloc HBW.out.size _).trans hb9)
              have HG9 := Lib.hid hg9
              obtain ⟨x9, c9, hv9, _⟩ := hg9.slice
              subst hv9
              clear hg9 hgr9 hd9 hb9
              refine Lib.hid ?_
              go_wp2_with fail
              go_roundw
              case rel => exact ⟨k + 1, by omega, by go_num, by rw [HS1.out]; exact HO9.out, by rw [HS2.out]; exact HG9.out, HA9.out, HB9.out⟩
              case measure => simp [intOf]; omega
          · obtain rfl : n = k := by omega
            go_wp2_with fail
            go_ret3
            refine ⟨.slice xl _ cl, .slice xr _ cr, ?_, .inr ⟨HE.out, HGL.out.mono HB.out.size, HGR.out.mono HB.out.size⟩, HB.out.trans (HB6.out.mono HB.out.size)⟩
            show Ending.returned (.tuple #[.slice xl _ cl, .slice xr _ cr, .int .i64 0]) = _
            rw [HE.out]
  · have HE := Lib.hid (rejE_pay (z := z) (m := m) hp)
    have HNE := Lib.hid hp
    have heB : (payE l n != 0) = true := by simpa using hp
    have heD : decide (payE l n = 0) = false := decide_eq_false hp
    go_enter Tryd.func24, Tryd.ntmps24
    go_wp2_with fail
    refine HCK.out.mono ?_
    rintro e w1 ⟨rfl, hb1⟩
    have HB1 := Lib.hid hb1
    clear hb1
    go_wp2_with fail
    go_ret3
    refine ⟨.slice none 0 0, .slice none 0 0, ?_, .inl ⟨?_, rfl, rfl⟩, HB1.out⟩
    · show Ending.returned (.tuple #[.slice none 0 0, .slice none 0 0, .int .i64 (payE l n)]) = _
      rw [HE.out]
    · rw [HE.out]; exact HNE.out
end Go.Proofs.YtdfgkngfpedgdaaDoor
