/-
  Promise R4: the walk of Lasts.
-/
import Derived.Test.YtiedlmhahdnhaaaSLast
import Derived.Test.YtiedlmhahdnhaaaSRun
namespace Go.Proofs.Ytiedlmhahdnhaaa
open Go.RowKit Go.Sort Go.Maps Go.WideMaps

theorem Grow.opn {w : World} {B : Nat} {x : Option Addr} {n c : Nat} {l : List Int} (h : Grow w B (.slice x n c) l) (hl : 0 < l.length) : ∃ g cur, x = some ⟨g, 0, none⟩ ∧ n = l.length ∧ l.length ≤ c ∧ c ≤ maxLen ∧ B ≤ g ∧ g < w.heap.size ∧ w.heap[g]? = some (.cells cur 3 (0, 0)) ∧ Sort.Holds (Value.int .i64) w g 0 l.toArray := by
  have hlt := Grow.lt h
  rcases h.2 with ⟨_, h2⟩ | ⟨g, cap, cur, h1, h2, h3, h4, h5, h6, h7⟩
  · omega
  · injection h1 with e1 e2 e3
    subst e1 e2 e3
    refine ⟨g, cur, rfl, rfl, h4, h5, h2, (hlt g rfl).2, h3, ?_⟩
    refine holds_of_blockI h3 ?_
    simpa using h7
theorem sort_ints (g c : Nat) (L : List Int) (wr w : World) (B : Nat) (hH : Sort.Holds (Value.int .i64) wr g 0 L.toArray) (hgs : g < wr.heap.size) (hgB : B ≤ g) (hbel : Go.RowKit.Below B w wr) (hB : B ≤ wr.heap.size) (hl : L.length ≤ 1000) (hc : L.length ≤ c) (hc2 : c ≤ maxLen) :
    Calls Try.prog 41 #[.slice (some ⟨g, 0, none⟩) L.length c] wr fun e w' => e = .returned (.tuple #[]) ∧ CameI w' (.slice (some ⟨g, 0, none⟩) L.length c) (sortI L) ∧ Go.RowKit.Below B w w' := by
  refine (sh_slices_Sort_int g 0 c L wr hH hgs (by omega)).mono ?_
  rintro e w2 ⟨rfl, q, os, hw2⟩
  have hFl : (sortI L).length = L.length := List.length_mergeSort _
  refine ⟨rfl, ⟨_, c, by rw [hFl], by rw [hFl]; exact ⟨hc, hc2⟩, .inr ⟨g, 0, rfl, ?_⟩⟩, ?_⟩
  · have hH2 : Sort.Holds (Value.int .i64) w2 g 0 (sortI L).toArray := by
      rw [hw2]
      exact Sort.holds_grow _ _ os g 0 _ (by simpa [Sort.putRow, Sort.mapBlock, Sort.ahead] using hgs) (Sort.holds_putRow _ _ g 0 _ _ (Sort.holds_ahead _ wr q g 0 _ hH) (by simp))
    refine ⟨by rw [hw2]; simp [Sort.grow, Sort.putRow, Sort.mapBlock, Sort.ahead]; omega, fun j hj => ?_⟩
    have := (hH2 j (by simpa using hj)).1
    rw [this]
    simp [nth, List.getD_eq_getElem?_getD, hj]
  · rw [hw2]
    exact hbel.grown (grownBy_sortedI _) hB (fun j hj => by cases hj; exact hgB)
theorem sort_zero (p : Option Addr) (c : Nat) (w : World) : Calls Try.prog 41 #[.slice p 0 c] w fun e w' => e = .returned (.tuple #[]) ∧ w' = w := Any.slices_Sort_int_none sh_lays189 p c w
def LoopL (w : World) (b n N : Nat) (g : Int → Option Int) (D : DataW Unit) (lv : Value) (wr : World) (cnt : Nat) : Prop :=
  ∃ (left : Lit → Bool) (L : List Int), wr.ranges Try.prog 3 (plainElem (H := Unit) Try.prog 3) b N n D left cnt ∧ Grow wr (N + 1) lv L ∧ SoFarL g left L ∧ (∀ kl, left kl = true → Maps.has D kl = true) ∧ L.length + cnt ≤ n ∧ Go.RowKit.Below w.heap.size w wr ∧ N + 1 ≤ wr.heap.size
/-- What Lasts answers. -/
def LastIs (w' : World) (v : Value) (l : List Sl) : Prop := (slE l ≠ 0 → v = .slice none 0 0) ∧ (slE l = 0 → CameI w' v (lastsTo l l.length))
theorem LastIs.below {w w' : World} {v : Value} {l : List Sl} (h : LastIs w v l) (hb : Go.RowKit.Below w.heap.size w w') : LastIs w' v l := ⟨h.1, fun q => (h.2 q).below hb⟩
set_option maxRecDepth 100000 in
set_option maxHeartbeats 4000000 in
theorem Lasts_any (a : Option Addr) (n cap : Nat) (l : List Sl) (w : World) (hc : CameS w a l) (hn : l.length = n) :
    Calls Try.prog 22 #[.slice a n cap] w fun e w' => ∃ v er, e = .returned (.tuple #[v, .int .i64 er]) ∧ er = slE l ∧ LastIs w' v l ∧ Go.RowKit.Below w.heap.size w w' := by
  have HC := Lib.hid hc
  have HN := Lib.hid hn
  have hmm := @run_makeMap Try.prog
  clear hc hn
  go_enter Try.func22, Try.ntmps22
  go_wp2_with fail
  refine (Check_any a n cap l _ HC.out HN.out).mono ?_
  rintro e w1 ⟨rfl, hb1⟩
  have HB1 := Lib.hid hb1
  have hs1 := hb1.size
  clear hb1
  by_cases h0 : slE l = 0
  · have H0 := Lib.hid h0
    rw [h0]
    have HO := Lib.hid (fun h0 => (HC.out.below HB1.out).open HN.out h0)
    have hL : n ≤ 200 := by rw [← HN.out]; exact (slE_ok h0).1
    have HUP := Lib.hid (slE_ok h0).2.2
    clear h0
    have HBM := Lib.hid (HB1.out.alloc HB1.out.size (.map #[] 0))
    have HBM2 := Lib.hid ((Below.refl w1.heap.size w1).alloc (Nat.le_refl _) (.map #[] 0))
    go_wp2_with fail
    go_loopw [19] (fun i wr => ∃ k m : Nat, k ≤ n ∧ i = .int .i64 k ∧ MapL wr w1.heap.size m (lastN l k) ∧ m ≤ k ∧ Go.RowKit.Below w1.heap.size w1 wr) (fun i _ => n - (intOf i).toNat)
    case atStart => exact ⟨0, 0, Nat.zero_le _, rfl, MapL.made _, by omega, HBM2.out⟩
    case round =>
      clear HBM HBM2
      obtain ⟨k, m, hk, rfl, hsm, hm, hb⟩ := hrel
      have HS := Lib.hid hsm
      have HB := Lib.hid hb
      clear hsm hb
      by_cases hlt : k < n
      · have hlt' : (k : Int) < (n : Int) := by omega
        obtain ⟨b, off, rfl, hcell⟩ := HO.out (by omega)
        obtain ⟨⟨x0, x1, x2, x3⟩, ax, cx, x4, _⟩ := hcell wr HB.out k hlt
        have HST : Hid (lastN l (k + 1) = fun x => if (snth l k).gone = false ∧ (snth l k).per = x then some (snth l k).num else lastN l k x) := rfl
        have ok := slW_ok ((slE_ok H0.out).2.1 _ (snth_mem (l := l) (j := k) (by rw [HN.out]; exact hlt)))
        have hp1 : 1 ≤ (snth l k).per ∧ (snth l k).per ≤ 999 := of_decide_eq_true ok.2.1
        have hp2 : 1 ≤ (snth l k).num ∧ (snth l k).num ≤ 999 := of_decide_eq_true ok.1
        clear ok hcell
        obtain ⟨nu, hnu⟩ : ∃ z, (snth l k).num = z := ⟨_, rfl⟩
        obtain ⟨pe, hpe⟩ : ∃ z, (snth l k).per = z := ⟨_, rfl⟩
        obtain ⟨ru, hru⟩ : ∃ z, (snth l k).run = z := ⟨_, rfl⟩
        obtain ⟨go, hgo⟩ : ∃ z, (snth l k).gone = z := ⟨_, rfl⟩
        obtain ⟨tl, htl⟩ : ∃ z, (snth l k).tot.length = z := ⟨_, rfl⟩
        rw [hnu] at x0 HST hp2
        rw [hpe] at x1 HST hp1
        rw [hru] at x2
        rw [hgo] at x3 HST
        rw [htl] at x4
        clear hnu hpe hru hgo htl
        have HBX := Lib.hid (kbelow_box wr (.cells #[.int .i64 nu, .int .i64 pe, .int .i64 ru, .bool go, .slice ax tl cx] 44))
        have HB2 := Lib.hid (HB.out.trans (HBX.out.mono HB.out.size))
        have HS2 := Lib.hid (HS.out.below HBX.out)
        cases go
        · obtain ⟨D, hown, hD⟩ := HS2.out
          have HD := Lib.hid hD
          have hkey : keyOf Try.prog 3 (.int .i64 pe) = some (.int .i64 pe) := keyOf_int_mk Try.underlying3 (WalkArith.wf_i64 (by omega))
          clear hD
          go_wp2_with (first
            | (at_mapUpdate; refine wpList_mapUpdate_own _ rfl _ _ _ 65 rfl 3 3 intLaw Try.underlying65 (plainElem (H := Unit) Try.prog 3) w1.heap.size m _ rfl hown (by unfold maxLen; omega) _ _ _ rfl rfl hkey (.lit (.int .i64 nu)) [] (plainElem_int Try.underlying3 (WalkArith.wf_i64 (by omega))) ?_; intro w2 hown2 hgrow2))
          go_roundw
          case rel =>
            refine ⟨k + 1, m + 1, by omega, by go_num, ⟨_, hown2, ?_⟩, by omega, HB2.out.grown hgrow2 HB2.out.size (fun j hj => by cases hj; exact Nat.le_refl _)⟩
            rw [HST.out]
            simpa using mapL_put hown.isMap HD.out
          case measure => simp [intOf]; omega
        · have HN1 : Hid (lastN l (k + 1) = lastN l k) := by
            unfold Hid
            rw [HST.out]
            funext x
            simp
          go_wp2_with fail
          go_roundw
          case rel => exact ⟨k + 1, m, by omega, by go_num, by rw [HN1.out]; exact HS2.out, by omega, HB2.out⟩
          case measure => simp [intOf]; omega
      · have hkn : k = n := by omega
        subst hkn
        have hnl : decide ((k : Int) < (k : Int)) = false := decide_eq_false (by omega)
        have HG : Hid (lastN l k = lastN l l.length) := by unfold Hid; rw [HN.out]
        rw [HG.out] at HS
        obtain ⟨g, hg⟩ : ∃ g, lastN l l.length = g := ⟨_, rfl⟩
        have HINJ : Hid (∀ x y z, g x = some z → g y = some z → x = y) := fun x y z q1 q2 => by rw [← hg] at q1 q2; exact lastN_inj HUP.out q1 q2
        have HFIN : Hid (∀ L : List Int, SoFarL g (fun _ => false) L → sortI L = lastsTo l l.length) := fun L hL => sortI_is HUP.out hL.1 (fun z => by
          rw [hL.2 z, hg]
          constructor
          · rintro ⟨x, h1, _⟩; exact ⟨x, h1⟩
          · rintro ⟨x, h1⟩; exact ⟨x, h1, rfl⟩)
        rw [hg] at HS
        clear hg HG
        have hblt := HS.out.lt
        obtain ⟨D, hown, hD⟩ := HS.out
        have HD := Lib.hid hD
        have HSZ := Lib.hid (own_sizeL hown)
        have HBB := Lib.hid (HB1.out.trans (HB.out.mono HB1.out.size))
        clear hD
        go_wp2_with (first | (at_range; refine wpList_range_own _ rfl _ 65 rfl 3 3 intLaw Try.underlying65 _ w1.heap.size m D rfl hown ?_; intro w0 hrg0 hg0 hs0))
        go_frame
        have HR0 : Hid (LoopL w w1.heap.size m wr.heap.size g D (.slice none 0 0) w0 (Maps.size D)) := by
          refine ⟨_, [], hrg0, Grow.nil _ _, ⟨List.nodup_nil, fun z => ?_⟩, fun _ h => h, by simpa using HSZ.out, HBB.out.grown hg0 HBB.out.size (fun r hr => by cases hr), by omega⟩
          simp only [List.not_mem_nil, false_iff]
          rintro ⟨x, h1, h2⟩
          rw [(HD.out _).1, h1] at h2
          cases h2
        clear hrg0 hg0 hs0 hown
        obtain ⟨N0, hN0⟩ : ∃ N0, wr.heap.size = N0 := ⟨_, rfl⟩
        rw [hN0] at HR0 ⊢
        have hN1 : w1.heap.size < N0 := by rw [← hN0]; exact hblt
        have HNB : Hid (w.heap.size ≤ N0) := by unfold Hid; omega
        clear hN0 hblt HB HS HBB HSZ
        generalize wr = wq at *
        go_loopw [8] (fun lv wr => ∃ cnt, LoopL w w1.heap.size m N0 g D lv wr cnt) (fun _ wr => wr.rangeLeft w1.heap.size N0)
        case atStart => exact ⟨_, HR0.out⟩
        case round =>
          clear HR0
          obtain ⟨cnt, left, L, hrg, hgr, hso, hlh, hlen, hb, hsz⟩ := hrel
          obtain ⟨x9, c9, hlv⟩ : ∃ x9 c9, u8 = .slice x9 L.length c9 := by
            rcases hgr.2 with ⟨h1, h2⟩ | ⟨g9, c9, cur, h1, _⟩
            · exact ⟨none, 0, by rw [h1, h2]⟩
            · exact ⟨_, c9, h1⟩
          subst hlv
          generalize hm9 : L.length = m9 at hgr hlen ⊢
          have HG := Lib.hid hgr
          have HSO := Lib.hid hso
          have HL := Lib.hid hlh
          have HNN := Lib.hid hlen
          have HB := Lib.hid hb
          have HZ := Lib.hid hsz
          have HRG := Lib.hid hrg
          have HM9 := Lib.hid hm9
          have hm63 : m9 ≤ 9223372036854775807 := by omega
          clear hgr hso hlh hlen hb hsz hm9
          go_wp2_with (first | (at_next; refine wpList_next_ranges_ii _ rfl _ rfl 3 3 .i64 .i64 intLaw Try.underlying3 Try.underlying3 w1.heap.size N0 m D left cnt rfl hrg ?_ ?_))
          case refine_1 =>
            intro _ hl0
            have HDN : Hid (sortI L = lastsTo l l.length) := HFIN.out L (by
              have e : left = fun _ => false := funext hl0
              have := HSO.out
              rw [e] at this
              exact this)
            have HLE : Hid (m9 ≤ 200) := by unfold Hid; have := HNN.out; have := HM9.out; omega
            clear hl0 hrg
            by_cases hz : m9 = 0
            · subst hz
              have HL0 : Hid (L = []) := List.eq_nil_of_length_eq_zero HM9.out
              have HCM : Hid (CameI wr (.slice x9 0 c9) (lastsTo l l.length)) := by
                have := Grow.came HG.out
                unfold Hid
                rw [← HDN.out, HL0.out, show sortI [] = [] from by simp [sortI]]
                rw [HL0.out] at this
                exact this
              go_wp2_with (first | (go_at_call 41; refine (sort_zero _ _ _).mono ?_; rintro e w' ⟨rfl, h'⟩; subst w'))
              go_ret2
              exact ⟨_, _, rfl, H0.out.symm, ⟨fun q => absurd H0.out q, fun _ => HCM.out⟩, HB.out⟩
            · obtain ⟨g9, cur, rfl, _, hcc, hcm, hgB, hgs, _, hH⟩ := Grow.opn HG.out (by rw [HM9.out]; omega)
              have HH := Lib.hid hH
              have HCC : Hid (L.length ≤ c9 ∧ c9 ≤ maxLen) := ⟨hcc, hcm⟩
              have HGB := Lib.hid hgB
              have HGS := Lib.hid hgs
              clear hH hcc hcm hgB hgs hz
              rw [← HM9.out]
              go_wp2_with (first | (go_at_call 41; refine (sort_ints g9 c9 L _ w w.heap.size HH.out HGS.out (by have := HGB.out; have := HNB.out; omega) HB.out HB.out.size (by have := HLE.out; have := HM9.out; omega) HCC.out.1 HCC.out.2).mono ?_; rintro e w2 ⟨rfl, hcm2, hb2⟩))
              go_ret2
              exact ⟨_, _, rfl, H0.out.symm, ⟨fun q => absurd H0.out q, fun _ => by rw [← HDN.out]; exact hcm2⟩, hb2⟩
          case refine_2 =>
            intro x c w2 cnt1 hwx hwc hlx hat hrg1 hlt hg1 hs1 hen
            clear hrg
            have HGK : Hid (g x = some c) := by
              unfold Hid
              have e1 := (HD.out x).1
              have e2 := (HD.out x).2
              rw [HL.out _ hlx] at e1
              rw [hat] at e2
              cases hgk : g x with
              | none => rw [hgk] at e1; cases e1
              | some v =>
                rw [hgk] at e2
                injection e2 with e2
                injection e2 with _ e2
                rw [e2]
                rfl
            have HLX := Lib.hid hlx
            have HRG1 := Lib.hid hrg1
            have HG1 : Hid (Grow w2 (N0 + 1) (.slice x9 m9 c9) L) := Grow.grown HG.out hg1 (by omega)
            have HB1' := Lib.hid (HB.out.grown hg1 HB.out.size (fun r hr => by cases hr; exact HNB.out))
            have HZ1 : Hid (N0 + 1 ≤ w2.heap.size) := Lib.hid (by rw [hs1]; exact HZ.out)
            have HS2 := Lib.hid (HSO.out.take HINJ.out HLX.out HGK.out)
            clear hwx hwc hlx hrg1 hg1 hs1 hat
            have HG2 := Lib.hid (Grow.alloc HG1.out (.cells #[.int .i64 c] 3))
            have HB2 := Lib.hid (HB1'.out.alloc HB1'.out.size (.cells #[.int .i64 c] 3))
            have HRG2 := Lib.hid (HRG1.out.alloc (.cells #[.int .i64 c] 3))
            have HLT := Lib.hid (Grow.lt HG2.out)
            have hbb : N0 + 1 ≤ (w2.alloc (.cells #[.int .i64 c] 3)).heap.size := by have := HZ1.out; simp; omega
            have HBB := Lib.hid hbb
            clear hbb
            go_wp2_with (first
              | (at_builtin; refine wpList_app _ rfl _ _ rfl (N0 + 1) (.slice x9 m9 c9) L rfl HG2.out ⟨w2.heap.size, 0, none⟩ 1 c rfl (by simp) (by have := HM9.out; have := HNN.out; omega) HBB.out ?_; intro v' w3 hgr2 hgrow2 hob2 _))
            have HRG3 := Lib.hid (HRG2.out.kept hgrow2 (fun e => by have := (HLT.out _ e.symm).1; omega) (fun e => by have := (HLT.out _ e.symm).1; omega))
            go_roundw
            case rel =>
              refine ⟨cnt1, _, _, HRG3.out, hgr2, HS2.out, fun kl h => ?_, by rw [List.length_append]; have := HNN.out; have := HM9.out; simp; omega, HB2.out.grown hgrow2 HB2.out.size (fun j hj => by have := (HLT.out j hj).1; have := HNB.out; omega), Nat.le_trans HBB.out hgrow2.size⟩
              simp only [Bool.and_eq_true] at h
              exact HL.out kl h.1
            case measure => rw [HRG3.out.left_eq, HRG.out.left_eq]; omega
  · have H0 := Lib.hid h0
    have h0' : (slE l != 0) = true := by simp [h0]
    obtain ⟨cc, hcc⟩ : ∃ c, slE l = c := ⟨_, rfl⟩
    rw [hcc] at h0' ⊢
    have HCC := Lib.hid hcc
    clear h0 hcc
    go_wp2_with fail
    go_ret2
    exact ⟨_, _, rfl, HCC.out.symm, ⟨fun _ => rfl, fun q => absurd q H0.out⟩, HB1.out⟩
end Go.Proofs.Ytiedlmhahdnhaaa
