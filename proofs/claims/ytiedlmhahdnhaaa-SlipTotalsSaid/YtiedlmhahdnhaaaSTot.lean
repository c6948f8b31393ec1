/-
  Promise R2: the walks of slip's sums and Totals.
-/
import Derived.Test.YtiedlmhahdnhaaaSRun
import Derived.Test.YtiedlmhahdnhaaaSMap
namespace Go.Proofs.Ytiedlmhahdnhaaa
open Go.RowKit Go.Sort Go.Maps Go.WideMaps

/-- All amounts of somebody's slips that stand. -/
def amsOf (l : List Sl) (p : Int) : List Am := (l.filter (mt p)).flatMap Sl.tot
theorem amsOf_step {l : List Sl} {p : Int} {k : Nat} (h : k < l.length) : amsOf (l.take (k + 1)) p = amsOf (l.take k) p ++ (if mt p (snth l k) = true then (snth l k).tot else []) := by
  unfold amsOf
  rw [stake_snoc h, List.filter_append, List.flatMap_append]
  congr 1
  by_cases e : mt p (snth l k) = true
  · rw [if_pos e]; simp [e]
  · rw [if_neg e]; simp [e]
theorem amsOf_mem {l : List Sl} {p : Int} {a : Am} (h : a ∈ amsOf l p) : ∃ r ∈ l, a ∈ r.tot := by
  unfold amsOf at h
  obtain ⟨r, hr, ha⟩ := List.mem_flatMap.1 h
  exact ⟨r, (List.mem_filter.1 hr).1, ha⟩
theorem amsOf_len {p : Int} : ∀ {l : List Sl}, (∀ r ∈ l, r.tot.length ≤ 30) → (amsOf l p).length ≤ 30 * l.length
  | [], _ => by simp [amsOf]
  | r :: l, h => by
    have ih := amsOf_len (p := p) (l := l) fun x hx => h x (by simp [hx])
    have hr := h r (by simp)
    unfold amsOf at *
    rw [List.filter_cons]
    split
    · rw [List.flatMap_cons, List.length_append, List.length_cons]; omega
    · rw [List.length_cons]; omega
theorem asB_mon {a : Am} (h : asB a = true) : monB a.mon = true := by
  unfold asB someB at h
  simp at h
  exact h.2
theorem asB_bd {r : Am} (h : asB r = true) : -1000000000000 ≤ r.mon ∧ r.mon ≤ 1000000000000 ∧ r.mon ≠ 0 := by
  unfold asB someB at h
  simp at h
  have := of_decide_eq_true h.2
  exact ⟨this.1, this.2, h.1⟩
theorem slOk_ams {l : List Sl} (h : slE l = 0) {p : Int} {a : Am} (ha : a ∈ amsOf l p) : monB a.mon = true ∧ a.name.size ≤ maxLen := by
  obtain ⟨r, hr, ha⟩ := amsOf_mem ha
  have ok := slW_ok ((slE_ok h).2.1 r hr)
  refine ⟨asB_mon (List.all_eq_true.1 ok.2.2.2.2.2.1 a ha), ?_⟩
  have := of_decide_eq_true (List.all_eq_true.1 ok.2.2.2.2.1 a ha)
  have h2 := this.2.1
  unfold maxLen
  omega
set_option maxRecDepth 100000 in
set_option maxHeartbeats 4000000 in
theorem sums_any (a : Option Addr) (n cap : Nat) (l : List Sl) (p : Int) (w : World) (hc : CameS w a l) (hn : l.length = n) (h0 : slE l = 0) :
    Calls Try.prog 31 #[.slice a n cap, .int .i64 p] w fun e w' => ∃ m, e = .returned (.map (some w.heap.size)) ∧ SumS w' w.heap.size m (sumsS (amsOf l p)) ∧ m ≤ 6000 ∧ Go.RowKit.Below w.heap.size w w' := by
  have HO := Lib.hid (fun h0 => hc.open hn h0)
  have HN := Lib.hid hn
  have H0 := Lib.hid h0
  have hL : n ≤ 200 := by rw [← hn]; exact (slE_ok h0).1
  have hmm := @run_makeMap Try.prog
  clear hc hn h0
  go_enter Try.func31, Try.ntmps31
  go_wp2_with fail
  go_loopw [13] (fun i wr => ∃ k m : Nat, k ≤ n ∧ i = .int .i64 k ∧ SumS wr w.heap.size m (sumsS (amsOf (l.take k) p)) ∧ m ≤ 30 * k ∧ Go.RowKit.Below w.heap.size w wr) (fun i _ => n - (intOf i).toNat)
  case atStart => exact ⟨0, 0, Nat.zero_le _, rfl, SumS.made _, by omega, (Below.refl _ _).alloc (Nat.le_refl _) _⟩
  case round =>
    obtain ⟨k, m, hk, rfl, hsm, hm, hb⟩ := hrel
    have HS := Lib.hid hsm
    have HM := Lib.hid hm
    have HB := Lib.hid hb
    clear hsm hm hb
    by_cases hlt : k < n
    · have hlt' : (k : Int) < (n : Int) := by omega
      obtain ⟨b, off, rfl, hcell⟩ := HO.out (by omega)
      obtain ⟨hh, ax, cx, x4w, hp⟩ := hcell w (Below.refl _ _) k hlt
      have hblt := oblt_of_cell hh.1
      obtain ⟨x0, x1, x2, x3⟩ := hh.below HB.out hblt
      have x4 := (HB.out.cell (p := ⟨b, off + k * 5 + 4, none⟩) hblt).trans x4w
      have HP := Lib.hid hp
      clear hh hblt x4w
      have HST := Lib.hid (amsOf_step (l := l) (p := p) (k := k) (by rw [HN.out]; exact hlt))
      have HMT : Hid (mt p (snth l k) = (((snth l k).per == p) && !(snth l k).gone)) := rfl
      have HBX := Lib.hid (kbelow_box wr (.cells #[.int .i64 (snth l k).num, .int .i64 (snth l k).per, .int .i64 (snth l k).run, .bool (snth l k).gone, .slice ax (snth l k).tot.length cx] 44))
      have HTL := Lib.hid (slE_tot H0.out k (by rw [HN.out]; exact hlt))
      have HWF : Hid (∀ j, j < (snth l k).tot.length → asB (anth (snth l k).tot j) = true ∧ (anth (snth l k).tot j).name.size ≤ maxLen) := Lib.hid (fun j hj => by
        have ok := slW_ok ((slE_ok H0.out).2.1 _ (snth_mem (l := l) (j := k) (by rw [HN.out]; exact hlt)))
        refine ⟨all_nth (P := asB) ok.2.2.2.2.2.1 hj, ?_⟩
        have h2 := (of_decide_eq_true (all_nth (P := anB) ok.2.2.2.2.1 hj) : NameP _).2.1
        unfold maxLen
        omega)
      have HPL : Hid ((amsOf (l.take k) p).length ≤ 6000 ∧ ∀ r ∈ amsOf (l.take k) p, monB r.mon = true) := Lib.hid (by
        refine ⟨Nat.le_trans (amsOf_len (fun r hr => ?_)) ?_, fun r hr => ?_⟩
        · obtain ⟨j, hj, e⟩ := mem_snth (List.mem_of_mem_take hr)
          rw [← e]
          exact slE_tot H0.out j hj
        · rw [List.length_take]; omega
        · obtain ⟨q, hq, ha⟩ := amsOf_mem hr
          have ok := slW_ok ((slE_ok H0.out).2.1 q (List.mem_of_mem_take hq))
          exact asB_mon (List.all_eq_true.1 ok.2.2.2.2.2.1 r ha))
      clear hcell hp
      obtain ⟨tl, htl⟩ : ∃ tl, (snth l k).tot = tl := ⟨_, rfl⟩
      rw [htl] at x4 HP HST HBX HTL HWF
      clear htl
      obtain ⟨nt, hnt⟩ : ∃ nt, tl.length = nt := ⟨_, rfl⟩
      rw [hnt] at x4 HTL HBX HWF
      have HNT := Lib.hid hnt
      clear hnt
      obtain ⟨pre, hpre⟩ : ∃ pre, amsOf (l.take k) p = pre := ⟨_, rfl⟩
      rw [hpre] at HS HST HPL
      clear hpre
      cases hper : ((snth l k).per == p)
      · have hper' : ((snth l k).per != p) = true := by simpa [bne] using hper
        have HN1 : Hid (amsOf (l.take (k + 1)) p = pre) := by
          unfold Hid
          rw [HST.out, HMT.out, hper]
          simp
        clear HST HMT hper
        go_wp2_with fail
        go_roundw
        case rel => exact ⟨k + 1, m, by omega, by go_num, by rw [HN1.out]; exact HS.out.below HBX.out, by have := HM.out; omega, HB.out.trans (HBX.out.mono HB.out.size)⟩
        case measure => simp [intOf]; omega
      · have hper' : ((snth l k).per != p) = false := by simpa [bne] using hper
        cases hgo : (snth l k).gone
        · have HN1 : Hid (amsOf (l.take (k + 1)) p = pre ++ tl) := by
            unfold Hid
            rw [HST.out, HMT.out, hper, hgo]
            simp
          rw [hgo] at x3 HBX
          have HS2 := Lib.hid (HS.out.below HBX.out)
          have HB2 := Lib.hid (HB.out.trans (HBX.out.mono HB.out.size))
          have hnt63 : nt ≤ 9223372036854775807 := by have := HTL.out; omega
          clear HST HMT hper hgo HS
          go_wp2_with fail
          obtain ⟨W2, hW2⟩ : ∃ W2, wr.alloc (.cells #[.int .i64 (snth l k).num, .int .i64 (snth l k).per, .int .i64 (snth l k).run, .bool false, .slice ax nt cx] 44) = W2 := ⟨_, rfl⟩
          rw [hW2] at HS2 HB2
          rw [hW2]
          clear hW2 HBX x0 x1 x2 x3 x4
          generalize wr = wq at *
          go_loopw [28] (fun i wv => ∃ j mm : Nat, j ≤ nt ∧ i = .int .i64 j ∧ SumS wv w.heap.size mm (sumsS (pre ++ tl.take j)) ∧ mm ≤ m + j ∧ Go.RowKit.Below w.heap.size w wv) (fun i _ => nt - (intOf i).toNat)
          case atStart => exact ⟨0, m, Nat.zero_le _, rfl, by simpa using HS2.out, by omega, HB2.out⟩
          case round =>
            clear HS2 HB2
            obtain ⟨j, mm, hj, rfl, hsm, hmm2, hb⟩ := hrel
            have HS := Lib.hid hsm
            have HM2 := Lib.hid hmm2
            have HB := Lib.hid hb
            clear hsm hmm2 hb
            by_cases hjt : j < nt
            · have hjt' : (j : Int) < (nt : Int) := by omega
              obtain ⟨b2, o2, rfl, hcell⟩ := HP.out.1.open HNT.out (by omega)
              obtain ⟨y0, y1⟩ := hcell _ HB.out j hjt
              clear hcell
              obtain ⟨hok, hfit⟩ := HWF.out j hjt
              have HOK := Lib.hid hok
              have HTS : Hid (pre ++ tl.take (j + 1) = (pre ++ tl.take j) ++ [anth tl j]) := Lib.hid (by
                rw [List.take_add_one, List.getElem?_eq_getElem (by rw [HNT.out]; exact hjt), List.append_assoc]
                congr 2
                simp [anth, List.getD_eq_getElem?_getD, show j < tl.length by rw [HNT.out]; exact hjt])
              have HSN := Lib.hid (sumsS_snoc (pre ++ tl.take j) (anth tl j))
              rw [← HTS.out] at HSN
              have HSE : Hid (stepS (sumsS (pre ++ tl.take j)) (anth tl j) = putS (sumsS (pre ++ tl.take j)) (anth tl j).name ((sumsS (pre ++ tl.take j) (anth tl j).name).getD 0 + (anth tl j).mon)) := rfl
              have HBD := Lib.hid (sumN_bd (s := (anth tl j).name) (l := pre ++ tl.take j) (fun r hr => by
                rcases List.mem_append.1 hr with h | h
                · exact HPL.out.2 r h
                · obtain ⟨i, hi, rfl⟩ := List.mem_iff_getElem.1 (List.mem_of_mem_take h)
                  have := asB_mon (HWF.out i (by rw [HNT.out] at hi; exact hi)).1
                  simpa [anth, List.getD_eq_getElem?_getD, hi] using this))
              have HLN : Hid ((pre ++ tl.take j).length ≤ 6030) := Lib.hid (by
                rw [List.length_append, List.length_take]
                have := HPL.out.1
                have := HTL.out
                omega)
              rw [← sumsS_getD] at HBD
              obtain ⟨gs, hgs⟩ : ∃ g, sumsS (pre ++ tl.take j) = g := ⟨_, rfl⟩
              rw [hgs] at HS HBD HSN HSE
              clear hgs HTS
              obtain ⟨t, ht⟩ : ∃ t, anth tl j = t := ⟨_, rfl⟩
              rw [ht] at y0 y1 HBD HSN HSE HOK hfit
              clear ht hok
              obtain ⟨cs, hcs⟩ : ∃ c, (gs t.name).getD 0 = c := ⟨_, rfl⟩
              rw [hcs] at HBD HSE
              have hbd := asB_bd HOK.out
              have hsmall : -9000000000000000 ≤ cs + t.mon ∧ cs + t.mon ≤ 9000000000000000 := by
                have h1 := HBD.out
                have h2 := HLN.out
                omega
              have hwrap : IntKind.i64.wrap (cs + t.mon) = cs + t.mon := IntWalk.i64_in _ (by omega)
              have HBY := Lib.hid (kbelow_box wr (.cells #[.string t.name, .int .i64 t.mon] 52))
              have hlook := (HS.out.below HBY.out).look t.name hfit
              rw [hcs] at hlook
              obtain ⟨D, hown, hD⟩ := HS.out.below HBY.out
              have HD := Lib.hid hD
              have hkey := key_of hfit
              have HBW := Lib.hid (HB.out.trans (HBY.out.mono HB.out.size))
              have hroom : mm < maxLen := by have := HM2.out; have := HM.out; have := HTL.out; unfold maxLen; omega
              clear hD hcs hbd HS
              go_wp2_with (first
                | (at_mapUpdate; refine wpList_mapUpdate_own _ rfl _ _ _ 55 rfl 9 3 strLaw Try.underlying55 (plainElem (H := Unit) Try.prog 3) w.heap.size mm _ rfl hown hroom _ _ _ rfl rfl hkey (.lit (.int .i64 (cs + t.mon))) [] (plainElem_int Try.underlying3 (WalkArith.wf_i64 (by omega))) ?_; intro w2 hown2 hgrow2))
              go_roundw
              case rel => exact ⟨j + 1, mm + 1, by omega, by go_num, ⟨_, hown2, by rw [HSN.out, HSE.out]; exact sum_put hown.isMap HD.out⟩, by have := HM2.out; omega, HBW.out.grown hgrow2 HBW.out.size (fun r hr => by cases hr; exact Nat.le_refl _)⟩
              case measure => simp [intOf]; omega
            · have hjn : j = nt := by omega
              subst hjn
              have HTK : Hid (pre ++ tl.take j = pre ++ tl) := Lib.hid (by rw [← HNT.out, List.take_length])
              rw [HTK.out] at HS
              go_wp2_with fail
              go_roundw
              case rel => exact ⟨k + 1, mm, by omega, by go_num, by rw [HN1.out]; exact HS.out, by have := HM.out; have := HM2.out; have := HTL.out; omega, HB.out⟩
              case measure => simp [intOf]; omega
        · have HN1 : Hid (amsOf (l.take (k + 1)) p = pre) := by
            unfold Hid
            rw [HST.out, HMT.out, hper, hgo]
            simp
          rw [hgo] at x3 HBX
          clear HST HMT hper hgo
          go_wp2_with fail
          go_roundw
          case rel => exact ⟨k + 1, m, by omega, by go_num, by rw [HN1.out]; exact HS.out.below HBX.out, by have := HM.out; omega, HB.out.trans (HBX.out.mono HB.out.size)⟩
          case measure => simp [intOf]; omega
    · have hkn : k = n := by omega
      subst hkn
      have HTK : Hid (l.take k = l) := Lib.hid (by rw [← HN.out, List.take_length])
      rw [HTK.out] at HS
      go_wp2_with fail
      go_ret
      exact ⟨m, rfl, HS.out, by have := HM.out; omega, HB.out⟩
/-- Is an amount money? -/
def amB (r : Am) : Bool := monB r.mon
def amsB (l : List Am) : Bool := l.all amB
set_option maxHeartbeats 1000000 in
theorem notMon_any (s : ByteArray) (m : Int) (w : World) :
    Calls Try.prog 33 #[.agg #[.string s, .int .i64 m]] w fun e w' => e = .returned (.bool (!amB ⟨s, m⟩)) ∧ Below w.heap.size w w' := by
  have HB0 := Lib.hid (kbelow_box w (.cells #[.string s, .int .i64 m] 52))
  go_enter Try.func33, Try.ntmps33
  go_wp2_with fail
  refine (isMoney_any _ _).mono ?_
  rintro e w1 ⟨rfl, h'⟩
  subst w1
  go_wp2_with fail
  go_ret
  exact ⟨rfl, HB0.out⟩
set_option maxRecDepth 100000 in
set_option maxHeartbeats 1000000 in
theorem indexMoney (a : Option Addr) (n cap : Nat) (l : List Am) (w : World) (hc : CameA w a l) (hn : l.length = n) (hm : n ≤ maxLen) :
    Calls Try.prog 54 #[.slice a n cap, .func (.func 33) #[] #[]] w fun e w' => ∃ i : Int, e = .returned (.int .i64 i) ∧ -1 ≤ i ∧ (i = -1 ↔ amsB l = true) ∧ Below w.heap.size w w' := by
  have hm' : n ≤ 9223372036854775807 := by unfold maxLen at hm; omega
  have HO := Lib.hid (fun h0 => hc.open hn h0)
  clear hm hc
  go_enter Try.func54, Try.ntmps54
  go_wp2_with fail
  go_loopw [8] (fun i wr => ∃ k : Nat, k ≤ n ∧ i = .int .i64 k ∧ (∀ j, j < k → amB (anth l j) = true) ∧ Below w.heap.size w wr) (fun i _ => n - (intOf i).toNat)
  case atStart => exact ⟨0, Nat.zero_le _, rfl, fun j hj => by omega, Below.refl _ _⟩
  case round =>
    obtain ⟨k, hk, rfl, hall, hb⟩ := hrel
    have HA := Lib.hid hall
    have HB := Lib.hid hb
    clear hall hb
    by_cases hlt : k < n
    · have hlt' : (k : Int) < (n : Int) := by omega
      obtain ⟨b, off, rfl, hcell⟩ := HO.out (by omega)
      obtain ⟨x0, x1⟩ := hcell wr HB.out k hlt
      clear hcell
      cases hr : amB (anth l k)
      · have HE : Hid (amsB l = false) := Lib.hid (all_not (l := l) (j := k) (by omega) hr)
        go_wp2_with fail
        refine (notMon_any _ _ _).mono ?_
        rintro e w1 ⟨rfl, hb1⟩
        have HB1 := Lib.hid (HB.out.trans (hb1.mono HB.out.size))
        have hr' : amB ⟨(anth l k).name, (anth l k).mon⟩ = false := hr
        rw [hr']
        clear hb1 x0 x1
        go_wp2_with fail
        go_ret
        exact ⟨k, rfl, by omega, ⟨fun h => by omega, fun h => by rw [HE.out] at h; cases h⟩, HB1.out⟩
      · go_wp2_with fail
        refine (notMon_any _ _ _).mono ?_
        rintro e w1 ⟨rfl, hb1⟩
        have HB1 := Lib.hid (HB.out.trans (hb1.mono HB.out.size))
        have hr' : amB ⟨(anth l k).name, (anth l k).mon⟩ = true := hr
        rw [hr']
        clear hb1 x0 x1
        go_wp2_with fail
        go_roundw
        case rel =>
          refine ⟨k + 1, by omega, by go_num, ?_, HB1.out⟩
          intro j hj
          by_cases e : j = k
          · subst e; exact hr
          · exact HA.out j (by omega)
        case measure => simp [intOf]; omega
    · have hkn : k = n := by omega
      subst hkn
      have HL : Hid (amsB l = true) := Lib.hid (all_of (l := l) (fun j hj => HA.out j (by omega)))
      go_wp2_with fail
      go_ret
      exact ⟨-1, rfl, by omega, ⟨fun _ => HL.out, fun _ => rfl⟩, HB.out⟩
set_option maxHeartbeats 1000000 in
theorem containsMoney (a : Option Addr) (n cap : Nat) (l : List Am) (w : World) (hc : CameA w a l) (hn : l.length = n) (hm : n ≤ maxLen) :
    Calls Try.prog 32 #[.slice a n cap, .func (.func 33) #[] #[]] w fun e w' => e = .returned (.bool (!amsB l)) ∧ Below w.heap.size w w' := by
  have HC := Lib.hid hc
  have HM := Lib.hid hm
  clear hc hm
  go_enter Try.func32, Try.ntmps32
  go_wp2_with fail
  refine (indexMoney a n cap l _ HC.out hn HM.out).mono ?_
  rintro e w1 ⟨i, rfl, hi, hall, hb⟩
  have HB := Lib.hid hb
  clear hb
  have HR : Hid ((!amsB l) = decide (0 ≤ i)) := by
    unfold Hid
    cases h : amsB l
    · rw [h] at hall
      have : i ≠ -1 := fun e => by have := hall.1 e; cases this
      simp; omega
    · obtain rfl := hall.2 h
      simp
  clear hall
  go_wp2_with fail
  go_ret
  exact ⟨kret_bool (by rw [HR.out]), HB.out⟩
/-- What Totals answers. -/
def TotRet (w' : World) (v : Value) (er : Int) (l : List Sl) (p : Int) : Prop :=
  (slE l ≠ 0 ∧ er = slE l ∧ v = .slice none 0 0) ∨ (slE l = 0 ∧ perB p = false ∧ er = 3 ∧ v = .slice none 0 0) ∨
  (slE l = 0 ∧ perB p = true ∧ ∃ am, AmsOf (sumsS (amsOf l p)) am ∧ am.length ≤ 6000 ∧ ((amsB am = false ∧ er = 3 ∧ v = .slice none 0 0) ∨ (amsB am = true ∧ er = 0 ∧ AmsIn w' v am)))
theorem TotRet.below {w w' : World} {v : Value} {er : Int} {l : List Sl} {p : Int} (h : TotRet w v er l p) (hb : Go.RowKit.Below w.heap.size w w') : TotRet w' v er l p := by
  rcases h with h | h | ⟨h1, h2, am, h3, h4, h5⟩
  · exact .inl h
  · exact .inr (.inl h)
  · refine .inr (.inr ⟨h1, h2, am, h3, h4, ?_⟩)
    rcases h5 with h5 | ⟨h5, h6, h7⟩
    · exact .inl h5
    · exact .inr ⟨h5, h6, h7.below hb⟩
set_option maxRecDepth 100000 in
set_option maxHeartbeats 2000000 in
theorem Totals_any (a : Option Addr) (n cap : Nat) (l : List Sl) (p : Int) (w : World) (hc : CameS w a l) (hn : l.length = n) :
    Calls Try.prog 13 #[.slice a n cap, .int .i64 p] w fun e w' => ∃ v er, e = .returned (.tuple #[v, .int .i64 er]) ∧ TotRet w' v er l p ∧ Go.RowKit.Below w.heap.size w w' := by
  have HC := Lib.hid hc
  have HN := Lib.hid hn
  clear hc hn
  go_enter Try.func13, Try.ntmps13
  go_wp2_with fail
  refine (Check_any a n cap l _ HC.out HN.out).mono ?_
  rintro e w1 ⟨rfl, hb1⟩
  have HB1 := Lib.hid hb1
  clear hb1
  by_cases h0 : slE l = 0
  · have H0 := Lib.hid h0
    rw [h0]
    clear h0
    cases hp : perB p
    · have HP := Lib.hid hp
      go_wp2_with (first | (go_at_call 29; refine (isNumber_any _ _).mono ?_; rintro e w' ⟨rfl, h'⟩; subst w'; rw [hp]))
      go_ret2
      exact ⟨_, _, rfl, .inr (.inl ⟨H0.out, HP.out, rfl, rfl⟩), HB1.out⟩
    · have HP := Lib.hid hp
      go_wp2_with (first | (go_at_call 29; refine (isNumber_any _ _).mono ?_; rintro e w' ⟨rfl, h'⟩; subst w'; rw [hp]))
      refine (sums_any a n cap l p _ (HC.out.below HB1.out) HN.out H0.out).mono ?_
      rintro e w2 ⟨m, rfl, hsm, hm, hb2⟩
      have HS := Lib.hid hsm
      have HM := Lib.hid hm
      have HB2 := Lib.hid (HB1.out.trans (hb2.mono HB1.out.size))
      clear hsm hm hb2
      go_wp2_with fail
      refine (Amounts_any _ m _ _ HS.out (by have := HM.out; omega)).mono ?_
      rintro e w3 ⟨am, v, rfl, ham, hlen, hin, hb3⟩
      obtain ⟨x, c, rfl, hcm⟩ := hin
      have HAM := Lib.hid ham
      have HLE : Hid (am.length ≤ 6000) := Lib.hid (by have := HM.out; omega)
      have HCM := Lib.hid hcm
      have HB3 := Lib.hid (HB2.out.trans (hb3.mono HB2.out.size))
      clear ham hlen hcm hb3
      go_wp2_with fail
      refine (containsMoney x am.length c am _ HCM.out rfl (by have := HLE.out; unfold maxLen; omega)).mono ?_
      rintro e w4 ⟨rfl, hb4⟩
      have HB4 := Lib.hid (HB3.out.trans (hb4.mono HB3.out.size))
      have HC4 := Lib.hid (HCM.out.below hb4)
      clear hb4
      cases hmo : amsB am
      · have HMO := Lib.hid hmo
        clear hmo
        go_wp2_with fail
        go_ret2
        exact ⟨_, _, rfl, .inr (.inr ⟨H0.out, HP.out, am, HAM.out, HLE.out, .inl ⟨HMO.out, rfl, rfl⟩⟩), HB4.out⟩
      · have HMO := Lib.hid hmo
        clear hmo
        go_wp2_with fail
        go_ret2
        exact ⟨_, _, rfl, .inr (.inr ⟨H0.out, HP.out, am, HAM.out, HLE.out, .inr ⟨HMO.out, rfl, _, _, rfl, HC4.out⟩⟩), HB4.out⟩
  · have H0 := Lib.hid h0
    have h0' : (slE l != 0) = true := by simp [h0]
    obtain ⟨cc, hcc⟩ : ∃ c, slE l = c := ⟨_, rfl⟩
    rw [hcc] at h0' ⊢
    have HCC := Lib.hid hcc
    clear h0 hcc
    go_wp2_with fail
    go_ret2
    exact ⟨_, _, rfl, .inl ⟨H0.out, HCC.out.symm, rfl⟩, HB1.out⟩
end Go.Proofs.Ytiedlmhahdnhaaa
