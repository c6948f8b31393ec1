/-
  Promise R2: the walk of the reference's SlipTotals.
-/
import Derived.Test.YtiedlmhahdnhaaaSIns
import Derived.Test.YtiedlmhahdnhaaaSTot
namespace Go.Proofs.Ytiedlmhahdnhaaa
open Go.RowKit Go.Sort

/-- So far: the list that is made, where it lies. -/
def OutA (w wr : World) (v : Value) (F L : List Am) : Prop := ∃ x c, v = .slice x F.length c ∧ OwnA wr w.heap.size x c F ∧ InvA F L ∧ F.length ≤ L.length ∧ Go.RowKit.Below w.heap.size w wr
theorem OutA.below {w wr wq : World} {v : Value} {F L : List Am} (h : OutA w wr v F L) (hb : Go.RowKit.Below wr.heap.size wr wq) : OutA w wq v F L := by
  obtain ⟨x, c, h1, h2, h3, h4, h5⟩ := h
  exact ⟨x, c, h1, h2.below hb, h3, h4, h5.trans (hb.mono h5.size)⟩
theorem OutA.drew {w wr : World} {v : Value} {F L : List Am} (h : OutA w wr v F L) : OutA w wr.drew v F L := h.below ((Below.refl _ _).drew)
theorem afilter_step {F : List Am} {k : Nat} (hk : k < F.length) : (F.take (k + 1)).filter (fun x => !(x.mon == 0)) = (F.take k).filter (fun x => !(x.mon == 0)) ++ (if (anth F k).mon == 0 then [] else [anth F k]) := by
  rw [List.take_add_one, List.filter_append]
  congr 1
  rw [List.getElem?_eq_getElem hk, ← anth_get hk]
  cases h : ((anth F k).mon == 0) <;> simp [List.filter, h]
theorem afilter_len {F : List Am} {k : Nat} : ((F.take k).filter (fun x => !(x.mon == 0))).length ≤ F.length := Nat.le_trans (List.length_filter_le _ _) (by rw [List.length_take]; omega)
theorem amsB_no {F : List Am} {t : Am} (ht : t ∈ F) (hm : monB t.mon = false) : amsB (F.filter fun x => !(x.mon == 0)) = false := by
  rw [Bool.eq_false_iff]
  intro e
  have hz : t.mon ≠ 0 := fun q => by rw [q] at hm; exact absurd hm (by decide)
  have := List.all_eq_true.1 e t (List.mem_filter.2 ⟨ht, by simpa using hz⟩)
  unfold amB at this
  rw [hm] at this
  cases this
theorem amsB_yes {F : List Am} (h : ∀ t ∈ F, monB t.mon = true) : amsB (F.filter fun x => !(x.mon == 0)) = true := List.all_eq_true.2 fun t ht => h t (List.mem_filter.1 ht).1
theorem atakeS {l : List Am} {k : Nat} (h : k < l.length) : l.take (k + 1) = l.take k ++ [anth l k] := by
  rw [List.take_add_one]
  simp [anth, List.getD_eq_getElem?_getD, h]
set_option maxRecDepth 100000 in
set_option maxHeartbeats 8000000 in
theorem slipTotals_ref (a : Option Addr) (n cap : Nat) (l : List Sl) (p : Int) (w : World) (hc : CameS w a l) (hn : l.length = n) (h0 : slE l = 0) :
    Calls Try.prog 15 #[.slice a n cap, .int .i64 p] w fun e w' => ∃ (v : Value) (ok : Bool) (am : List Am), e = .returned (.tuple #[v, .bool ok]) ∧ AmsOf (sumsS (amsOf l p)) am ∧ am.length ≤ 6000 ∧ ((amsB am = false ∧ ok = false ∧ v = .slice none 0 0) ∨ (amsB am = true ∧ ok = true ∧ AmsIn w' v am)) ∧ Go.RowKit.Below w.heap.size w w' := by
  have HO := Lib.hid (fun h0 => hc.open hn h0)
  have HN := Lib.hid hn
  have H0 := Lib.hid h0
  have hL : n ≤ 200 := by rw [← hn]; exact (slE_ok h0).1
  have HALL : Hid (∀ x ∈ amsOf l p, monB x.mon = true ∧ x.name.size ≤ maxLen) := fun x hx => slOk_ams h0 hx
  have HPB : Hid (∀ i, i ≤ n → (amsOf (l.take i) p).length ≤ 30 * i) := fun i hi => by
    have := amsOf_len (p := p) (l := l.take i) (fun r hr => by
      obtain ⟨j, hj, e⟩ := mem_snth (List.mem_of_mem_take hr)
      rw [← e]
      exact slE_tot h0 j hj)
    rw [List.length_take] at this
    omega
  clear hc hn h0
  go_enter Try.func15, Try.ntmps15
  go_wp2_with fail
  go_loopw [6, 7] (fun ov iv wr => ∃ (i : Nat) (F : List Am), i ≤ n ∧ iv = .int .i64 i ∧ OutA w wr ov F (amsOf (l.take i) p)) (fun _ iv _ => n - (intOf iv).toNat)
  case atStart => exact ⟨0, [], Nat.zero_le _, rfl, none, 0, rfl, .inl ⟨rfl, rfl, rfl⟩, InvA.nil, Nat.zero_le _, Below.refl _ _⟩
  case round =>
    obtain ⟨i, F0, hi, rfl, hout⟩ := hrel
    by_cases hlt : i < n
    · have hlt' : (i : Int) < (n : Int) := by omega
      obtain ⟨b, off, rfl, hcell⟩ := HO.out (by omega)
      have HCELL := Lib.hid hcell
      have HST := Lib.hid (amsOf_step (l := l) (p := p) (k := i) (by rw [HN.out]; exact hlt))
      have HMT : Hid (mt p (snth l i) = (((snth l i).per == p) && !(snth l i).gone)) := rfl
      have HTL30 := Lib.hid (slE_tot H0.out i (by rw [HN.out]; exact hlt))
      have HPI := Lib.hid (HPB.out i hi)
      have HSUB : Hid (∀ x ∈ amsOf (l.take (i + 1)) p, monB x.mon = true ∧ x.name.size ≤ maxLen) := fun x hx => HALL.out x (by
        unfold amsOf at hx ⊢
        obtain ⟨r, hr, hx⟩ := List.mem_flatMap.1 hx
        obtain ⟨hr1, hr2⟩ := List.mem_filter.1 hr
        exact List.mem_flatMap.2 ⟨r, List.mem_filter.2 ⟨List.mem_of_mem_take hr1, hr2⟩, hx⟩)
      obtain ⟨tl, htl⟩ : ∃ z, (snth l i).tot = z := ⟨_, rfl⟩
      obtain ⟨pre, hpre⟩ : ∃ z, amsOf (l.take i) p = z := ⟨_, rfl⟩
      rw [htl] at HST HTL30
      rw [hpre] at HST HPI hout
      have HTLE := Lib.hid htl
      have HOUT := Lib.hid hout
      clear hcell htl hpre hout
      obtain ⟨m, hm⟩ : ∃ z, tl.length = z := ⟨_, rfl⟩
      rw [hm] at HTL30
      have HLM := Lib.hid hm
      have hm30 := HTL30.out
      clear hm
      obtain ⟨x9, c9, hov, _⟩ := HOUT.out
      subst hov
      go_wp2_with fail
      generalize wr = w0 at *
      go_loopw [6, 8] (fun ov kv wr => ∃ (k : Nat) (F : List Am), k ≤ m ∧ kv = .int .i64 k ∧ OutA w wr ov F (pre ++ (if mt p (snth l i) = true then tl.take k else [])) ∧ (k = 0 ∨ mt p (snth l i) = true)) (fun _ kv _ => m - (intOf kv).toNat)
      case atStart => exact ⟨0, F0, Nat.zero_le _, rfl, by simpa using HOUT.out, .inl rfl⟩
      case round =>
        clear HOUT
        obtain ⟨k, F, hk, rfl, hout, hkm⟩ := hrel
        obtain ⟨x9, c9, rfl, hown, hinv, hlen, hbw⟩ := hout
        have HOW := Lib.hid hown
        have HIV := Lib.hid hinv
        have HFL := Lib.hid hlen
        have HBW := Lib.hid hbw
        clear hown hinv hlen hbw
        obtain ⟨⟨x0, x1, x2, x3⟩, ax, cx, x4, hps⟩ := HCELL.out wr HBW.out i hlt
        rw [HTLE.out] at x4 hps
        rw [HLM.out] at x4
        have HPS := Lib.hid hps
        clear hps
        have HP20 := Lib.hid (HPI.out)
        obtain ⟨pe, hpe⟩ : ∃ z, (snth l i).per = z := ⟨_, rfl⟩
        obtain ⟨go, hgo⟩ : ∃ z, (snth l i).gone = z := ⟨_, rfl⟩
        rw [hpe] at x1 HMT
        rw [hgo] at x3 HMT
        clear hpe hgo x0 x2
        by_cases hkl : k < m
        · have hkl' : (k : Int) < (m : Int) := by omega
          cases hpp : (pe == p)
          · have hmt : mt p (snth l i) = false := by rw [HMT.out, hpp]; rfl
            have HEQ : Hid (pre ++ (if mt p (snth l i) = true then tl.take k else []) = amsOf (l.take (i + 1)) p) := by unfold Hid; rw [HST.out, hmt]; simp
            have hpp' : decide (pe = p) = false := decide_eq_false (by simpa using hpp)
            clear hmt hkm
            go_wp2_with fail
            go_roundw
            case rel => exact ⟨i + 1, F, by omega, by go_num, by rw [← HEQ.out]; exact ⟨x9, c9, rfl, HOW.out, HIV.out, HFL.out, HBW.out⟩⟩
            case measure => simp [intOf]; omega
          · cases go
            · have HMTT : Hid (mt p (snth l i) = true) := by unfold Hid; rw [HMT.out, hpp]; rfl
              rw [HMTT.out, if_pos rfl] at HIV HFL
              obtain ⟨b2, o2, rfl, hc2⟩ := HPS.out.1.open HLM.out (by omega)
              obtain ⟨y0, y1⟩ := hc2 wr (Below.refl _ _) k hkl
              clear hc2 hkm
              have HTK : Hid (tl.take (k + 1) = tl.take k ++ [anth tl k]) := atakeS (by rw [HLM.out]; exact hkl)
              have HIN : Hid (anth tl k ∈ amsOf (l.take (i + 1)) p) := by
                unfold Hid
                rw [HST.out, HMTT.out, if_pos rfl]
                exact List.mem_append_right _ (anth_mem (by rw [HLM.out]; exact hkl))
              have hmoB := of_decide_eq_true (HSUB.out _ HIN.out).1
              have HBDS : Hid (∀ s, -7000000000000000 ≤ sumN s (pre ++ tl.take k) ∧ sumN s (pre ++ tl.take k) ≤ 7000000000000000) := fun s => by
                have h1 := sumN_bd (s := s) (l := pre ++ tl.take k) (fun r hr => (HSUB.out r (by
                  rw [HST.out, HMTT.out, if_pos rfl]
                  rcases List.mem_append.1 hr with q | q
                  · exact List.mem_append_left _ q
                  · exact List.mem_append_right _ (List.mem_of_mem_take q))).1)
                rw [List.length_append, List.length_take] at h1
                have := HP20.out
                omega
              have HETA : Hid ((⟨(anth tl k).name, (anth tl k).mon⟩ : Am) = anth tl k) := rfl
              obtain ⟨nm, hnm⟩ : ∃ z, (anth tl k).name = z := ⟨_, rfl⟩
              obtain ⟨mo, hmo⟩ : ∃ z, (anth tl k).mon = z := ⟨_, rfl⟩
              rw [hnm] at y0 HETA
              rw [hmo] at y1 HETA hmoB
              rw [← HETA.out] at HTK
              have HF6 : Hid (F.length ≤ 7000) := by
                have h1 := HFL.out
                have h2 := HP20.out
                unfold Hid
                rw [List.length_append, List.length_take] at h1
                omega
              have hF63 : F.length ≤ 9223372036854775807 := by have := HF6.out; omega
              clear hnm hmo HETA HIN
              have HBXB := Lib.hid (kbelow_box wr (.cells #[.string nm, .int .i64 mo] 52))
              have HBU := Lib.hid (HBW.out.trans (HBXB.out.mono HBW.out.size))
              have HOWB := Lib.hid (HOW.out.below HBXB.out)
              have Y0 : (wr.alloc (.cells #[.string nm, .int .i64 mo] 52)).cell? ⟨wr.heap.size, 0, none⟩ = some (.string nm) := by simp
              have Y1 : (wr.alloc (.cells #[.string nm, .int .i64 mo] 52)).cell? ⟨wr.heap.size, 1, none⟩ = some (.int .i64 mo) := by simp
              have hbtu : wr.heap.size < (wr.alloc (.cells #[.string nm, .int .i64 mo] 52)).heap.size := by simp
              go_wp2_with fail
              clear x1 x3 x4 y0 y1 HBXB HPS
              generalize wr.alloc (.cells #[.string nm, .int .i64 mo] 52) = W at *
              generalize wr.heap.size = bt at *
              generalize wr = wz at *
              go_loopw [10] (fun q wq => ∃ (j r : Nat), j ≤ F.length ∧ q = .int .i64 j ∧ (∀ z, z < j → ltS (anth F z).name nm = true) ∧ wq = W.drewN r) (fun q _ => F.length - (intOf q).toNat)
              case atStart => exact ⟨0, 0, Nat.zero_le _, rfl, fun z hz => by omega, rfl⟩
              case round =>
                obtain ⟨j, r, hj, rfl, hless, rfl⟩ := hrel
                have HLs := Lib.hid hless
                clear hless
                by_cases hjl : j < F.length
                · have hjl' : (j : Int) < (F.length : Int) := by omega
                  have HOA : Hid (∃ g, x9 = some ⟨g, 0, none⟩ ∧ w.heap.size ≤ g ∧ AAt W g 0 F ∧ ∀ j, j < F.length → W.frozen? ⟨g, j * 2 + 1, none⟩ = false) := by
                    rcases HOWB.out with ⟨_, _, h⟩ | ⟨g, h1, h2, h3, _, _, h6⟩
                    · rw [h] at hjl; simp at hjl
                    · exact ⟨g, h1, h2, h3, h6⟩
                  obtain ⟨g, hx9, hBg, hat, hfr⟩ := HOA.out
                  subst hx9
                  obtain ⟨z0, z1⟩ := hat.2 j hjl
                  rw [Nat.zero_add] at z0 z1
                  have hf := hfr j hjl
                  have HAt := Lib.hid hat
                  clear hat hfr HOA
                  obtain ⟨fn, hfn⟩ : ∃ z, (anth F j).name = z := ⟨_, rfl⟩
                  obtain ⟨fmn, hfm⟩ : ∃ z, (anth F j).mon = z := ⟨_, rfl⟩
                  rw [hfn] at z0
                  rw [hfm] at z1
                  have HFN := Lib.hid hfn
                  have HFM := Lib.hid hfm
                  clear hfn hfm
                  cases hls : Op.bytesLess fn.toList nm.toList
                  · have HLj : Hid (j < F.length → ltS (anth F j).name nm = false) := fun _ => by rw [HFN.out]; exact hls
                    cases heq : (fn.toList == nm.toList)
                    · have HNj : Hid (j < F.length → (anth F j).name ≠ nm) := fun _ e => by
                        rw [HFN.out] at e
                        rw [e] at heq
                        simp at heq
                      go_wp2_with fail
                      go_quiet (fail)
                      go_wp2_with fail
                      go_quiet (fail)
                      go_wp2_with fail
                      clear z0 z1 hf HAt
                      obtain ⟨x9, hx9⟩ : ∃ z, some (⟨g, 0, none⟩ : Addr) = z := ⟨_, rfl⟩
                      rw [hx9] at HOWB ⊢
                      clear hx9
                      generalize hU : World.drewN (World.drewN (World.drewN W _) _) _ = U
                      have HOU : Hid (OwnA U w.heap.size x9 c9 F) := by unfold Hid; rw [← hU]; exact HOWB.out
                      have HBV : Hid (Go.RowKit.Below w.heap.size w U) := by unfold Hid; rw [← hU]; exact HBU.out.trans ⟨rfl, rfl, rfl, Nat.le_refl _, fun _ _ => rfl⟩
                      have Y0' : U.cell? ⟨bt, 0, none⟩ = some (.string nm) := by rw [← hU]; exact Y0
                      have Y1' : U.cell? ⟨bt, 1, none⟩ = some (.int .i64 mo) := by rw [← hU]; exact Y1
                      have hbtu' : bt < U.heap.size := by rw [← hU]; exact hbtu
                      clear hU Y0 Y1 hbtu HBU
                      have Y0 := Y0'
                      have Y1 := Y1'
                      have hbtu := hbtu'
                      have HBU := HBV
                      clear Y0' Y1' hbtu' HBV
                      have HJ0 := Lib.hid hj
                      have HTL : Hid ((F.take j).length = j) := by unfold Hid; rw [List.length_take]; omega
                      have hsl1 := run_head x9 F.length c9 j hj HOU.out.cap.1
                      obtain ⟨y9, c2, hsl2, hy9⟩ := run_tail x9 F.length c9 j hj HOU.out.cap.1
                      have HDL0 : Hid ((F.drop j).length = F.length - j) := by unfold Hid; rw [List.length_drop]
                      obtain ⟨m9, hm9⟩ : ∃ z, F.length - j = z := ⟨_, rfl⟩
                      rw [hm9] at hsl2 HDL0
                      have HDL := HDL0
                      have HM9 : Hid (m9 ≤ F.length) := by unfold Hid; omega
                      have HY9 := Lib.hid hy9
                      clear hm9 hy9 HDL0
                      obtain ⟨nF, hnF⟩ : ∃ z, F.length = z := ⟨_, rfl⟩
                      rw [hnF] at hsl1 hsl2 hj HF6 HM9 ⊢
                      have HNF := Lib.hid hnF
                      go_wp2_with fail
                      go_region_held3 (fun w' => w'.cell? ⟨bt, 0, none⟩ = some (.string nm) ∧ w'.cell? ⟨bt, 1, none⟩ = some (.int .i64 mo)) (first | go_keep | trivial)
                        ((first
                          | (have := HA7; refine step_full _ rfl (.tmp 97) (.tmp 103) (by rfl) x9 j (F.take j) (by rfl) HTL.out (by exact head_full (HOU.out.below HB7.out) HJ0.out) g7 ([(⟨nm, mo⟩ : Am)] ++ F.drop j).length c7 ([(⟨nm, mo⟩ : Am)] ++ F.drop j) (by rfl) HA7.out rfl (by simp) (by have := HF6.out; simp; omega) ?_
                             intro v8 w8 hg8 hb8
                             have HG8 := Lib.hid hg8
                             have HB8 := Lib.hid (HB7.out.trans (hb8.mono HB7.out.size))
                             have s0 := (HB8.out.cell (p := ⟨bt, 0, none⟩) hbtu).trans Y0
                             have s1 := (HB8.out.cell (p := ⟨bt, 1, none⟩) hbtu).trans Y1
                             clear hg8 hb8)
                          | (refine step_am _ rfl (.tmp 99) (.tmp 102) (by rfl) U.heap.size (.slice (some ⟨U.heap.size, 0, none⟩) 1 1) [(⟨nm, mo⟩ : Am)] (by rfl) (by first | exact GrowA.one U.drew ⟨nm, mo⟩ _ (Nat.le_refl _) | exact GrowA.one U ⟨nm, mo⟩ _ (Nat.le_refl _)) y9 m9 c2 (F.drop j) (by rfl) (by exact tail_came (HOU.out.below ((Below.refl U.heap.size U).drew.alloc (Nat.le_refl _) (.cells #[.string nm, .int .i64 mo] 52))) HY9.out) HDL.out (by have := HF6.out; have := HM9.out; simp; omega) (by simp) ?_
                             intro v7 w7 hg7 hb7
                             rcases hg7.form with ⟨_, hbad⟩ | ⟨g7, c7, rfl, _, hat7, _⟩
                             · cases hbad
                             have HB7 := Lib.hid (((Below.refl U.heap.size U).drew.alloc (Nat.le_refl _) (.cells #[.string nm, .int .i64 mo] 52)).trans hb7)
                             have HA7 := Lib.hid hat7
                             have r0 := (HB7.out.cell (p := ⟨bt, 0, none⟩) hbtu).trans Y0
                             have r1 := (HB7.out.cell (p := ⟨bt, 1, none⟩) hbtu).trans Y1
                             clear hg7 hb7 hat7)))
                      have HOUT : Hid (OutA w w8 v8 (insA j ⟨nm, mo⟩ F) (pre ++ tl.take (k + 1))) := by
                        obtain ⟨x8, c8, e8, ho8⟩ := OwnA.of HG8.out
                        refine ⟨x8, c8, ?_, ?_, ?_, ?_, ?_⟩
                        · rw [e8]; rfl
                        · exact ho8.mono (Nat.le_trans HBU.out.size HB7.out.size)
                        · rw [HTK.out, ← List.append_assoc]
                          exact inv_ins HIV.out HJ0.out HLs.out HLj.out HNj.out
                        · rw [insA_len, HTK.out, ← List.append_assoc, List.length_append]
                          have := HFL.out
                          simp at this ⊢
                          omega
                        · exact HBU.out.trans (HB8.out.mono HBU.out.size)
                      go_wp2_with fail
                      go_roundw
                      case rel => exact ⟨k + 1, insA j ⟨nm, mo⟩ F, by omega, by go_num, by rw [HMTT.out, if_pos rfl]; exact HOUT.out, .inr HMTT.out⟩
                      case measure => simp [intOf]; omega
                    · have hnn : Hid (fn = nm) := by
                        unfold Hid
                        have q : fn.toList = nm.toList := by simpa using heq
                        rw [ByteArray.toList_eq, ByteArray.toList_eq] at q
                        exact ba_eq (Array.toList_inj.1 q)
                      have HFB : Hid (fmn = sumN fn (pre ++ tl.take k)) := by
                        have := (HIV.out.2 _).1 (anth_mem hjl)
                        unfold Hid
                        rw [← HFM.out, ← HFN.out]
                        exact this.2
                      have hfb := HBDS.out fn
                      rw [← HFB.out] at hfb
                      have hwr : IntKind.i64.wrap (fmn + mo) = fmn + mo := IntWalk.i64_in _ (by omega)
                      have HADD : Hid (InvA (putA F j (fmn + mo)) (pre ++ tl.take (k + 1))) := by
                        unfold Hid
                        rw [HTK.out, ← List.append_assoc, ← HFM.out]
                        exact inv_add (t := ⟨nm, mo⟩) HIV.out hjl (by rw [HFN.out]; exact hnn.out)
                      go_wp2_with fail
                      go_quiet (fail)
                      go_wp2_with fail
                      go_quiet (fail)
                      go_wp2_with fail
                      obtain ⟨x9, hx9⟩ : ∃ z, some (⟨g, 0, none⟩ : Addr) = z := ⟨_, rfl⟩
                      rw [hx9] at HOWB ⊢
                      generalize hU : World.drewN (World.drewN (World.drewN W _) _) _ = U
                      have HOU : Hid (OwnA U w.heap.size x9 c9 F) := by unfold Hid; rw [← hU]; exact HOWB.out
                      have HBV : Hid (Go.RowKit.Below w.heap.size w U) := by unfold Hid; rw [← hU]; exact HBU.out.trans ⟨rfl, rfl, rfl, Nat.le_refl _, fun _ _ => rfl⟩
                      have Y0' : U.cell? ⟨bt, 0, none⟩ = some (.string nm) := by rw [← hU]; exact Y0
                      have Y1' : U.cell? ⟨bt, 1, none⟩ = some (.int .i64 mo) := by rw [← hU]; exact Y1
                      have hbtu' : bt < U.heap.size := by rw [← hU]; exact hbtu
                      have z1' : U.cell? ⟨g, j * 2 + 1, none⟩ = some (.int .i64 fmn) := by rw [← hU]; exact z1
                      have hf' : U.frozen? ⟨g, j * 2 + 1, none⟩ = false := by rw [← hU]; exact hf
                      rw [← hx9] at HOU ⊢
                      clear hU Y0 Y1 hbtu HBU z0 z1 hf HAt Y0' hbtu' hx9 HOWB
                      have HOUT : Hid (OutA w (U.setCell ⟨g, j * 2 + 1, none⟩ (.int .i64 (fmn + mo))) (.slice (some ⟨g, 0, none⟩) F.length c9) (putA F j (fmn + mo)) (pre ++ tl.take (k + 1))) := by
                        refine ⟨_, c9, by rw [putA_len hjl], HOU.out.put hjl _, HADD.out, ?_, HBV.out.setCell (p := ⟨g, j * 2 + 1, none⟩) hBg _⟩
                        rw [putA_len hjl, HTK.out, ← List.append_assoc, List.length_append]
                        have := HFL.out
                        simp at this ⊢
                        omega
                      go_region
                      go_wp2_with fail
                      go_roundw
                      case rel => exact ⟨k + 1, putA F j (fmn + mo), by omega, by go_num, by rw [HMTT.out, if_pos rfl]; exact HOUT.out.drew, .inr HMTT.out⟩
                      case measure => simp [intOf]; omega
                  · go_wp2_with fail
                    go_quiet (fail)
                    go_wp2_with fail
                    go_roundw
                    case rel => exact ⟨j + 1, _, by omega, by go_num, fun z hz => by
                      by_cases e : z = j
                      · subst e; rw [HFN.out]; exact hls
                      · exact HLs.out z (by omega), rfl⟩
                    case measure => simp [intOf]; omega
                · have hje : j = F.length := by omega
                  have hnl : decide ((j : Int) < (F.length : Int)) = false := decide_eq_false (by omega)
                  have HLj : Hid (j < F.length → ltS (anth F j).name nm = false) := fun q => absurd q hjl
                  have HNj : Hid (j < F.length → (anth F j).name ≠ nm) := fun q => absurd q hjl
                  clear hje
                  go_wp2_with fail
                  go_quiet (fail)
                  go_wp2_with fail
                  go_quiet (fail)
                  go_wp2_with fail
                  generalize hU : World.drewN (World.drewN (World.drewN W _) _) _ = U
                  have HOU : Hid (OwnA U w.heap.size x9 c9 F) := by unfold Hid; rw [← hU]; exact HOWB.out
                  have HBV : Hid (Go.RowKit.Below w.heap.size w U) := by unfold Hid; rw [← hU]; exact HBU.out.trans ⟨rfl, rfl, rfl, Nat.le_refl _, fun _ _ => rfl⟩
                  have Y0' : U.cell? ⟨bt, 0, none⟩ = some (.string nm) := by rw [← hU]; exact Y0
                  have Y1' : U.cell? ⟨bt, 1, none⟩ = some (.int .i64 mo) := by rw [← hU]; exact Y1
                  have hbtu' : bt < U.heap.size := by rw [← hU]; exact hbtu
                  clear hU Y0 Y1 hbtu HBU
                  have Y0 := Y0'
                  have Y1 := Y1'
                  have hbtu := hbtu'
                  have HBU := HBV
                  clear Y0' Y1' hbtu' HBV
                  have HJ0 := Lib.hid hj
                  have HTL : Hid ((F.take j).length = j) := by unfold Hid; rw [List.length_take]; omega
                  have hsl1 := run_head x9 F.length c9 j hj HOU.out.cap.1
                  obtain ⟨y9, c2, hsl2, hy9⟩ := run_tail x9 F.length c9 j hj HOU.out.cap.1
                  have HDL0 : Hid ((F.drop j).length = F.length - j) := by unfold Hid; rw [List.length_drop]
                  obtain ⟨m9, hm9⟩ : ∃ z, F.length - j = z := ⟨_, rfl⟩
                  rw [hm9] at hsl2 HDL0
                  have HDL := HDL0
                  have HM9 : Hid (m9 ≤ F.length) := by unfold Hid; omega
                  have HY9 := Lib.hid hy9
                  clear hm9 hy9 HDL0
                  obtain ⟨nF, hnF⟩ : ∃ z, F.length = z := ⟨_, rfl⟩
                  rw [hnF] at hsl1 hsl2 hj HF6 HM9 ⊢
                  have HNF := Lib.hid hnF
                  go_wp2_with fail
                  go_region_held3 (fun w' => w'.cell? ⟨bt, 0, none⟩ = some (.string nm) ∧ w'.cell? ⟨bt, 1, none⟩ = some (.int .i64 mo)) (first | go_keep | trivial)
                    ((first
                      | (have := HA7; refine step_full _ rfl (.tmp 97) (.tmp 103) (by rfl) x9 j (F.take j) (by rfl) HTL.out (by exact head_full (HOU.out.below HB7.out) HJ0.out) g7 ([(⟨nm, mo⟩ : Am)] ++ F.drop j).length c7 ([(⟨nm, mo⟩ : Am)] ++ F.drop j) (by rfl) HA7.out rfl (by simp) (by have := HF6.out; simp; omega) ?_
                         intro v8 w8 hg8 hb8
                         have HG8 := Lib.hid hg8
                         have HB8 := Lib.hid (HB7.out.trans (hb8.mono HB7.out.size))
                         have s0 := (HB8.out.cell (p := ⟨bt, 0, none⟩) hbtu).trans Y0
                         have s1 := (HB8.out.cell (p := ⟨bt, 1, none⟩) hbtu).trans Y1
                         clear hg8 hb8)
                      | (refine step_am _ rfl (.tmp 99) (.tmp 102) (by rfl) U.heap.size (.slice (some ⟨U.heap.size, 0, none⟩) 1 1) [(⟨nm, mo⟩ : Am)] (by rfl) (by first | exact GrowA.one U.drew ⟨nm, mo⟩ _ (Nat.le_refl _) | exact GrowA.one U ⟨nm, mo⟩ _ (Nat.le_refl _)) y9 m9 c2 (F.drop j) (by rfl) (by exact tail_came (HOU.out.below ((Below.refl U.heap.size U).drew.alloc (Nat.le_refl _) (.cells #[.string nm, .int .i64 mo] 52))) HY9.out) HDL.out (by have := HF6.out; have := HM9.out; simp; omega) (by simp) ?_
                         intro v7 w7 hg7 hb7
                         rcases hg7.form with ⟨_, hbad⟩ | ⟨g7, c7, rfl, _, hat7, _⟩
                         · cases hbad
                         have HB7 := Lib.hid (((Below.refl U.heap.size U).drew.alloc (Nat.le_refl _) (.cells #[.string nm, .int .i64 mo] 52)).trans hb7)
                         have HA7 := Lib.hid hat7
                         have r0 := (HB7.out.cell (p := ⟨bt, 0, none⟩) hbtu).trans Y0
                         have r1 := (HB7.out.cell (p := ⟨bt, 1, none⟩) hbtu).trans Y1
                         clear hg7 hb7 hat7)))
                  have HOUT : Hid (OutA w w8 v8 (insA j ⟨nm, mo⟩ F) (pre ++ tl.take (k + 1))) := by
                    obtain ⟨x8, c8, e8, ho8⟩ := OwnA.of HG8.out
                    refine ⟨x8, c8, ?_, ?_, ?_, ?_, ?_⟩
                    · rw [e8]; rfl
                    · exact ho8.mono (Nat.le_trans HBU.out.size HB7.out.size)
                    · rw [HTK.out, ← List.append_assoc]
                      exact inv_ins HIV.out HJ0.out HLs.out HLj.out HNj.out
                    · rw [insA_len, HTK.out, ← List.append_assoc, List.length_append]
                      have := HFL.out
                      simp at this ⊢
                      omega
                    · exact HBU.out.trans (HB8.out.mono HBU.out.size)
                  go_wp2_with fail
                  go_roundw
                  case rel => exact ⟨k + 1, insA j ⟨nm, mo⟩ F, by omega, by go_num, by rw [HMTT.out, if_pos rfl]; exact HOUT.out, .inr HMTT.out⟩
                  case measure => simp [intOf]; omega
            · have hmt : mt p (snth l i) = false := by rw [HMT.out]; simp
              have HEQ : Hid (pre ++ (if mt p (snth l i) = true then tl.take k else []) = amsOf (l.take (i + 1)) p) := by unfold Hid; rw [HST.out, hmt]; simp
              clear hmt hkm
              go_wp2_with fail
              go_roundw
              case rel => exact ⟨i + 1, F, by omega, by go_num, by rw [← HEQ.out]; exact ⟨x9, c9, rfl, HOW.out, HIV.out, HFL.out, HBW.out⟩⟩
              case measure => simp [intOf]; omega
        · have hke : k = m := by omega
          subst hke
          have hnl : decide ((k : Int) < (k : Int)) = false := decide_eq_false (by omega)
          have HEQ : Hid (pre ++ (if mt p (snth l i) = true then tl.take k else []) = amsOf (l.take (i + 1)) p) := by unfold Hid; rw [HST.out, List.take_of_length_le (by rw [HLM.out]; exact Nat.le_refl _)]
          go_wp2_with fail
          go_roundw
          case rel => exact ⟨i + 1, F, by omega, by go_num, by rw [← HEQ.out]; exact ⟨x9, c9, rfl, HOW.out, HIV.out, HFL.out, HBW.out⟩⟩
          case measure => simp [intOf]; omega
    · have hie : i = n := by omega
      subst hie
      have hnl : decide ((i : Int) < (i : Int)) = false := decide_eq_false (by omega)
      have hTA : l.take i = l := List.take_of_length_le (by rw [HN.out]; exact Nat.le_refl _)
      rw [hTA] at hout
      have HLL : Hid ((amsOf l p).length ≤ 6000) := by have := HPB.out i (Nat.le_refl _); rw [hTA] at this; unfold Hid; omega
      clear hTA
      obtain ⟨x9, c9, rfl, hown, hinv, hlen, hbw⟩ := hout
      generalize F0 = F at *
      have HAMS : Hid (AmsOf (sumsS (amsOf l p)) (F.filter fun x => !(x.mon == 0))) := inv_ams hinv (fun x hx => (HALL.out x hx).2)
      have HB3 := Lib.hid hbw
      have HF6 : Hid (F.length ≤ 6000) := by unfold Hid; have := HLL.out; omega
      have HOF := Lib.hid (fun h0 => hown.came.open (n := F.length) rfl h0)
      have hm63 : F.length ≤ 9223372036854775807 := by have := HF6.out; omega
      clear hown hinv hlen hbw
      go_wp2_with fail
      generalize wr = W3 at *
      go_loopw [11, 12] (fun sv iv wq => ∃ q : Nat, q ≤ F.length ∧ iv = .int .i64 q ∧ GrowA wq W3.heap.size sv ((F.take q).filter fun x => !(x.mon == 0)) ∧ (∀ z, z < q → monB (anth F z).mon = true) ∧ Go.RowKit.Below W3.heap.size W3 wq) (fun _ iv _ => F.length - (intOf iv).toNat)
      case atStart => exact ⟨0, Nat.zero_le _, rfl, GrowA.nil _ _, fun z hz => absurd hz (by omega), Below.refl _ _⟩
      case round =>
        obtain ⟨q, hq, rfl, hg, hall, hbq⟩ := hrel
        obtain ⟨x8, c8, hsv, hcs⟩ := hg.slice
        subst hsv
        have HG := Lib.hid hg
        have HAL := Lib.hid hall
        have HBQ := Lib.hid hbq
        have HCS := Lib.hid hcs
        have HFS := Lib.hid (afilter_len (F := F) (k := q))
        clear hg hall hbq hcs
        by_cases hqf : q < F.length
        · have hqf' : (q : Int) < (F.length : Int) := by omega
          obtain ⟨g, off, rfl, hcell⟩ := HOF.out (by omega)
          obtain ⟨z0, z1⟩ := hcell wr HBQ.out q hqf
          have HST := Lib.hid (afilter_step (F := F) (k := q) hqf)
          have HMEM := Lib.hid (anth_mem hqf)
          have HAL2 : Hid (monB (anth F q).mon = true → ∀ z, z < q + 1 → monB (anth F z).mon = true) := fun h z hz => by
            by_cases e : z = q
            · subst e; exact h
            · exact HAL.out z (by omega)
          obtain ⟨L8, hL8⟩ : ∃ L, (F.take q).filter (fun x => !(x.mon == 0)) = L := ⟨_, rfl⟩
          rw [hL8] at HG HST HFS ⊢
          obtain ⟨m8, hm8⟩ : ∃ m, L8.length = m := ⟨_, rfl⟩
          rw [hm8] at HG ⊢
          have HM8 := Lib.hid hm8
          obtain ⟨t, ht⟩ : ∃ t, anth F q = t := ⟨_, rfl⟩
          rw [ht] at z0 z1 HST HMEM HAL2
          clear hL8 hm8 ht hcell HCS
          cases hmo : monB t.mon
          · have HNA := Lib.hid (amsB_no HMEM.out hmo)
            go_wp2_with (first | (go_at_call 35; refine (isMoney_ref _ _).mono ?_; rintro e w' ⟨rfl, h'⟩; subst w'; rw [hmo]))
            go_ret2
            exact ⟨_, _, _, rfl, HAMS.out, Nat.le_trans (List.length_filter_le _ _) HF6.out, .inl ⟨HNA.out, rfl, rfl⟩, HB3.out.trans (HBQ.out.mono HB3.out.size)⟩
          · have HA3 := Lib.hid (HAL2.out hmo)
            by_cases hz : t.mon = 0
            · have hz' : (t.mon != 0) = false := by simp [hz]
              have hzb : (t.mon == 0) = true := by simp [hz]
              rw [hzb] at HST
              clear hz hzb
              go_wp2_with (first | (go_at_call 35; refine (isMoney_ref _ _).mono ?_; rintro e w' ⟨rfl, h'⟩; subst w'; rw [hmo]))
              go_roundw
              case rel => exact ⟨q + 1, by omega, by go_num, by rw [HST.out]; simpa using HG.out, HA3.out, HBQ.out⟩
              case measure => simp [intOf]; omega
            · have hz' : (t.mon != 0) = true := by simp [hz]
              have hzb : (t.mon == 0) = false := by simp [hz]
              rw [hzb] at HST
              clear hz hzb
              have HGY := Lib.hid (HG.out.alloc (.cells #[.string t.name, .int .i64 t.mon] 52))
              have HBY := Lib.hid (HBQ.out.alloc HBQ.out.size (.cells #[.string t.name, .int .i64 t.mon] 52))
              have HOB := Lib.hid (aat_box wr t.name t.mon)
              have HBZ : Hid (W3.heap.size ≤ (wr.alloc (.cells #[.string t.name, .int .i64 t.mon] 52)).heap.size) := Lib.hid (by have := HBQ.out.size; simp; omega)
              go_wp2_with (first
                | (go_at_call 35; refine (isMoney_ref _ _).mono ?_; rintro e w' ⟨rfl, h'⟩; subst w'; rw [hmo])
                | (at_builtin; refine wpList_app_ams _ rfl _ _ rfl W3.heap.size (.slice x8 m8 c8) L8 rfl HGY.out wr.heap.size 0 1 1 [⟨t.name, t.mon⟩] rfl HOB.out rfl (by have := HFS.out; have := HF6.out; omega) HBZ.out ?_; intro v' w2 hgr2 _ hbel2))
              go_roundw
              case rel => exact ⟨q + 1, by omega, by go_num, by rw [HST.out]; exact hgr2, HA3.out, HBY.out.trans hbel2⟩
              case measure => simp [intOf]; omega
        · have hqe : q = F.length := by omega
          subst hqe
          have hnl2 : decide ((F.length : Int) < (F.length : Int)) = false := decide_eq_false (by omega)
          rw [List.take_length] at HCS ⊢
          have HALL2 := Lib.hid (amsB_yes (F := F) (fun x hx => by
            obtain ⟨z, hz, e⟩ := List.mem_iff_getElem.1 hx
            have := HAL.out z hz
            rw [anth_get hz, e] at this
            exact this))
          obtain ⟨L8, hL8⟩ : ∃ L, F.filter (fun x => !(x.mon == 0)) = L := ⟨_, rfl⟩
          have HLE8 : Hid (L8.length ≤ 6000) := by unfold Hid; rw [← hL8]; exact Nat.le_trans (List.length_filter_le _ _) HF6.out
          rw [hL8] at HCS HALL2 HAMS ⊢
          clear hL8
          go_wp2_with fail
          go_ret2
          exact ⟨_, _, _, rfl, HAMS.out, HLE8.out, .inr ⟨HALL2.out, rfl, x8, c8, rfl, HCS.out⟩, HB3.out.trans (HBQ.out.mono HB3.out.size)⟩
end Go.Proofs.Ytiedlmhahdnhaaa
