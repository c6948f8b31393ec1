/-
  Promise Q3: the walk of the reference's TrialOf itself.
-/
import Derived.Test.YtdgcfakbmhchdaaQTriR
namespace Go.Proofs.Ytdgcfakbmhchdaa
open Go.RowKit Go.Sort

/-- So far: the list that is made, where it lies. -/
def OutT (w wr : World) (v : Value) (F V P : List Am) : Prop := ∃ x c, v = .slice x F.length c ∧ OwnA wr w.heap.size x c F ∧ InvT F V P ∧ F.length ≤ V.length ∧ Go.RowKit.Below w.heap.size w wr
set_option maxRecDepth 100000 in
set_option maxHeartbeats 8000000 in
theorem trialOf_ref (a : Option Addr) (n cap : Nat) (l : List En) (day : Int) (w : World) (hc : CameE w a l) (hn : l.length = n) (h0 : jrE l = 0) :
    Calls Try.prog 26 #[.slice a n cap, .int .i64 day] w fun e w' => ∃ (v : Value) (am : List Am), e = .returned v ∧ AmsOf (sumsS (pst l 0 day)) am ∧ am.length ≤ 2000 ∧ AmsIn w' v am ∧ Go.RowKit.Below w.heap.size w w' := by
  have HW := Lib.hid (hc.wide hn)
  have HN := Lib.hid hn
  have hn100 : n ≤ 100 := by rw [← hn]; exact (jrE_ok h0).1
  have H20 : Hid (∀ i, i < n → (enth l i).ps.length ≤ 20) := fun i hi => (enE_ok ((jrE_ok h0).2.1 _ (enth_mem (by omega)))).2.2.1
  have HPB : Hid (∀ i, i ≤ n → (vis l i).length ≤ 20 * i) := fun i hi => vis_len (fun r hr => (enE_ok ((jrE_ok h0).2.1 r hr)).2.2.1) i (by omega)
  have HMF : Hid (∀ s w0, Go.RowKit.Below w.heap.size w w0 → Calls Try.prog 23 #[.slice a n cap, .string s, .int .i64 0, .int .i64 day] w0 fun e w' => e = .returned (.tuple #[.int .i64 (inN s (pst l 0 day)), .int .i64 (outN s (pst l 0 day))]) ∧ Go.RowKit.Below w0.heap.size w0 w') := fun s w0 hb => movedOf_ref a n cap l s 0 day w0 (hc.below hb) hn h0
  have HSB : Hid (∀ s, -2000000000000000 ≤ sumN s (pst l 0 day) ∧ sumN s (pst l 0 day) ≤ 2000000000000000) := fun s => by
    have h1 := pst_bound h0 0 day
    have h2 := sumN_bd (s := s) (l := pst l 0 day) (fun r hr => by
      obtain ⟨e, he, hx⟩ := pst_mem hr
      have h2 := List.all_eq_true.1 (enE_ok ((jrE_ok h0).2.1 e he)).2.2.2.2.1 _ hx
      unfold asB someB at h2
      simp at h2
      exact h2.2)
    omega
  have HALL : Hid (∀ F, InvT F (vis l n) (pst l 0 day) → AmsOf (sumsS (pst l 0 day)) F) := fun F hI => by
    subst hn
    refine hI.ams (fun s hs => hasN_vis hs) fun x hx => ?_
    unfold vis at hx
    obtain ⟨r, hr, hx⟩ := List.mem_flatMap.1 hx
    rw [List.take_length] at hr
    obtain ⟨q, hq, rfl⟩ := mem_enth hr
    obtain ⟨z, hz, e⟩ := List.mem_iff_getElem.1 hx
    rcases hc with h | ⟨b, off, _, _, hk⟩
    · omega
    · obtain ⟨_, _, _, _, hps⟩ := hk q hq
      have := hps.2.1 z hz
      rw [anth_get hz, e] at this
      exact this
  obtain ⟨P, hP⟩ : ∃ z, pst l 0 day = z := ⟨_, rfl⟩
  rw [hP] at HMF HSB HALL ⊢
  clear hP hc hn h0
  go_enter Try.func26, Try.ntmps26
  go_wp2_with fail
  go_loopw [5, 6] (fun ov iv wr => ∃ (i : Nat) (F : List Am), i ≤ n ∧ iv = .int .i64 i ∧ OutT w wr ov F (vis l i) P) (fun _ iv _ => n - (intOf iv).toNat)
  case atStart => exact ⟨0, [], Nat.zero_le _, rfl, none, 0, rfl, .inl ⟨rfl, rfl, rfl⟩, InvT.nil P, Nat.zero_le _, Below.refl _ _⟩
  case round =>
    obtain ⟨i, F0, hi, rfl, hout⟩ := hrel
    by_cases hlt : i < n
    · have hlt' : (i : Int) < (n : Int) := by omega
      obtain ⟨b, off, rfl, hcell⟩ := HW.out (by omega)
      obtain ⟨ax, cx, hax⟩ := hcell i hlt
      have HAX := Lib.hid hax
      clear hcell hax
      have HST := Lib.hid (vis_step (l := l) (i := i) (by rw [HN.out]; exact hlt))
      have HM20 := Lib.hid (H20.out i hlt)
      have HPI := Lib.hid (HPB.out i hi)
      obtain ⟨ps, hps⟩ : ∃ z, (enth l i).ps = z := ⟨_, rfl⟩
      obtain ⟨pre, hpre⟩ : ∃ z, vis l i = z := ⟨_, rfl⟩
      rw [hps] at HAX HST HM20
      rw [hpre] at HST HPI hout
      obtain ⟨m, hm⟩ : ∃ z, ps.length = z := ⟨_, rfl⟩
      rw [hm] at HAX HM20
      have HLM := Lib.hid hm
      have hm20 := HM20.out
      have HOUT := Lib.hid hout
      clear hps hpre hm hout
      obtain ⟨x9, c9, hov, _, _, _, hbw0⟩ := HOUT.out
      subst hov
      obtain ⟨_, x1, _⟩ := HAX.out wr hbw0
      clear hbw0
      go_wp2_with fail
      clear x1
      generalize wr = w0 at *
      go_loopw [5, 7] (fun ov kv wr => ∃ (k : Nat) (F : List Am), k ≤ m ∧ kv = .int .i64 k ∧ OutT w wr ov F (pre ++ ps.take k) P) (fun _ kv _ => m - (intOf kv).toNat)
      case atStart => exact ⟨0, F0, Nat.zero_le _, rfl, by simpa using HOUT.out⟩
      case round =>
        clear HOUT
        obtain ⟨k, F, hk, rfl, hout⟩ := hrel
        obtain ⟨x9, c9, rfl, hown, hinv, hlen, hbw⟩ := hout
        have HOW := Lib.hid hown
        have HIV := Lib.hid hinv
        have HFL := Lib.hid hlen
        have HBW := Lib.hid hbw
        clear hown hinv hlen hbw
        obtain ⟨x0, x1, hps⟩ := HAX.out wr HBW.out
        have HPS := Lib.hid hps
        clear hps x0
        by_cases hkl : k < m
        · have hkl' : (k : Int) < (m : Int) := by omega
          obtain ⟨b2, o2, rfl, hc2⟩ := HPS.out.1.open HLM.out (by omega)
          obtain ⟨y0, _⟩ := hc2 wr (Below.refl _ _) k hkl
          clear hc2
          have HTK : Hid (ps.take (k + 1) = ps.take k ++ [anth ps k]) := atake_snoc (by rw [HLM.out]; exact hkl)
          have HF6 : Hid (F.length ≤ 7000) := by
            have h1 := HFL.out
            have h2 := HPI.out
            unfold Hid
            rw [List.length_append, List.length_take] at h1
            omega
          have hF63 : F.length ≤ 9223372036854775807 := by have := HF6.out; omega
          obtain ⟨nm, hnm⟩ : ∃ z, (anth ps k).name = z := ⟨_, rfl⟩
          have HSK : Hid (sumN nm P = 0 ∨ (∃ y ∈ F, y.name = nm) → OutT w wr (.slice x9 F.length c9) F (pre ++ ps.take (k + 1)) P → True) := fun _ _ => trivial
          have HSKI : Hid ((sumN nm P = 0 ∨ ∃ y ∈ F, y.name = nm) → InvT F (pre ++ ps.take (k + 1)) P ∧ F.length ≤ (pre ++ ps.take (k + 1)).length) := fun q => by
            rw [HTK.out, ← List.append_assoc]
            refine ⟨HIV.out.skip (by rw [hnm]; exact q), ?_⟩
            have := HFL.out
            rw [List.length_append (bs := [anth ps k])]
            omega
          have HINS0 : Hid (∀ j, j ≤ F.length → (∀ i, i < j → ltS (anth F i).name nm = true) → (j < F.length → ltS (anth F j).name nm = false) → (j < F.length → (anth F j).name ≠ nm) → sumN nm P ≠ 0 → InvT (insA j ⟨nm, sumN nm P⟩ F) (pre ++ ps.take (k + 1)) P) := fun j q1 q2 q3 q4 q5 => by
            rw [HTK.out, ← List.append_assoc]
            rw [← hnm] at q2 q3 q4 q5 ⊢
            exact HIV.out.ins q1 q2 q3 q4 q5
          rw [hnm] at y0
          clear hnm HSK HIV
          have HMV := Lib.hid (HMF.out nm)
          have HSUM : Hid (inN nm P - outN nm P = sumN nm P) := io_sum nm P
          have hsv := HSB.out nm
          obtain ⟨I, hI⟩ : ∃ z, inN nm P = z := ⟨_, rfl⟩
          obtain ⟨O, hO⟩ : ∃ z, outN nm P = z := ⟨_, rfl⟩
          obtain ⟨sv, hs⟩ : ∃ z, sumN nm P = z := ⟨_, rfl⟩
          rw [hI, hO] at HMV HSUM
          rw [hs] at HSUM HSKI HINS0 hsv
          clear hI hO hs
          by_cases hio : I = O
          · have HSK := Lib.hid (HSKI.out (.inl (by have := HSUM.out; omega)))
            have hio' : (I == O) = true := by simpa using hio
            have hio2 : decide (I = O) = true := decide_eq_true hio
            have HOW2 := Lib.hid HOW.out
            clear HSKI HINS0 HSUM hio
            go_wp2_with (first
              | (go_at_call 23; refine (HMV.out _ HBW.out).mono ?_; rintro e w1 ⟨rfl, hb1⟩; have HB1 := Lib.hid hb1; clear hb1)
              )
            go_roundw
            case rel => exact ⟨k + 1, F, by omega, by go_num, x9, c9, rfl, HOW2.out.below HB1.out, HSK.out.1, HSK.out.2, HBW.out.trans (HB1.out.mono HBW.out.size)⟩
            case measure => simp [intOf]; omega
          · have HNZ : Hid (sv ≠ 0) := by unfold Hid; have := HSUM.out; omega
            have hio' : (I == O) = false := by simpa using hio
            have hio2 : decide (I = O) = false := decide_eq_false hio
            have hwr : IntKind.i64.wrap (I - O) = sv := by rw [HSUM.out]; exact IntWalk.i64_in _ (by omega)
            clear hio
            go_wp2_with (first
              | (go_at_call 23; refine (HMV.out _ HBW.out).mono ?_; rintro e w1 ⟨rfl, hb1⟩; have HB1 := Lib.hid hb1; clear hb1)
              | (go_at_call 38; refine (amountAt_ref x9 F.length c9 F nm _ (HOW.out.below HB1.out).came rfl hF63).mono ?_; rintro e w' ⟨r, rfl, hr, h'⟩; subst w'; refine Hid.out ?_))
            have HOU := Lib.hid (HOW.out.below HB1.out)
            have HBU := Lib.hid (HBW.out.trans (HB1.out.mono HBW.out.size))
            clear HB1 HMV x1 y0 HPS
            generalize wr = wz at *
            generalize w1 = U at *
            rcases hr with ⟨hr0, hin⟩ | ⟨rfl, hno⟩
            · have hr1 : decide (0 ≤ r) = true := decide_eq_true hr0
              have HSK := Lib.hid (HSKI.out (.inr hin))
              clear hin HSKI HINS0
              refine Lib.hid ?_
              go_wp2_with fail
              go_roundw
              case rel => exact ⟨k + 1, F, by omega, by go_num, x9, c9, rfl, HOU.out, HSK.out.1, HSK.out.2, HBU.out⟩
              case measure => simp [intOf]; omega
            · have HNO := Lib.hid hno
              have HINS : Hid (∀ j, j ≤ F.length → (∀ i, i < j → ltS (anth F i).name nm = true) → (j < F.length → ltS (anth F j).name nm = false) → (j < F.length → (anth F j).name ≠ nm) → InvT (insA j ⟨nm, sv⟩ F) (pre ++ ps.take (k + 1)) P) := fun j q1 q2 q3 q4 => HINS0.out j q1 q2 q3 q4 HNZ.out
              clear hno HSKI HINS0
              refine Lib.hid ?_
              go_wp2_with fail
              go_loopw [11] (fun q wq => ∃ (j : Nat), j ≤ F.length ∧ q = .int .i64 j ∧ (∀ z, z < j → ltS (anth F z).name nm = true) ∧ wq = U) (fun q _ => F.length - (intOf q).toNat)
              case atStart => exact ⟨0, Nat.zero_le _, rfl, fun z hz => by omega, rfl⟩
              case round =>
                obtain ⟨j, hj, rfl, hless, rfl⟩ := hrel
                have HLs := Lib.hid hless
                clear hless
                have HNj : Hid (j < F.length → (anth F j).name ≠ nm) := fun q => HNO.out _ (anth_mem q)
                by_cases hjl : j < F.length
                · have hjl' : (j : Int) < (F.length : Int) := by omega
                  have HOA : Hid (∃ g, x9 = some ⟨g, 0, none⟩ ∧ AAt wr g 0 F) := by
                    rcases HOU.out with ⟨_, _, h⟩ | ⟨g, h1, h2, h3, _⟩
                    · rw [h] at hjl; simp at hjl
                    · exact ⟨g, h1, h3⟩
                  obtain ⟨g, hx9, hat⟩ := HOA.out
                  subst hx9
                  obtain ⟨z0, z1⟩ := hat.2 j hjl
                  rw [Nat.zero_add] at z0 z1
                  clear hat HOA z1
                  obtain ⟨fn, hfn⟩ : ∃ z, (anth F j).name = z := ⟨_, rfl⟩
                  rw [hfn] at z0
                  have HFN := Lib.hid hfn
                  clear hfn
                  cases hls : Op.bytesLess fn.toList nm.toList
                  · have HLj : Hid (j < F.length → ltS (anth F j).name nm = false) := fun _ => by rw [HFN.out]; exact hls
                    go_wp2_with fail
                    clear z0
                    obtain ⟨x9, hx9⟩ : ∃ z, some (⟨g, 0, none⟩ : Addr) = z := ⟨_, rfl⟩
                    rw [hx9] at HOU ⊢
                    clear hx9
                    generalize wr = U at *
                    have HJ0 := Lib.hid hj
                    have HTL : Hid ((F.take j).length = j) := by unfold Hid; rw [List.length_take]; omega
                    have hsl1 := run_head x9 F.length c9 j hj HOU.out.cap.1
                    obtain ⟨y9, c2, hsl2, hy9⟩ := run_tail x9 F.length c9 j hj HOU.out.cap.1
                    have HDL0 : Hid ((F.drop j).length = F.length - j) := by unfold Hid; rw [List.length_drop]
                    obtain ⟨m9, hm9⟩ : ∃ z, F.length - j = z := ⟨_, rfl⟩
                    rw [hm9] at hsl2 HDL0
                    have HDL := HDL0
                    have HM9 : Hid (m9 ≤ F.length) := by unfold Hid; omega
                    have HY9 := Lib.hid hy9
                    clear hm9 hy9 HDL0
                    obtain ⟨nF, hnF⟩ : ∃ z, F.length = z := ⟨_, rfl⟩
                    rw [hnF] at hsl1 hsl2 hj HF6 HM9 ⊢
                    have HNF := Lib.hid hnF
                    go_wp2_with fail
                    go_region_held3 (fun _ => True) (first | go_keep | trivial)
                      ((first
                        | (have := HA7; refine step_full _ rfl (.tmp 71) (.tmp 81) (by rfl) x9 j (F.take j) (by rfl) HTL.out (by exact head_full (HOU.out.below HB7.out) HJ0.out) g7 ([(⟨nm, sv⟩ : Am)] ++ F.drop j).length c7 ([(⟨nm, sv⟩ : Am)] ++ F.drop j) (by rfl) HA7.out rfl (by simp) (by have := HF6.out; simp; omega) ?_
                           intro v8 w8 hg8 hb8
                           have HG8 := Lib.hid hg8
                           have HB8 := Lib.hid (HB7.out.trans (hb8.mono HB7.out.size))
                           clear hg8 hb8)
                        | (refine step_am _ rfl (.tmp 77) (.tmp 80) (by rfl) U.heap.size (.slice (some ⟨U.heap.size, 0, none⟩) 1 1) [(⟨nm, sv⟩ : Am)] (by rfl) (by first | exact GrowA.one U.drew ⟨nm, sv⟩ _ (Nat.le_refl _) | exact GrowA.one U ⟨nm, sv⟩ _ (Nat.le_refl _)) y9 m9 c2 (F.drop j) (by rfl) (by exact tail_came (HOU.out.below ((Below.refl U.heap.size U).drew.alloc (Nat.le_refl _) (.cells #[.string nm, .int .i64 sv] 56))) HY9.out) HDL.out (by have := HF6.out; have := HM9.out; simp; omega) (by simp) ?_
                           intro v7 w7 hg7 hb7
                           rcases hg7.form with ⟨_, hbad⟩ | ⟨g7, c7, rfl, _, hat7, _⟩
                           · cases hbad
                           have HB7 := Lib.hid (((Below.refl U.heap.size U).drew.alloc (Nat.le_refl _) (.cells #[.string nm, .int .i64 sv] 56)).trans hb7)
                           have HA7 := Lib.hid hat7
                           clear hg7 hb7 hat7)))
                    have HOUT : Hid (OutT w w8 v8 (insA j ⟨nm, sv⟩ F) (pre ++ ps.take (k + 1)) P) := by
                      obtain ⟨x8, c8, e8, ho8⟩ := OwnA.of HG8.out
                      refine ⟨x8, c8, ?_, ?_, ?_, ?_, ?_⟩
                      · rw [e8]; rfl
                      · exact ho8.mono (Nat.le_trans HBU.out.size HB7.out.size)
                      · exact HINS.out j HJ0.out HLs.out HLj.out HNj.out
                      · rw [insA_len, HTK.out, ← List.append_assoc, List.length_append]
                        have := HFL.out
                        simp at this ⊢
                        omega
                      · exact HBU.out.trans (HB8.out.mono HBU.out.size)
                    go_wp2_with fail
                    go_roundw
                    case rel => exact ⟨k + 1, insA j ⟨nm, sv⟩ F, by omega, by go_num, HOUT.out⟩
                    case measure => simp [intOf]; omega
                  · go_wp2_with fail
                    go_roundw
                    case rel => exact ⟨j + 1, by omega, by go_num, fun z hz => by
                      by_cases e : z = j
                      · subst e; rw [HFN.out]; exact hls
                      · exact HLs.out z (by omega), by first | trivial | rfl⟩
                    case measure => simp [intOf]; omega
                · have hnl : decide ((j : Int) < (F.length : Int)) = false := decide_eq_false (by omega)
                  have HLj : Hid (j < F.length → ltS (anth F j).name nm = false) := fun q => absurd q hjl
                  go_wp2_with fail
                  generalize wr = U at *
                  have HJ0 := Lib.hid hj
                  have HTL : Hid ((F.take j).length = j) := by unfold Hid; rw [List.length_take]; omega
                  have hsl1 := run_head x9 F.length c9 j hj HOU.out.cap.1
                  obtain ⟨y9, c2, hsl2, hy9⟩ := run_tail x9 F.length c9 j hj HOU.out.cap.1
                  have HDL0 : Hid ((F.drop j).length = F.length - j) := by unfold Hid; rw [List.length_drop]
                  obtain ⟨m9, hm9⟩ : ∃ z, F.length - j = z := ⟨_, rfl⟩
                  rw [hm9] at hsl2 HDL0
                  have HDL := HDL0
                  have HM9 : Hid (m9 ≤ F.length) := by unfold Hid; omega
                  have HY9 := Lib.hid hy9
                  clear hm9 hy9 HDL0
                  obtain ⟨nF, hnF⟩ : ∃ z, F.length = z := ⟨_, rfl⟩
                  rw [hnF] at hsl1 hsl2 hj HF6 HM9 ⊢
                  have HNF := Lib.hid hnF
                  go_wp2_with fail
                  go_region_held3 (fun _ => True) (first | go_keep | trivial)
                    ((first
                      | (have := HA7; refine step_full _ rfl (.tmp 71) (.tmp 81) (by rfl) x9 j (F.take j) (by rfl) HTL.out (by exact head_full (HOU.out.below HB7.out) HJ0.out) g7 ([(⟨nm, sv⟩ : Am)] ++ F.drop j).length c7 ([(⟨nm, sv⟩ : Am)] ++ F.drop j) (by rfl) HA7.out rfl (by simp) (by have := HF6.out; simp; omega) ?_
                         intro v8 w8 hg8 hb8
                         have HG8 := Lib.hid hg8
                         have HB8 := Lib.hid (HB7.out.trans (hb8.mono HB7.out.size))
                         clear hg8 hb8)
                      | (refine step_am _ rfl (.tmp 77) (.tmp 80) (by rfl) U.heap.size (.slice (some ⟨U.heap.size, 0, none⟩) 1 1) [(⟨nm, sv⟩ : Am)] (by rfl) (by first | exact GrowA.one U.drew ⟨nm, sv⟩ _ (Nat.le_refl _) | exact GrowA.one U ⟨nm, sv⟩ _ (Nat.le_refl _)) y9 m9 c2 (F.drop j) (by rfl) (by exact tail_came (HOU.out.below ((Below.refl U.heap.size U).drew.alloc (Nat.le_refl _) (.cells #[.string nm, .int .i64 sv] 56))) HY9.out) HDL.out (by have := HF6.out; have := HM9.out; simp; omega) (by simp) ?_
                         intro v7 w7 hg7 hb7
                         rcases hg7.form with ⟨_, hbad⟩ | ⟨g7, c7, rfl, _, hat7, _⟩
                         · cases hbad
                         have HB7 := Lib.hid (((Below.refl U.heap.size U).drew.alloc (Nat.le_refl _) (.cells #[.string nm, .int .i64 sv] 56)).trans hb7)
                         have HA7 := Lib.hid hat7
                         clear hg7 hb7 hat7)))
                  have HOUT : Hid (OutT w w8 v8 (insA j ⟨nm, sv⟩ F) (pre ++ ps.take (k + 1)) P) := by
                    obtain ⟨x8, c8, e8, ho8⟩ := OwnA.of HG8.out
                    refine ⟨x8, c8, ?_, ?_, ?_, ?_, ?_⟩
                    · rw [e8]; rfl
                    · exact ho8.mono (Nat.le_trans HBU.out.size HB7.out.size)
                    · exact HINS.out j HJ0.out HLs.out HLj.out HNj.out
                    · rw [insA_len, HTK.out, ← List.append_assoc, List.length_append]
                      have := HFL.out
                      simp at this ⊢
                      omega
                    · exact HBU.out.trans (HB8.out.mono HBU.out.size)
                  go_wp2_with fail
                  go_roundw
                  case rel => exact ⟨k + 1, insA j ⟨nm, sv⟩ F, by omega, by go_num, HOUT.out⟩
                  case measure => simp [intOf]; omega
        · have hke : k = m := by omega
          subst hke
          have hnl : decide ((k : Int) < (k : Int)) = false := decide_eq_false (by omega)
          have HEQ : Hid (pre ++ ps.take k = vis l (i + 1)) := by unfold Hid; rw [HST.out, List.take_of_length_le (by rw [HLM.out]; exact Nat.le_refl _)]
          go_wp2_with fail
          go_roundw
          case rel => exact ⟨i + 1, F, by omega, by go_num, by rw [← HEQ.out]; exact ⟨x9, c9, rfl, HOW.out, HIV.out, HFL.out, HBW.out⟩⟩
          case measure => simp [intOf]; omega
    · have hie : i = n := by omega
      subst hie
      have hnl : decide ((i : Int) < (i : Int)) = false := decide_eq_false (by omega)
      obtain ⟨x9, c9, rfl, hown, hinv, hlen, hbw⟩ := hout
      have HAMS := Lib.hid (HALL.out F0 hinv)
      have HLL : Hid (F0.length ≤ 2000) := by unfold Hid; have := HPB.out i (Nat.le_refl _); omega
      have HCM := Lib.hid hown.came
      have HB3 := Lib.hid hbw
      clear hown hinv hlen hbw
      go_wp2_with fail
      go_ret
      exact ⟨_, F0, rfl, HAMS.out, HLL.out, ⟨x9, c9, rfl, HCM.out⟩, HB3.out⟩
end Go.Proofs.Ytdgcfakbmhchdaa
