/-
  Promises M2, M4: the walk of the reference's GatherTotals.
-/
import Derived.Test.YtfamnlaignjhkaaORef
namespace Go.Proofs.Ytfamnlaignjhkaa
open Go.RowKit Go.Sort

/-- The totals l, those from a place on with a sign. -/
def SgnIs (f : Nat) (s : Int) (l sg : List Tt) : Prop := sg.length = l.length ∧ ∀ j, j < l.length → onth sg j = if f ≤ j then ⟨(onth l j).per, (onth l j).nam, (onth l j).yr, s * (onth l j).mon⟩ else onth l j
/-- So far: the list that is made, where it lies. -/
def OutIs (w wr : World) (v : Value) (F L : List Tt) : Prop := OwnO wr w.heap.size v F ∧ InvT F L ∧ F.length ≤ L.length ∧ (F.length = 0 → v = .slice none 0 0) ∧ Go.RowKit.Below w.heap.size w wr
set_option maxRecDepth 100000 in
set_option maxHeartbeats 4000000 in
theorem gatherTotals_ref (a : Option Addr) (n cap : Nat) (l : List Tt) (f : Nat) (s : Int) (sg : List Tt) (w : World) (hc : CameO w a l) (hn : l.length = n) (h8 : n ≤ 800) (hs : s = 1 ∨ s = -1) (hsg : SgnIs f s l sg) (hok : ∀ t ∈ sg, OkT t) :
    Calls Try.prog 16 #[.slice a n cap, .int .i64 (f : Int), .int .i64 s] w fun e w' => ∃ (v : Value) (er : Int), e = .returned (.tuple #[v, .int .i64 er]) ∧ ListRet (sumsOf sg) w' v er ∧ Go.RowKit.Below w.heap.size w w' := by
  have HO := Lib.hid (fun h0 => hc.open hn h0)
  have HN := Lib.hid hn
  have HS := Lib.hid hs
  have HSG := Lib.hid hsg
  have HOK := Lib.hid hok
  clear hc hn hs hsg hok
  go_enter Try.func16, Try.ntmps16
  go_wp2_with fail
  go_loopw [8, 9] (fun ov i wr => ∃ (k : Nat) (F : List Tt), k ≤ n ∧ i = .int .i64 k ∧ OutIs w wr ov F (sg.take k)) (fun _ i _ => n - (intOf i).toNat)
  case atStart => exact ⟨0, [], Nat.zero_le _, rfl, .inl ⟨rfl, rfl⟩, InvT.nil, Nat.zero_le _, fun _ => rfl, Below.refl _ _⟩
  case round =>
    obtain ⟨k, F, hk, rfl, hout⟩ := hrel
    by_cases hlt : k < n
    · have hlt' : (k : Int) < (n : Int) := by omega
      obtain ⟨hown, hinv, hlen, hnil, hbw⟩ := hout
      obtain ⟨x9, c9, hov, _⟩ := hown.slice
      subst hov
      have HSK : Hid (sg.take (k + 1) = sg.take k ++ [onth sg k]) := Lib.hid (otake_snoc (by rw [HSG.out.1, HN.out]; exact hlt))
      have HLEN : Hid (F.length ≤ 800) := Lib.hid (by rw [List.length_take] at hlen; omega)
      have HOT := Lib.hid (HOK.out _ (onth_mem (l := sg) (j := k) (by rw [HSG.out.1, HN.out]; exact hlt)))
      have HSJ := Lib.hid (HSG.out.2 k (by rw [HN.out]; exact hlt))
      obtain ⟨b, off, rfl, hcell⟩ := HO.out (by omega)
      obtain ⟨x0, x1, x2, x3⟩ := hcell wr hbw k hlt
      clear hcell
      obtain ⟨L, hL⟩ : ∃ L, sg.take k = L := ⟨_, rfl⟩
      obtain ⟨u, hu⟩ : ∃ u, onth l k = u := ⟨_, rfl⟩
      obtain ⟨t, ht⟩ : ∃ t, onth sg k = t := ⟨_, rfl⟩
      have HLB : Hid (∀ x ∈ L ++ [t], OkT x) := fun x hx => HOK.out x (by
        rw [← hL, ← ht, ← HSK.out] at hx
        exact List.mem_of_mem_take hx)
      have HLL : Hid (L.length ≤ 800) := Lib.hid (by rw [← hL, List.length_take]; omega)
      rw [hu] at x0 x1 x2 x3 HSJ
      rw [ht] at HSK HOT HSJ
      rw [hL] at hinv hlen HSK
      clear hL hu ht
      have HIV := Lib.hid hinv
      have HFL := Lib.hid hlen
      have HNIL := Lib.hid hnil
      have hm63 : F.length ≤ 9223372036854775807 := by have := HLEN.out; omega
      by_cases hfk : f ≤ k
      · have hfk' : (f : Int) ≤ (k : Int) := by omega
        rw [if_pos hfk] at HSJ
        have hmu : IntKind.i64.wrap (s * u.mon) = s * u.mon := IntWalk.i64_in _ (by
          have e := HOT.out
          rw [HSJ.out] at e
          obtain ⟨_, _, _, _, h5, h6, _⟩ := e
          simp only at h5 h6
          omega)
        clear hinv hlen hnil
        go_wp2_with fail
        have HTW : Hid (TtIs (wr.alloc (.cells #[.int .i64 u.per, .string u.nam, .int .i64 u.yr, .int .i64 (s * u.mon)] 50)) wr.heap.size 0 t) := by
          unfold Hid
          rw [HSJ.out]
          refine ⟨?_, ?_, ?_, ?_⟩ <;> simp
        have HBX := Lib.hid (hbw.alloc hbw.size (.cells #[.int .i64 u.per, .string u.nam, .int .i64 u.yr, .int .i64 (s * u.mon)] 50))
        have HOW := Lib.hid (hown.below (obelow_box wr (.cells #[.int .i64 u.per, .string u.nam, .int .i64 u.yr, .int .i64 (s * u.mon)] 50)))
        have HLT : Hid (wr.heap.size < (wr.alloc (.cells #[.int .i64 u.per, .string u.nam, .int .i64 u.yr, .int .i64 (s * u.mon)] 50)).heap.size) := Lib.hid (by simp)
        clear hown hbw x0 x1 x2 x3
        generalize (wr.alloc (.cells #[.int .i64 u.per, .string u.nam, .int .i64 u.yr, .int .i64 (s * u.mon)] 50)) = W at HTW HBX HOW HLT ⊢
        generalize wr.heap.size = bt at HTW HLT ⊢
        go_loopw [11] (fun q wq => ∃ j : Nat, j ≤ F.length ∧ q = .int .i64 j ∧ (∀ i, i < j → aheadT (onth F i) t = true) ∧ Go.RowKit.Below W.heap.size W wq) (fun q _ => F.length - (intOf q).toNat)
        case atStart => exact ⟨0, Nat.zero_le _, rfl, fun i hi => absurd hi (by omega), Below.refl _ _⟩
        case round =>
          obtain ⟨j, hj, rfl, hless, hbq⟩ := hrel
          have HLs := Lib.hid hless
          have HBQ := Lib.hid hbq
          have HT2 := Lib.hid (HTW.out.below hbq HLT.out)
          have HO2 := Lib.hid (HOW.out.below hbq)
          clear hless hbq
          by_cases hjl : j < F.length
          · have hjl' : (j : Int) < (F.length : Int) := by omega
            have hj00 : (0 : Int) ≤ (j : Int) := by omega
            obtain ⟨g, rfl, _, hBg, hat, hcl, hcm, hfr⟩ := HO2.out.at (by omega)
            have HAt := Lib.hid hat
            have HFR := Lib.hid (hfr j hjl)
            have HBG := Lib.hid hBg
            have HCL := Lib.hid hcl
            obtain ⟨y0, y1, y2, y3⟩ := HT2.out
            rw [Nat.zero_add] at y1 y2 y3
            obtain ⟨z0, z1, z2, z3⟩ := hat.2 j hjl
            rw [Nat.zero_add] at z0 z1 z2 z3
            clear hat hfr hBg hcl hcm
            have k0 := cell_regrown y0
            have k1 := cell_regrown y1
            have k2 := cell_regrown y2
            have k3 := cell_regrown y3
            have q0 := cell_regrown z0
            have q1 := cell_regrown z1
            have q2 := cell_regrown z2
            have q3 := cell_regrown z3
            have HK := Lib.hid (fun w => ahead_ref (onth F j).per (onth F j).yr (onth F j).mon t.per t.yr t.mon (onth F j).nam t.nam w)
            cases hah : aheadT (onth F j) t
            · have hah' : aheadT ⟨(onth F j).per, (onth F j).nam, (onth F j).yr, (onth F j).mon⟩ ⟨t.per, t.nam, t.yr, t.mon⟩ = false := hah
              rw [hah'] at HK
              have HAH := Lib.hid hah
              clear hah hah'
              go_wp2_with fail
              refine wp_region_quiet_below (by kernel_rfl) (by kernel_rfl) ?_
              repeat (quiet_step (exact Calls.regrown_of (HK.out _)))
              refine wpQuiet_nil ?_
              intro _ hw'
              obtain ⟨⟨dq, osq⟩, hw''⟩ := hw'
              subst hw''
              have HB3 := Lib.hid (HBQ.out.trans ((below_regrown wr dq osq).mono HBQ.out.size))
              clear k0 k1 k2 k3 q0 q1 q2 q3 y0 y1 y2 y3 z0 z1 z2 z3 HK
              have y0 := cell_regrown HT2.out.1 dq osq
              have y1 := cell_regrown HT2.out.2.1 dq osq
              have y2 := cell_regrown HT2.out.2.2.1 dq osq
              have y3 := cell_regrown HT2.out.2.2.2 dq osq
              have HAt3 := Lib.hid (HAt.out.below (below_regrown wr dq osq) HAt.out.1)
              have HO3 := Lib.hid (HO2.out.below (below_regrown wr dq osq))
              have HFR3 : Hid ((grow (redrawn wr dq) osq).frozen? ⟨g, j * 4 + 3, none⟩ = false) := Lib.hid (by rw [(below_regrown wr dq osq).frozen (p := ⟨g, j * 4 + 3, none⟩) HAt.out.1]; exact HFR.out)
              rw [Nat.zero_add] at y1 y2 y3
              clear HAt HO2 HFR HBQ HT2
              generalize grow (redrawn wr dq) osq = V at y0 y1 y2 y3 HAt3 HO3 HB3 HFR3 ⊢
              obtain ⟨z0, z1, z2, z3⟩ := HAt3.out.2 j hjl
              rw [Nat.zero_add] at z0 z1 z2 z3
              have k0 := cell_regrown y0
              have k1 := cell_regrown y1
              have k2 := cell_regrown y2
              have k3 := cell_regrown y3
              have q0 := cell_regrown z0
              have q1 := cell_regrown z1
              have q2 := cell_regrown z2
              have q3 := cell_regrown z3
              have HK := Lib.hid (fun w => ahead_ref t.per t.yr t.mon (onth F j).per (onth F j).yr (onth F j).mon t.nam (onth F j).nam w)
              cases hab : aheadT t (onth F j)
              · have hab' : aheadT ⟨t.per, t.nam, t.yr, t.mon⟩ ⟨(onth F j).per, (onth F j).nam, (onth F j).yr, (onth F j).mon⟩ = false := hab
                rw [hab'] at HK
                have HFI : Hid (insAt j t F = putM F j ((onth F j).mon + t.mon)) := Lib.hid (by unfold insAt; rw [if_pos ⟨hjl, hab⟩]; rfl)
                clear hab hab'
                go_wp2_with fail
                refine wp_region_quiet_below (by kernel_rfl) (by kernel_rfl) ?_
                repeat (quiet_step (exact Calls.regrown_of (HK.out _)))
                refine wpQuiet_nil ?_
                intro _ hw'
                obtain ⟨⟨dq, osq⟩, hw''⟩ := hw'
                subst hw''
                have HB4 := Lib.hid (HB3.out.trans ((below_regrown V dq osq).mono HB3.out.size))
                have HO4 := Lib.hid (HO3.out.below (below_regrown V dq osq))
                have hf4 : (grow (redrawn V dq) osq).frozen? ⟨g, j * 4 + 3, none⟩ = false := by rw [(below_regrown V dq osq).frozen (p := ⟨g, j * 4 + 3, none⟩) HAt3.out.1]; exact HFR3.out
                have y3' := k3 dq osq
                have z3' := q3 dq osq
                clear k0 k1 k2 k3 q0 q1 q2 q3 y0 y1 y2 y3 z0 z1 z2 z3 HK HAt3 HO3 HFR3
                generalize grow (redrawn V dq) osq = U at y3' z3' hf4 HO4 HB4 ⊢
                have hsm : IntKind.i64.wrap ((onth F j).mon + t.mon) = (onth F j).mon + t.mon := IntWalk.i64_in _ (by
                  have h1 := ((HIV.out.2 _).1 (onth_mem hjl)).2
                  have h2 := sumK_bound (keyT (onth F j)) (L := L) (fun x hx => HLB.out x (List.mem_append_left _ hx))
                  have h3 := HLL.out
                  obtain ⟨_, _, _, _, h5, h6, _⟩ := HOT.out
                  omega)
                have HPT := Lib.hid (OwnO.put (w := U.drew) HO4.out hjl ((onth F j).mon + t.mon))
                rw [← HFI.out] at HPT
                have HOUT : Hid (OutIs w (U.drew.setCell ⟨g, j * 4 + 3, none⟩ (.int .i64 ((onth F j).mon + t.mon))) (.slice (some ⟨g, 0, none⟩) F.length c9) (insAt j t F) (sg.take (k + 1))) := by
                  refine ⟨HPT.out, ?_, ?_, fun h => ?_, ?_⟩
                  · rw [HSK.out]
                    exact ins_step HIV.out hj HLs.out (fun _ => HAH.out)
                  · rw [HSK.out, List.length_append, HFI.out, putM_len hjl]
                    have := HFL.out
                    simp
                    omega
                  · rw [HFI.out, putM_len hjl] at h
                    omega
                  · exact ((HBX.out.trans (HB4.out.mono HBX.out.size)).drew).setCell (p := ⟨g, j * 4 + 3, none⟩) HBG.out _
                clear HPT HO4
                generalize (onth F j).mon = om at *
                go_wp2_with fail
                go_region
                go_wp2_with fail
                go_roundw
                case rel => exact ⟨k + 1, _, by omega, by go_num, HOUT.out⟩
                case measure => simp [intOf]; omega
              · have hab' : aheadT ⟨t.per, t.nam, t.yr, t.mon⟩ ⟨(onth F j).per, (onth F j).nam, (onth F j).yr, (onth F j).mon⟩ = true := hab
                rw [hab'] at HK
                have HFI : Hid (insAt j t F = F.take j ++ ([t] ++ F.drop j)) := Lib.hid (by unfold insAt; rw [if_neg (fun h => by rw [hab] at h; cases h.2)])
                clear hab hab'
                go_wp2_with fail
                refine wp_region_quiet_below (by kernel_rfl) (by kernel_rfl) ?_
                repeat (quiet_step (exact Calls.regrown_of (HK.out _)))
                refine wpQuiet_nil ?_
                intro _ hw'
                obtain ⟨⟨dq, osq⟩, hw''⟩ := hw'
                subst hw''
                have HB4 := Lib.hid (HB3.out.trans ((below_regrown V dq osq).mono HB3.out.size))
                have HAtU := Lib.hid (HAt3.out.below (below_regrown V dq osq) HAt3.out.1)
                have Y0 := k0 dq osq
                have Y1 := k1 dq osq
                have Y2 := k2 dq osq
                have Y3 := k3 dq osq
                have hbtu : bt < (grow (redrawn V dq) osq).heap.size := Nat.lt_of_lt_of_le HLT.out HB4.out.size
                have HBU := Lib.hid (HBX.out.trans (HB4.out.mono HBX.out.size))
                have HAX : Hid (j < F.length → aheadT (onth F j) t = false) := fun _ => HAH.out
                clear k0 k1 k2 k3 q0 q1 q2 q3 y0 y1 y2 y3 z0 z1 z2 z3 HK HAt3 HO3 HFR3 HB4
                generalize grow (redrawn V dq) osq = U at Y0 Y1 Y2 Y3 HAtU HBU hbtu ⊢
                have hjc : (j : Int) ≤ (c9 : Int) := by have := HCL.out; omega
                have hcj : c9 ≠ j := by have := HCL.out; omega
                have hjl2 : (j : Int) ≤ (F.length : Int) := by omega
                have hlen8 := HLEN.out
                go_wp2_with fail
                go_region_held3 (fun w' => w'.cell? ⟨bt, 0, none⟩ = some (.int .i64 t.per) ∧ w'.cell? ⟨bt, 1, none⟩ = some (.string t.nam) ∧ w'.cell? ⟨bt, 2, none⟩ = some (.int .i64 t.yr) ∧ w'.cell? ⟨bt, 3, none⟩ = some (.int .i64 t.mon)) (first | go_keep | trivial)
                  ((first
                    | (refine step_app_own _ rfl (.tmp 74) (.tmp 77) (by rfl) U.heap.size (.slice (some ⟨U.heap.size, 0, none⟩) 1 1) [t] (by rfl) (by first | exact GrowO.one U.drew _ _ _ _ _ (Nat.le_refl _) | exact GrowO.one U _ _ _ _ _ (Nat.le_refl _)) ⟨g, j * 4, none⟩ (F.length - j) (c9 - j) (F.drop j) (by rfl) ((fun h => Or.inr ⟨g, j * 4, rfl, OAt.drop h j⟩) (HAtU.out.below ((Below.refl U.heap.size U).drew.alloc (Nat.le_refl _) (.cells #[.int .i64 t.per, .string t.nam, .int .i64 t.yr, .int .i64 t.mon] 50)) HAtU.out.1)) (by first | rfl | simp) (by simp; omega) (by simp) ?_
                       intro v80 w80 hg80 hb80 _
                       rcases hg80.form with ⟨_, hbad⟩ | ⟨g8, c8, rfl, _, hat8, _⟩
                       · cases hbad
                       have HB80 := Lib.hid (((Below.refl U.heap.size U).drew.alloc (Nat.le_refl _) (.cells #[.int .i64 t.per, .string t.nam, .int .i64 t.yr, .int .i64 t.mon] 50)).trans hb80)
                       have HA80 := Lib.hid hat8
                       have r0 := (HB80.out.cell (p := ⟨bt, 0, none⟩) hbtu).trans Y0
                       have r1 := (HB80.out.cell (p := ⟨bt, 1, none⟩) hbtu).trans Y1
                       have r2 := (HB80.out.cell (p := ⟨bt, 2, none⟩) hbtu).trans Y2
                       have r3 := (HB80.out.cell (p := ⟨bt, 3, none⟩) hbtu).trans Y3
                       clear hg80 hb80 hat8)
                    | (refine step_app_new _ rfl (.tmp 72) (.tmp 78) (by rfl) g j (F.take j) (by rfl) (by first | rfl | (rw [List.length_take]; omega)) (by first | exact (HAtU.out.below HB80.out HAtU.out.1).take _ | exact HAtU.out.below HB80.out HAtU.out.1) g8 ([t] ++ F.drop j).length c8 ([t] ++ F.drop j) (by rfl) HA80.out rfl (by simp) (by simp; omega) ?_
                       intro v81 w81 hg81 hb81
                       have HG81 := Lib.hid hg81
                       have HB81 := Lib.hid (HB80.out.trans (hb81.mono HB80.out.size))
                       have s0 := (HB81.out.cell (p := ⟨bt, 0, none⟩) hbtu).trans Y0
                       have s1 := (HB81.out.cell (p := ⟨bt, 1, none⟩) hbtu).trans Y1
                       have s2 := (HB81.out.cell (p := ⟨bt, 2, none⟩) hbtu).trans Y2
                       have s3 := (HB81.out.cell (p := ⟨bt, 3, none⟩) hbtu).trans Y3
                       clear hg81 hb81)
                   ))
                have HOUT : Hid (OutIs w w81 v81 (insAt j t F) (sg.take (k + 1))) := by
                  refine ⟨?_, ?_, ?_, fun h => ?_, ?_⟩
                  · rw [HFI.out]
                    exact (OwnO.of HG81.out).mono (Nat.le_trans HBU.out.size HB80.out.size)
                  · rw [HSK.out]
                    exact ins_step HIV.out hj HLs.out HAX.out
                  · have := insAt_len j t F
                    rw [HSK.out, List.length_append]
                    have := HFL.out
                    simp
                    omega
                  · rw [HFI.out] at h
                    simp at h
                  · exact HBU.out.trans (HB81.out.mono HBU.out.size)
                go_wp2_with fail
                go_roundw
                case rel => exact ⟨k + 1, _, by omega, by go_num, HOUT.out⟩
                case measure => simp [intOf]; omega
            · have hah' : aheadT ⟨(onth F j).per, (onth F j).nam, (onth F j).yr, (onth F j).mon⟩ ⟨t.per, t.nam, t.yr, t.mon⟩ = true := hah
              rw [hah'] at HK
              have HAH := Lib.hid hah
              clear hah hah'
              go_wp2_with fail
              refine wp_region_quiet_below (by kernel_rfl) (by kernel_rfl) ?_
              repeat (quiet_step (exact Calls.regrown_of (HK.out _)))
              refine wpQuiet_nil ?_
              intro _ hw'
              obtain ⟨⟨dq, osq⟩, hw''⟩ := hw'
              subst hw''
              go_wp2_with fail
              go_roundw
              case rel => exact ⟨j + 1, by omega, by go_num, fun i hi => by rcases (show i < j ∨ i = j by omega) with e | rfl; exact HLs.out i e; exact HAH.out, HBQ.out.trans ((below_regrown wr dq osq).mono HBQ.out.size)⟩
              case measure => simp [intOf]; omega
          · obtain rfl : j = F.length := by omega
            have hnl : decide ((F.length : Int) < (F.length : Int)) = false := decide_eq_false (by omega)
            have HFI : Hid (insAt F.length t F = F ++ [t]) := Lib.hid (by unfold insAt; rw [if_neg (fun h => absurd h.1 (by omega)), List.take_length, List.drop_length]; rfl)
            have HAX : Hid (F.length < F.length → aheadT (onth F F.length) t = false) := fun h => absurd h (by omega)
            obtain ⟨y0, y1, y2, y3⟩ := HT2.out
            rw [Nat.zero_add] at y1 y2 y3
            have HBU0 := Lib.hid (HBX.out.trans (HBQ.out.mono HBX.out.size))
            have hbt0 : bt < wr.heap.size := Nat.lt_of_lt_of_le HLT.out HBQ.out.size
            have hlen8 := HLEN.out
            clear hjl
            go_wp2_with fail
            go_quiet (fail)
            go_wp2_with fail
            go_quiet (fail)
            go_wp2_with fail
            generalize hU : World.drewN (World.drewN wr _) _ = U
            have Y0 : U.cell? ⟨bt, 0, none⟩ = some (.int .i64 t.per) := by rw [← hU]; exact y0
            have Y1 : U.cell? ⟨bt, 1, none⟩ = some (.string t.nam) := by rw [← hU]; exact y1
            have Y2 : U.cell? ⟨bt, 2, none⟩ = some (.int .i64 t.yr) := by rw [← hU]; exact y2
            have Y3 : U.cell? ⟨bt, 3, none⟩ = some (.int .i64 t.mon) := by rw [← hU]; exact y3
            have hbtu : bt < U.heap.size := by rw [← hU]; exact hbt0
            have HBU : Hid (Go.RowKit.Below w.heap.size w U) := Lib.hid (by rw [← hU]; exact obelow_dN (obelow_dN HBU0.out _) _)
            have HOU : Hid (OwnO U w.heap.size (.slice x9 F.length c9) F) := Lib.hid (by rw [← hU]; exact HO2.out)
            clear hU y0 y1 y2 y3 hbt0 HBU0 HO2 HT2 HBQ
            by_cases hF0 : F.length = 0
            · have hsl := HNIL.out hF0
              have hFn : F = [] := List.eq_nil_of_length_eq_zero hF0
              subst hFn
              injection hsl with e1 _ e3
              subst e1 e3
              clear HOU hF0
              rw [show ([] : List Tt).length = 0 from rfl]
              go_region_held3 (fun w' => w'.cell? ⟨bt, 0, none⟩ = some (.int .i64 t.per) ∧ w'.cell? ⟨bt, 1, none⟩ = some (.string t.nam) ∧ w'.cell? ⟨bt, 2, none⟩ = some (.int .i64 t.yr) ∧ w'.cell? ⟨bt, 3, none⟩ = some (.int .i64 t.mon)) (first | go_keep | trivial)
                ((first
                  | (refine step_app_run _ rfl (.tmp 74) (.tmp 77) 22 (by rfl) (.slice (some ⟨U.heap.size, 0, none⟩) 1 1) (.slice none 0 0) (by rfl) (by rfl) _ _ (run_onto_none _ _ _) ?_)
                  | (refine step_app_own _ rfl (.tmp 72) (.tmp 78) (by rfl) U.heap.size (.slice none 0 0) [] (by rfl) (GrowO.nil _ _) ⟨U.heap.size, 0, none⟩ 1 1 [t] (by rfl) (by first | exact Or.inr ⟨_, _, rfl, oat_box U.drew _ _ _ _⟩ | exact Or.inr ⟨_, _, rfl, oat_box U _ _ _ _⟩) rfl (by simp) (by simp) ?_
                     intro v81 w81 hg81 hb81 _
                     have HG81 := Lib.hid hg81
                     have HB81 := Lib.hid (((Below.refl U.heap.size U).drew.alloc (Nat.le_refl _) (.cells #[.int .i64 t.per, .string t.nam, .int .i64 t.yr, .int .i64 t.mon] 50)).trans hb81)
                     have s0 := (HB81.out.cell (p := ⟨bt, 0, none⟩) hbtu).trans Y0
                     have s1 := (HB81.out.cell (p := ⟨bt, 1, none⟩) hbtu).trans Y1
                     have s2 := (HB81.out.cell (p := ⟨bt, 2, none⟩) hbtu).trans Y2
                     have s3 := (HB81.out.cell (p := ⟨bt, 3, none⟩) hbtu).trans Y3
                     clear hg81 hb81)
                 ))
              have HOUT : Hid (OutIs w w81 v81 (insAt 0 t []) (sg.take (k + 1))) := by
                refine ⟨?_, ?_, ?_, fun h => ?_, ?_⟩
                · exact (OwnO.of HG81.out).mono HBU.out.size
                · rw [HSK.out]
                  exact ins_step HIV.out hj HLs.out HAX.out
                · have := insAt_len 0 t []
                  rw [HSK.out, List.length_append]
                  simp at this ⊢
                  omega
                · simp [insAt] at h
                · exact HBU.out.trans (HB81.out.mono HBU.out.size)
              go_wp2_with fail
              go_roundw
              case rel => exact ⟨k + 1, _, by omega, by go_num, HOUT.out⟩
              case measure => simp [intOf]; omega
            · obtain ⟨g, rfl, _, hBg, hat, hcl, hcm, _⟩ := HOU.out.at (by omega)
              have HAtU := Lib.hid hat
              have hj00 : (0 : Int) ≤ (F.length : Int) := by omega
              have hjl2 : (F.length : Int) ≤ (F.length : Int) := by omega
              clear hat HOU hF0
              by_cases hcF : c9 = F.length
              · subst hcF
                clear hcl hcm
                go_region_held3 (fun w' => w'.cell? ⟨bt, 0, none⟩ = some (.int .i64 t.per) ∧ w'.cell? ⟨bt, 1, none⟩ = some (.string t.nam) ∧ w'.cell? ⟨bt, 2, none⟩ = some (.int .i64 t.yr) ∧ w'.cell? ⟨bt, 3, none⟩ = some (.int .i64 t.mon)) (first | go_keep | trivial)
                  ((first
                    | (refine step_app_own _ rfl (.tmp 74) (.tmp 77) (by rfl) U.heap.size (.slice (some ⟨U.heap.size, 0, none⟩) 1 1) [t] (by rfl) (by first | exact GrowO.one U.drew _ _ _ _ _ (Nat.le_refl _) | exact GrowO.one U _ _ _ _ _ (Nat.le_refl _)) ⟨g, 0, none⟩ 0 (0) [] (by rfl) (Or.inl rfl) rfl (by simp) (by simp) ?_
                       intro v80 w80 hg80 hb80 _
                       rw [List.append_nil] at hg80
                       rcases hg80.form with ⟨_, hbad⟩ | ⟨g8, c8, rfl, _, hat8, _⟩
                       · cases hbad
                       have HB80 := Lib.hid (((Below.refl U.heap.size U).drew.alloc (Nat.le_refl _) (.cells #[.int .i64 t.per, .string t.nam, .int .i64 t.yr, .int .i64 t.mon] 50)).trans hb80)
                       have HA80 := Lib.hid hat8
                       have r0 := (HB80.out.cell (p := ⟨bt, 0, none⟩) hbtu).trans Y0
                       have r1 := (HB80.out.cell (p := ⟨bt, 1, none⟩) hbtu).trans Y1
                       have r2 := (HB80.out.cell (p := ⟨bt, 2, none⟩) hbtu).trans Y2
                       have r3 := (HB80.out.cell (p := ⟨bt, 3, none⟩) hbtu).trans Y3
                       clear hg80 hb80 hat8)
                    | (refine step_app_new _ rfl (.tmp 72) (.tmp 78) (by rfl) g F.length F (by rfl) rfl (HAtU.out.below HB80.out HAtU.out.1) g8 1 c8 [t] (by rfl) HA80.out rfl (by omega) (by omega) ?_
                       intro v81 w81 hg81 hb81
                       have HG81 := Lib.hid hg81
                       have HB81 := Lib.hid (HB80.out.trans (hb81.mono HB80.out.size))
                       have s0 := (HB81.out.cell (p := ⟨bt, 0, none⟩) hbtu).trans Y0
                       have s1 := (HB81.out.cell (p := ⟨bt, 1, none⟩) hbtu).trans Y1
                       have s2 := (HB81.out.cell (p := ⟨bt, 2, none⟩) hbtu).trans Y2
                       have s3 := (HB81.out.cell (p := ⟨bt, 3, none⟩) hbtu).trans Y3
                       clear hg81 hb81)
                   ))
                have HOUT : Hid (OutIs w w81 v81 (insAt F.length t F) (sg.take (k + 1))) := by
                  refine ⟨?_, ?_, ?_, fun h => ?_, ?_⟩
                  · rw [HFI.out]
                    exact (OwnO.of HG81.out).mono (Nat.le_trans HBU.out.size HB80.out.size)
                  · rw [HSK.out]
                    exact ins_step HIV.out hj HLs.out HAX.out
                  · have := insAt_len F.length t F
                    rw [HSK.out, List.length_append]
                    have := HFL.out
                    simp
                    omega
                  · rw [HFI.out] at h
                    simp at h
                  · exact HBU.out.trans (HB81.out.mono HBU.out.size)
                go_wp2_with fail
                go_roundw
                case rel => exact ⟨k + 1, _, by omega, by go_num, HOUT.out⟩
                case measure => simp [intOf]; omega
              · have hjc : (F.length : Int) ≤ (c9 : Int) := by omega
                go_region_held3 (fun w' => w'.cell? ⟨bt, 0, none⟩ = some (.int .i64 t.per) ∧ w'.cell? ⟨bt, 1, none⟩ = some (.string t.nam) ∧ w'.cell? ⟨bt, 2, none⟩ = some (.int .i64 t.yr) ∧ w'.cell? ⟨bt, 3, none⟩ = some (.int .i64 t.mon)) (first | go_keep | trivial)
                  ((first
                    | (refine step_app_own _ rfl (.tmp 74) (.tmp 77) (by rfl) U.heap.size (.slice (some ⟨U.heap.size, 0, none⟩) 1 1) [t] (by rfl) (by first | exact GrowO.one U.drew _ _ _ _ _ (Nat.le_refl _) | exact GrowO.one U _ _ _ _ _ (Nat.le_refl _)) ⟨g, F.length * 4, none⟩ 0 (c9 - F.length) [] (by rfl) (Or.inl rfl) rfl (by simp) (by simp) ?_
                       intro v80 w80 hg80 hb80 _
                       rw [List.append_nil] at hg80
                       rcases hg80.form with ⟨_, hbad⟩ | ⟨g8, c8, rfl, _, hat8, _⟩
                       · cases hbad
                       have HB80 := Lib.hid (((Below.refl U.heap.size U).drew.alloc (Nat.le_refl _) (.cells #[.int .i64 t.per, .string t.nam, .int .i64 t.yr, .int .i64 t.mon] 50)).trans hb80)
                       have HA80 := Lib.hid hat8
                       have r0 := (HB80.out.cell (p := ⟨bt, 0, none⟩) hbtu).trans Y0
                       have r1 := (HB80.out.cell (p := ⟨bt, 1, none⟩) hbtu).trans Y1
                       have r2 := (HB80.out.cell (p := ⟨bt, 2, none⟩) hbtu).trans Y2
                       have r3 := (HB80.out.cell (p := ⟨bt, 3, none⟩) hbtu).trans Y3
                       clear hg80 hb80 hat8)
                    | (refine step_app_new _ rfl (.tmp 72) (.tmp 78) (by rfl) g F.length F (by rfl) rfl (HAtU.out.below HB80.out HAtU.out.1) g8 1 c8 [t] (by rfl) HA80.out rfl (by omega) (by omega) ?_
                       intro v81 w81 hg81 hb81
                       have HG81 := Lib.hid hg81
                       have HB81 := Lib.hid (HB80.out.trans (hb81.mono HB80.out.size))
                       have s0 := (HB81.out.cell (p := ⟨bt, 0, none⟩) hbtu).trans Y0
                       have s1 := (HB81.out.cell (p := ⟨bt, 1, none⟩) hbtu).trans Y1
                       have s2 := (HB81.out.cell (p := ⟨bt, 2, none⟩) hbtu).trans Y2
                       have s3 := (HB81.out.cell (p := ⟨bt, 3, none⟩) hbtu).trans Y3
                       clear hg81 hb81)
                   ))
                have HOUT : Hid (OutIs w w81 v81 (insAt F.length t F) (sg.take (k + 1))) := by
                  refine ⟨?_, ?_, ?_, fun h => ?_, ?_⟩
                  · rw [HFI.out]
                    exact (OwnO.of HG81.out).mono (Nat.le_trans HBU.out.size HB80.out.size)
                  · rw [HSK.out]
                    exact ins_step HIV.out hj HLs.out HAX.out
                  · have := insAt_len F.length t F
                    rw [HSK.out, List.length_append]
                    have := HFL.out
                    simp
                    omega
                  · rw [HFI.out] at h
                    simp at h
                  · exact HBU.out.trans (HB81.out.mono HBU.out.size)
                go_wp2_with fail
                go_roundw
                case rel => exact ⟨k + 1, _, by omega, by go_num, HOUT.out⟩
                case measure => simp [intOf]; omega
      · have hfk' : ¬ ((f : Int) ≤ (k : Int)) := by omega
        rw [if_neg hfk] at HSJ
        clear hinv hlen hnil
        go_wp2_with fail
        have HTW : Hid (TtIs (wr.alloc (.cells #[.int .i64 u.per, .string u.nam, .int .i64 u.yr, .int .i64 u.mon] 50)) wr.heap.size 0 t) := by
          unfold Hid
          rw [HSJ.out]
          refine ⟨?_, ?_, ?_, ?_⟩ <;> simp
        have HBX := Lib.hid (hbw.alloc hbw.size (.cells #[.int .i64 u.per, .string u.nam, .int .i64 u.yr, .int .i64 u.mon] 50))
        have HOW := Lib.hid (hown.below (obelow_box wr (.cells #[.int .i64 u.per, .string u.nam, .int .i64 u.yr, .int .i64 u.mon] 50)))
        have HLT : Hid (wr.heap.size < (wr.alloc (.cells #[.int .i64 u.per, .string u.nam, .int .i64 u.yr, .int .i64 u.mon] 50)).heap.size) := Lib.hid (by simp)
        clear hown hbw x0 x1 x2 x3
        generalize (wr.alloc (.cells #[.int .i64 u.per, .string u.nam, .int .i64 u.yr, .int .i64 u.mon] 50)) = W at HTW HBX HOW HLT ⊢
        generalize wr.heap.size = bt at HTW HLT ⊢
        go_loopw [11] (fun q wq => ∃ j : Nat, j ≤ F.length ∧ q = .int .i64 j ∧ (∀ i, i < j → aheadT (onth F i) t = true) ∧ Go.RowKit.Below W.heap.size W wq) (fun q _ => F.length - (intOf q).toNat)
        case atStart => exact ⟨0, Nat.zero_le _, rfl, fun i hi => absurd hi (by omega), Below.refl _ _⟩
        case round =>
          obtain ⟨j, hj, rfl, hless, hbq⟩ := hrel
          have HLs := Lib.hid hless
          have HBQ := Lib.hid hbq
          have HT2 := Lib.hid (HTW.out.below hbq HLT.out)
          have HO2 := Lib.hid (HOW.out.below hbq)
          clear hless hbq
          by_cases hjl : j < F.length
          · have hjl' : (j : Int) < (F.length : Int) := by omega
            have hj00 : (0 : Int) ≤ (j : Int) := by omega
            obtain ⟨g, rfl, _, hBg, hat, hcl, hcm, hfr⟩ := HO2.out.at (by omega)
            have HAt := Lib.hid hat
            have HFR := Lib.hid (hfr j hjl)
            have HBG := Lib.hid hBg
            have HCL := Lib.hid hcl
            obtain ⟨y0, y1, y2, y3⟩ := HT2.out
            rw [Nat.zero_add] at y1 y2 y3
            obtain ⟨z0, z1, z2, z3⟩ := hat.2 j hjl
            rw [Nat.zero_add] at z0 z1 z2 z3
            clear hat hfr hBg hcl hcm
            have k0 := cell_regrown y0
            have k1 := cell_regrown y1
            have k2 := cell_regrown y2
            have k3 := cell_regrown y3
            have q0 := cell_regrown z0
            have q1 := cell_regrown z1
            have q2 := cell_regrown z2
            have q3 := cell_regrown z3
            have HK := Lib.hid (fun w => ahead_ref (onth F j).per (onth F j).yr (onth F j).mon t.per t.yr t.mon (onth F j).nam t.nam w)
            cases hah : aheadT (onth F j) t
            · have hah' : aheadT ⟨(onth F j).per, (onth F j).nam, (onth F j).yr, (onth F j).mon⟩ ⟨t.per, t.nam, t.yr, t.mon⟩ = false := hah
              rw [hah'] at HK
              have HAH := Lib.hid hah
              clear hah hah'
              go_wp2_with fail
              refine wp_region_quiet_below (by kernel_rfl) (by kernel_rfl) ?_
              repeat (quiet_step (exact Calls.regrown_of (HK.out _)))
              refine wpQuiet_nil ?_
              intro _ hw'
              obtain ⟨⟨dq, osq⟩, hw''⟩ := hw'
              subst hw''
              have HB3 := Lib.hid (HBQ.out.trans ((below_regrown wr dq osq).mono HBQ.out.size))
              clear k0 k1 k2 k3 q0 q1 q2 q3 y0 y1 y2 y3 z0 z1 z2 z3 HK
              have y0 := cell_regrown HT2.out.1 dq osq
              have y1 := cell_regrown HT2.out.2.1 dq osq
              have y2 := cell_regrown HT2.out.2.2.1 dq osq
              have y3 := cell_regrown HT2.out.2.2.2 dq osq
              have HAt3 := Lib.hid (HAt.out.below (below_regrown wr dq osq) HAt.out.1)
              have HO3 := Lib.hid (HO2.out.below (below_regrown wr dq osq))
              have HFR3 : Hid ((grow (redrawn wr dq) osq).frozen? ⟨g, j * 4 + 3, none⟩ = false) := Lib.hid (by rw [(below_regrown wr dq osq).frozen (p := ⟨g, j * 4 + 3, none⟩) HAt.out.1]; exact HFR.out)
              rw [Nat.zero_add] at y1 y2 y3
              clear HAt HO2 HFR HBQ HT2
              generalize grow (redrawn wr dq) osq = V at y0 y1 y2 y3 HAt3 HO3 HB3 HFR3 ⊢
              obtain ⟨z0, z1, z2, z3⟩ := HAt3.out.2 j hjl
              rw [Nat.zero_add] at z0 z1 z2 z3
              have k0 := cell_regrown y0
              have k1 := cell_regrown y1
              have k2 := cell_regrown y2
              have k3 := cell_regrown y3
              have q0 := cell_regrown z0
              have q1 := cell_regrown z1
              have q2 := cell_regrown z2
              have q3 := cell_regrown z3
              have HK := Lib.hid (fun w => ahead_ref t.per t.yr t.mon (onth F j).per (onth F j).yr (onth F j).mon t.nam (onth F j).nam w)
              cases hab : aheadT t (onth F j)
              · have hab' : aheadT ⟨t.per, t.nam, t.yr, t.mon⟩ ⟨(onth F j).per, (onth F j).nam, (onth F j).yr, (onth F j).mon⟩ = false := hab
                rw [hab'] at HK
                have HFI : Hid (insAt j t F = putM F j ((onth F j).mon + t.mon)) := Lib.hid (by unfold insAt; rw [if_pos ⟨hjl, hab⟩]; rfl)
                clear hab hab'
                go_wp2_with fail
                refine wp_region_quiet_below (by kernel_rfl) (by kernel_rfl) ?_
                repeat (quiet_step (exact Calls.regrown_of (HK.out _)))
                refine wpQuiet_nil ?_
                intro _ hw'
                obtain ⟨⟨dq, osq⟩, hw''⟩ := hw'
                subst hw''
                have HB4 := Lib.hid (HB3.out.trans ((below_regrown V dq osq).mono HB3.out.size))
                have HO4 := Lib.hid (HO3.out.below (below_regrown V dq osq))
                have hf4 : (grow (redrawn V dq) osq).frozen? ⟨g, j * 4 + 3, none⟩ = false := by rw [(below_regrown V dq osq).frozen (p := ⟨g, j * 4 + 3, none⟩) HAt3.out.1]; exact HFR3.out
                have y3' := k3 dq osq
                have z3' := q3 dq osq
                clear k0 k1 k2 k3 q0 q1 q2 q3 y0 y1 y2 y3 z0 z1 z2 z3 HK HAt3 HO3 HFR3
                generalize grow (redrawn V dq) osq = U at y3' z3' hf4 HO4 HB4 ⊢
                have hsm : IntKind.i64.wrap ((onth F j).mon + t.mon) = (onth F j).mon + t.mon := IntWalk.i64_in _ (by
                  have h1 := ((HIV.out.2 _).1 (onth_mem hjl)).2
                  have h2 := sumK_bound (keyT (onth F j)) (L := L) (fun x hx => HLB.out x (List.mem_append_left _ hx))
                  have h3 := HLL.out
                  obtain ⟨_, _, _, _, h5, h6, _⟩ := HOT.out
                  omega)
                have HPT := Lib.hid (OwnO.put (w := U.drew) HO4.out hjl ((onth F j).mon + t.mon))
                rw [← HFI.out] at HPT
                have HOUT : Hid (OutIs w (U.drew.setCell ⟨g, j * 4 + 3, none⟩ (.int .i64 ((onth F j).mon + t.mon))) (.slice (some ⟨g, 0, none⟩) F.length c9) (insAt j t F) (sg.take (k + 1))) := by
                  refine ⟨HPT.out, ?_, ?_, fun h => ?_, ?_⟩
                  · rw [HSK.out]
                    exact ins_step HIV.out hj HLs.out (fun _ => HAH.out)
                  · rw [HSK.out, List.length_append, HFI.out, putM_len hjl]
                    have := HFL.out
                    simp
                    omega
                  · rw [HFI.out, putM_len hjl] at h
                    omega
                  · exact ((HBX.out.trans (HB4.out.mono HBX.out.size)).drew).setCell (p := ⟨g, j * 4 + 3, none⟩) HBG.out _
                clear HPT HO4
                generalize (onth F j).mon = om at *
                go_wp2_with fail
                go_region
                go_wp2_with fail
                go_roundw
                case rel => exact ⟨k + 1, _, by omega, by go_num, HOUT.out⟩
                case measure => simp [intOf]; omega
              · have hab' : aheadT ⟨t.per, t.nam, t.yr, t.mon⟩ ⟨(onth F j).per, (onth F j).nam, (onth F j).yr, (onth F j).mon⟩ = true := hab
                rw [hab'] at HK
                have HFI : Hid (insAt j t F = F.take j ++ ([t] ++ F.drop j)) := Lib.hid (by unfold insAt; rw [if_neg (fun h => by rw [hab] at h; cases h.2)])
                clear hab hab'
                go_wp2_with fail
                refine wp_region_quiet_below (by kernel_rfl) (by kernel_rfl) ?_
                repeat (quiet_step (exact Calls.regrown_of (HK.out _)))
                refine wpQuiet_nil ?_
                intro _ hw'
                obtain ⟨⟨dq, osq⟩, hw''⟩ := hw'
                subst hw''
                have HB4 := Lib.hid (HB3.out.trans ((below_regrown V dq osq).mono HB3.out.size))
                have HAtU := Lib.hid (HAt3.out.below (below_regrown V dq osq) HAt3.out.1)
                have Y0 := k0 dq osq
                have Y1 := k1 dq osq
                have Y2 := k2 dq osq
                have Y3 := k3 dq osq
                have hbtu : bt < (grow (redrawn V dq) osq).heap.size := Nat.lt_of_lt_of_le HLT.out HB4.out.size
                have HBU := Lib.hid (HBX.out.trans (HB4.out.mono HBX.out.size))
                have HAX : Hid (j < F.length → aheadT (onth F j) t = false) := fun _ => HAH.out
                clear k0 k1 k2 k3 q0 q1 q2 q3 y0 y1 y2 y3 z0 z1 z2 z3 HK HAt3 HO3 HFR3 HB4
                generalize grow (redrawn V dq) osq = U at Y0 Y1 Y2 Y3 HAtU HBU hbtu ⊢
                have hjc : (j : Int) ≤ (c9 : Int) := by have := HCL.out; omega
                have hcj : c9 ≠ j := by have := HCL.out; omega
                have hjl2 : (j : Int) ≤ (F.length : Int) := by omega
                have hlen8 := HLEN.out
                go_wp2_with fail
                go_region_held3 (fun w' => w'.cell? ⟨bt, 0, none⟩ = some (.int .i64 t.per) ∧ w'.cell? ⟨bt, 1, none⟩ = some (.string t.nam) ∧ w'.cell? ⟨bt, 2, none⟩ = some (.int .i64 t.yr) ∧ w'.cell? ⟨bt, 3, none⟩ = some (.int .i64 t.mon)) (first | go_keep | trivial)
                  ((first
                    | (refine step_app_own _ rfl (.tmp 74) (.tmp 77) (by rfl) U.heap.size (.slice (some ⟨U.heap.size, 0, none⟩) 1 1) [t] (by rfl) (by first | exact GrowO.one U.drew _ _ _ _ _ (Nat.le_refl _) | exact GrowO.one U _ _ _ _ _ (Nat.le_refl _)) ⟨g, j * 4, none⟩ (F.length - j) (c9 - j) (F.drop j) (by rfl) ((fun h => Or.inr ⟨g, j * 4, rfl, OAt.drop h j⟩) (HAtU.out.below ((Below.refl U.heap.size U).drew.alloc (Nat.le_refl _) (.cells #[.int .i64 t.per, .string t.nam, .int .i64 t.yr, .int .i64 t.mon] 50)) HAtU.out.1)) (by first | rfl | simp) (by simp; omega) (by simp) ?_
                       intro v80 w80 hg80 hb80 _
                       rcases hg80.form with ⟨_, hbad⟩ | ⟨g8, c8, rfl, _, hat8, _⟩
                       · cases hbad
                       have HB80 := Lib.hid (((Below.refl U.heap.size U).drew.alloc (Nat.le_refl _) (.cells #[.int .i64 t.per, .string t.nam, .int .i64 t.yr, .int .i64 t.mon] 50)).trans hb80)
                       have HA80 := Lib.hid hat8
                       have r0 := (HB80.out.cell (p := ⟨bt, 0, none⟩) hbtu).trans Y0
                       have r1 := (HB80.out.cell (p := ⟨bt, 1, none⟩) hbtu).trans Y1
                       have r2 := (HB80.out.cell (p := ⟨bt, 2, none⟩) hbtu).trans Y2
                       have r3 := (HB80.out.cell (p := ⟨bt, 3, none⟩) hbtu).trans Y3
                       clear hg80 hb80 hat8)
                    | (refine step_app_new _ rfl (.tmp 72) (.tmp 78) (by rfl) g j (F.take j) (by rfl) (by first | rfl | (rw [List.length_take]; omega)) (by first | exact (HAtU.out.below HB80.out HAtU.out.1).take _ | exact HAtU.out.below HB80.out HAtU.out.1) g8 ([t] ++ F.drop j).length c8 ([t] ++ F.drop j) (by rfl) HA80.out rfl (by simp) (by simp; omega) ?_
                       intro v81 w81 hg81 hb81
                       have HG81 := Lib.hid hg81
                       have HB81 := Lib.hid (HB80.out.trans (hb81.mono HB80.out.size))
                       have s0 := (HB81.out.cell (p := ⟨bt, 0, none⟩) hbtu).trans Y0
                       have s1 := (HB81.out.cell (p := ⟨bt, 1, none⟩) hbtu).trans Y1
                       have s2 := (HB81.out.cell (p := ⟨bt, 2, none⟩) hbtu).trans Y2
                       have s3 := (HB81.out.cell (p := ⟨bt, 3, none⟩) hbtu).trans Y3
                       clear hg81 hb81)
                   ))
                have HOUT : Hid (OutIs w w81 v81 (insAt j t F) (sg.take (k + 1))) := by
                  refine ⟨?_, ?_, ?_, fun h => ?_, ?_⟩
                  · rw [HFI.out]
                    exact (OwnO.of HG81.out).mono (Nat.le_trans HBU.out.size HB80.out.size)
                  · rw [HSK.out]
                    exact ins_step HIV.out hj HLs.out HAX.out
                  · have := insAt_len j t F
                    rw [HSK.out, List.length_append]
                    have := HFL.out
                    simp
                    omega
                  · rw [HFI.out] at h
                    simp at h
                  · exact HBU.out.trans (HB81.out.mono HBU.out.size)
                go_wp2_with fail
                go_roundw
                case rel => exact ⟨k + 1, _, by omega, by go_num, HOUT.out⟩
                case measure => simp [intOf]; omega
            · have hah' : aheadT ⟨(onth F j).per, (onth F j).nam, (onth F j).yr, (onth F j).mon⟩ ⟨t.per, t.nam, t.yr, t.mon⟩ = true := hah
              rw [hah'] at HK
              have HAH := Lib.hid hah
              clear hah hah'
              go_wp2_with fail
              refine wp_region_quiet_below (by kernel_rfl) (by kernel_rfl) ?_
              repeat (quiet_step (exact Calls.regrown_of (HK.out _)))
              refine wpQuiet_nil ?_
              intro _ hw'
              obtain ⟨⟨dq, osq⟩, hw''⟩ := hw'
              subst hw''
              go_wp2_with fail
              go_roundw
              case rel => exact ⟨j + 1, by omega, by go_num, fun i hi => by rcases (show i < j ∨ i = j by omega) with e | rfl; exact HLs.out i e; exact HAH.out, HBQ.out.trans ((below_regrown wr dq osq).mono HBQ.out.size)⟩
              case measure => simp [intOf]; omega
          · obtain rfl : j = F.length := by omega
            have hnl : decide ((F.length : Int) < (F.length : Int)) = false := decide_eq_false (by omega)
            have HFI : Hid (insAt F.length t F = F ++ [t]) := Lib.hid (by unfold insAt; rw [if_neg (fun h => absurd h.1 (by omega)), List.take_length, List.drop_length]; rfl)
            have HAX : Hid (F.length < F.length → aheadT (onth F F.length) t = false) := fun h => absurd h (by omega)
            obtain ⟨y0, y1, y2, y3⟩ := HT2.out
            rw [Nat.zero_add] at y1 y2 y3
            have HBU0 := Lib.hid (HBX.out.trans (HBQ.out.mono HBX.out.size))
            have hbt0 : bt < wr.heap.size := Nat.lt_of_lt_of_le HLT.out HBQ.out.size
            have hlen8 := HLEN.out
            clear hjl
            go_wp2_with fail
            go_quiet (fail)
            go_wp2_with fail
            go_quiet (fail)
            go_wp2_with fail
            generalize hU : World.drewN (World.drewN wr _) _ = U
            have Y0 : U.cell? ⟨bt, 0, none⟩ = some (.int .i64 t.per) := by rw [← hU]; exact y0
            have Y1 : U.cell? ⟨bt, 1, none⟩ = some (.string t.nam) := by rw [← hU]; exact y1
            have Y2 : U.cell? ⟨bt, 2, none⟩ = some (.int .i64 t.yr) := by rw [← hU]; exact y2
            have Y3 : U.cell? ⟨bt, 3, none⟩ = some (.int .i64 t.mon) := by rw [← hU]; exact y3
            have hbtu : bt < U.heap.size := by rw [← hU]; exact hbt0
            have HBU : Hid (Go.RowKit.Below w.heap.size w U) := Lib.hid (by rw [← hU]; exact obelow_dN (obelow_dN HBU0.out _) _)
            have HOU : Hid (OwnO U w.heap.size (.slice x9 F.length c9) F) := Lib.hid (by rw [← hU]; exact HO2.out)
            clear hU y0 y1 y2 y3 hbt0 HBU0 HO2 HT2 HBQ
            by_cases hF0 : F.length = 0
            · have hsl := HNIL.out hF0
              have hFn : F = [] := List.eq_nil_of_length_eq_zero hF0
              subst hFn
              injection hsl with e1 _ e3
              subst e1 e3
              clear HOU hF0
              rw [show ([] : List Tt).length = 0 from rfl]
              go_region_held3 (fun w' => w'.cell? ⟨bt, 0, none⟩ = some (.int .i64 t.per) ∧ w'.cell? ⟨bt, 1, none⟩ = some (.string t.nam) ∧ w'.cell? ⟨bt, 2, none⟩ = some (.int .i64 t.yr) ∧ w'.cell? ⟨bt, 3, none⟩ = some (.int .i64 t.mon)) (first | go_keep | trivial)
                ((first
                  | (refine step_app_run _ rfl (.tmp 74) (.tmp 77) 22 (by rfl) (.slice (some ⟨U.heap.size, 0, none⟩) 1 1) (.slice none 0 0) (by rfl) (by rfl) _ _ (run_onto_none _ _ _) ?_)
                  | (refine step_app_own _ rfl (.tmp 72) (.tmp 78) (by rfl) U.heap.size (.slice none 0 0) [] (by rfl) (GrowO.nil _ _) ⟨U.heap.size, 0, none⟩ 1 1 [t] (by rfl) (by first | exact Or.inr ⟨_, _, rfl, oat_box U.drew _ _ _ _⟩ | exact Or.inr ⟨_, _, rfl, oat_box U _ _ _ _⟩) rfl (by simp) (by simp) ?_
                     intro v81 w81 hg81 hb81 _
                     have HG81 := Lib.hid hg81
                     have HB81 := Lib.hid (((Below.refl U.heap.size U).drew.alloc (Nat.le_refl _) (.cells #[.int .i64 t.per, .string t.nam, .int .i64 t.yr, .int .i64 t.mon] 50)).trans hb81)
                     have s0 := (HB81.out.cell (p := ⟨bt, 0, none⟩) hbtu).trans Y0
                     have s1 := (HB81.out.cell (p := ⟨bt, 1, none⟩) hbtu).trans Y1
                     have s2 := (HB81.out.cell (p := ⟨bt, 2, none⟩) hbtu).trans Y2
                     have s3 := (HB81.out.cell (p := ⟨bt, 3, none⟩) hbtu).trans Y3
                     clear hg81 hb81)
                 ))
              have HOUT : Hid (OutIs w w81 v81 (insAt 0 t []) (sg.take (k + 1))) := by
                refine ⟨?_, ?_, ?_, fun h => ?_, ?_⟩
                · exact (OwnO.of HG81.out).mono HBU.out.size
                · rw [HSK.out]
                  exact ins_step HIV.out hj HLs.out HAX.out
                · have := insAt_len 0 t []
                  rw [HSK.out, List.length_append]
                  simp at this ⊢
                  omega
                · simp [insAt] at h
                · exact HBU.out.trans (HB81.out.mono HBU.out.size)
              go_wp2_with fail
              go_roundw
              case rel => exact ⟨k + 1, _, by omega, by go_num, HOUT.out⟩
              case measure => simp [intOf]; omega
            · obtain ⟨g, rfl, _, hBg, hat, hcl, hcm, _⟩ := HOU.out.at (by omega)
              have HAtU := Lib.hid hat
              have hj00 : (0 : Int) ≤ (F.length : Int) := by omega
              have hjl2 : (F.length : Int) ≤ (F.length : Int) := by omega
              clear hat HOU hF0
              by_cases hcF : c9 = F.length
              · subst hcF
                clear hcl hcm
                go_region_held3 (fun w' => w'.cell? ⟨bt, 0, none⟩ = some (.int .i64 t.per) ∧ w'.cell? ⟨bt, 1, none⟩ = some (.string t.nam) ∧ w'.cell? ⟨bt, 2, none⟩ = some (.int .i64 t.yr) ∧ w'.cell? ⟨bt, 3, none⟩ = some (.int .i64 t.mon)) (first | go_keep | trivial)
                  ((first
                    | (refine step_app_own _ rfl (.tmp 74) (.tmp 77) (by rfl) U.heap.size (.slice (some ⟨U.heap.size, 0, none⟩) 1 1) [t] (by rfl) (by first | exact GrowO.one U.drew _ _ _ _ _ (Nat.le_refl _) | exact GrowO.one U _ _ _ _ _ (Nat.le_refl _)) ⟨g, 0, none⟩ 0 (0) [] (by rfl) (Or.inl rfl) rfl (by simp) (by simp) ?_
                       intro v80 w80 hg80 hb80 _
                       rw [List.append_nil] at hg80
                       rcases hg80.form with ⟨_, hbad⟩ | ⟨g8, c8, rfl, _, hat8, _⟩
                       · cases hbad
                       have HB80 := Lib.hid (((Below.refl U.heap.size U).drew.alloc (Nat.le_refl _) (.cells #[.int .i64 t.per, .string t.nam, .int .i64 t.yr, .int .i64 t.mon] 50)).trans hb80)
                       have HA80 := Lib.hid hat8
                       have r0 := (HB80.out.cell (p := ⟨bt, 0, none⟩) hbtu).trans Y0
                       have r1 := (HB80.out.cell (p := ⟨bt, 1, none⟩) hbtu).trans Y1
                       have r2 := (HB80.out.cell (p := ⟨bt, 2, none⟩) hbtu).trans Y2
                       have r3 := (HB80.out.cell (p := ⟨bt, 3, none⟩) hbtu).trans Y3
                       clear hg80 hb80 hat8)
                    | (refine step_app_new _ rfl (.tmp 72) (.tmp 78) (by rfl) g F.length F (by rfl) rfl (HAtU.out.below HB80.out HAtU.out.1) g8 1 c8 [t] (by rfl) HA80.out rfl (by omega) (by omega) ?_
                       intro v81 w81 hg81 hb81
                       have HG81 := Lib.hid hg81
                       have HB81 := Lib.hid (HB80.out.trans (hb81.mono HB80.out.size))
                       have s0 := (HB81.out.cell (p := ⟨bt, 0, none⟩) hbtu).trans Y0
                       have s1 := (HB81.out.cell (p := ⟨bt, 1, none⟩) hbtu).trans Y1
                       have s2 := (HB81.out.cell (p := ⟨bt, 2, none⟩) hbtu).trans Y2
                       have s3 := (HB81.out.cell (p := ⟨bt, 3, none⟩) hbtu).trans Y3
                       clear hg81 hb81)
                   ))
                have HOUT : Hid (OutIs w w81 v81 (insAt F.length t F) (sg.take (k + 1))) := by
                  refine ⟨?_, ?_, ?_, fun h => ?_, ?_⟩
                  · rw [HFI.out]
                    exact (OwnO.of HG81.out).mono (Nat.le_trans HBU.out.size HB80.out.size)
                  · rw [HSK.out]
                    exact ins_step HIV.out hj HLs.out HAX.out
                  · have := insAt_len F.length t F
                    rw [HSK.out, List.length_append]
                    have := HFL.out
                    simp
                    omega
                  · rw [HFI.out] at h
                    simp at h
                  · exact HBU.out.trans (HB81.out.mono HBU.out.size)
                go_wp2_with fail
                go_roundw
                case rel => exact ⟨k + 1, _, by omega, by go_num, HOUT.out⟩
                case measure => simp [intOf]; omega
              · have hjc : (F.length : Int) ≤ (c9 : Int) := by omega
                go_region_held3 (fun w' => w'.cell? ⟨bt, 0, none⟩ = some (.int .i64 t.per) ∧ w'.cell? ⟨bt, 1, none⟩ = some (.string t.nam) ∧ w'.cell? ⟨bt, 2, none⟩ = some (.int .i64 t.yr) ∧ w'.cell? ⟨bt, 3, none⟩ = some (.int .i64 t.mon)) (first | go_keep | trivial)
                  ((first
                    | (refine step_app_own _ rfl (.tmp 74) (.tmp 77) (by rfl) U.heap.size (.slice (some ⟨U.heap.size, 0, none⟩) 1 1) [t] (by rfl) (by first | exact GrowO.one U.drew _ _ _ _ _ (Nat.le_refl _) | exact GrowO.one U _ _ _ _ _ (Nat.le_refl _)) ⟨g, F.length * 4, none⟩ 0 (c9 - F.length) [] (by rfl) (Or.inl rfl) rfl (by simp) (by simp) ?_
                       intro v80 w80 hg80 hb80 _
                       rw [List.append_nil] at hg80
                       rcases hg80.form with ⟨_, hbad⟩ | ⟨g8, c8, rfl, _, hat8, _⟩
                       · cases hbad
                       have HB80 := Lib.hid (((Below.refl U.heap.size U).drew.alloc (Nat.le_refl _) (.cells #[.int .i64 t.per, .string t.nam, .int .i64 t.yr, .int .i64 t.mon] 50)).trans hb80)
                       have HA80 := Lib.hid hat8
                       have r0 := (HB80.out.cell (p := ⟨bt, 0, none⟩) hbtu).trans Y0
                       have r1 := (HB80.out.cell (p := ⟨bt, 1, none⟩) hbtu).trans Y1
                       have r2 := (HB80.out.cell (p := ⟨bt, 2, none⟩) hbtu).trans Y2
                       have r3 := (HB80.out.cell (p := ⟨bt, 3, none⟩) hbtu).trans Y3
                       clear hg80 hb80 hat8)
                    | (refine step_app_new _ rfl (.tmp 72) (.tmp 78) (by rfl) g F.length F (by rfl) rfl (HAtU.out.below HB80.out HAtU.out.1) g8 1 c8 [t] (by rfl) HA80.out rfl (by omega) (by omega) ?_
                       intro v81 w81 hg81 hb81
                       have HG81 := Lib.hid hg81
                       have HB81 := Lib.hid (HB80.out.trans (hb81.mono HB80.out.size))
                       have s0 := (HB81.out.cell (p := ⟨bt, 0, none⟩) hbtu).trans Y0
                       have s1 := (HB81.out.cell (p := ⟨bt, 1, none⟩) hbtu).trans Y1
                       have s2 := (HB81.out.cell (p := ⟨bt, 2, none⟩) hbtu).trans Y2
                       have s3 := (HB81.out.cell (p := ⟨bt, 3, none⟩) hbtu).trans Y3
                       clear hg81 hb81)
                   ))
                have HOUT : Hid (OutIs w w81 v81 (insAt F.length t F) (sg.take (k + 1))) := by
                  refine ⟨?_, ?_, ?_, fun h => ?_, ?_⟩
                  · rw [HFI.out]
                    exact (OwnO.of HG81.out).mono (Nat.le_trans HBU.out.size HB80.out.size)
                  · rw [HSK.out]
                    exact ins_step HIV.out hj HLs.out HAX.out
                  · have := insAt_len F.length t F
                    rw [HSK.out, List.length_append]
                    have := HFL.out
                    simp
                    omega
                  · rw [HFI.out] at h
                    simp at h
                  · exact HBU.out.trans (HB81.out.mono HBU.out.size)
                go_wp2_with fail
                go_roundw
                case rel => exact ⟨k + 1, _, by omega, by go_num, HOUT.out⟩
                case measure => simp [intOf]; omega
    · have hkn : k = n := by omega
      subst hkn
      have HTK : Hid (sg.take k = sg) := Lib.hid (by rw [← HN.out, ← HSG.out.1, List.take_length])
      rw [HTK.out] at hout
      obtain ⟨hown, hinv, hlen, _, hbw⟩ := hout
      obtain ⟨x9, c9, hov, hcm⟩ := hown.slice
      subst hov
      have HIV := Lib.hid hinv
      have HB3 := Lib.hid hbw
      have HF8 : Hid (F.length ≤ 800) := Lib.hid (by rw [HSG.out.1, HN.out] at hlen; omega)
      have HOF := Lib.hid (fun h0 => hcm.open (n := F.length) rfl h0)
      have hm63 : F.length ≤ 9223372036854775807 := by have := HF8.out; omega
      clear hown hinv hlen hbw hcm
      go_wp2_with fail
      generalize hW3 : wr = W3 at *
      clear hW3
      go_loopw [12, 13] (fun sv i wq => ∃ q : Nat, q ≤ F.length ∧ i = .int .i64 q ∧ GrowO wq W3.heap.size sv ((F.take q).filter fun x => !(x.mon == 0)) ∧ (∀ i, i < q → monB (onth F i).mon = true) ∧ Go.RowKit.Below W3.heap.size W3 wq) (fun _ i _ => F.length - (intOf i).toNat)
      case atStart => exact ⟨0, Nat.zero_le _, rfl, GrowO.nil _ _, fun i hi => absurd hi (by omega), Below.refl _ _⟩
      case round =>
        obtain ⟨q, hq, rfl, hg, hall, hbq⟩ := hrel
        obtain ⟨x8, c8, hsv, hcs⟩ := hg.slice
        subst hsv
        have HG := Lib.hid hg
        have HAL := Lib.hid hall
        have HBQ := Lib.hid hbq
        have HCS := Lib.hid hcs
        have HFS := Lib.hid (filter_len (F := F) (k := q))
        clear hg hall hbq hcs
        by_cases hqf : q < F.length
        · have hqf' : (q : Int) < (F.length : Int) := by omega
          obtain ⟨g, off, rfl, hcell⟩ := HOF.out (by omega)
          obtain ⟨z0, z1, z2, z3⟩ := hcell wr HBQ.out q hqf
          have HST := Lib.hid (filter_step (F := F) (k := q) hqf)
          have HMEM := Lib.hid (onth_mem hqf)
          have HAL2 : Hid (monB (onth F q).mon = true → ∀ i, i < q + 1 → monB (onth F i).mon = true) := fun h i hi => by
            by_cases e : i = q
            · subst e; exact h
            · exact HAL.out i (by omega)
          obtain ⟨L8, hL8⟩ : ∃ L, (F.take q).filter (fun x => !(x.mon == 0)) = L := ⟨_, rfl⟩
          rw [hL8] at HG HST HFS ⊢
          obtain ⟨m8, hm8⟩ : ∃ m, L8.length = m := ⟨_, rfl⟩
          rw [hm8] at HG ⊢
          have HM8 := Lib.hid hm8
          obtain ⟨t, ht⟩ : ∃ t, onth F q = t := ⟨_, rfl⟩
          rw [ht] at z0 z1 z2 z3 HST HMEM HAL2
          clear hL8 hm8 ht hcell HCS
          cases hmo : monB t.mon
          · have HNA := Lib.hid (HIV.out.notAll HOK.out HMEM.out hmo)
            go_wp2_with (first | (go_at_call 36; refine (isMoney_ref _ _).mono ?_; rintro e w' ⟨rfl, h'⟩; subst w'; rw [hmo]))
            go_ret2
            exact ⟨_, _, rfl, .inl ⟨HNA.out, rfl, rfl⟩, HB3.out.trans (HBQ.out.mono HB3.out.size)⟩
          · have HA3 := Lib.hid (HAL2.out hmo)
            by_cases hz : t.mon = 0
            · have hz' : (t.mon != 0) = false := by simp [hz]
              have hzb : (t.mon == 0) = true := by simp [hz]
              rw [hzb] at HST
              clear hz hzb
              go_wp2_with (first | (go_at_call 36; refine (isMoney_ref _ _).mono ?_; rintro e w' ⟨rfl, h'⟩; subst w'; rw [hmo]))
              go_roundw
              case rel => exact ⟨q + 1, by omega, by go_num, by rw [HST.out]; simpa using HG.out, HA3.out, HBQ.out⟩
              case measure => simp [intOf]; omega
            · have hz' : (t.mon != 0) = true := by simp [hz]
              have hzb : (t.mon == 0) = false := by simp [hz]
              rw [hzb] at HST
              clear hz hzb
              have HGY := Lib.hid (HG.out.alloc (.cells #[.int .i64 t.per, .string t.nam, .int .i64 t.yr, .int .i64 t.mon] 50))
              have HBY := Lib.hid (HBQ.out.alloc HBQ.out.size (.cells #[.int .i64 t.per, .string t.nam, .int .i64 t.yr, .int .i64 t.mon] 50))
              have HOB := Lib.hid (oat_box wr t.per t.yr t.mon t.nam)
              have HBZ : Hid (W3.heap.size ≤ (wr.alloc (.cells #[.int .i64 t.per, .string t.nam, .int .i64 t.yr, .int .i64 t.mon] 50)).heap.size) := Lib.hid (by have := HBQ.out.size; simp; omega)
              go_wp2_with (first
                | (go_at_call 36; refine (isMoney_ref _ _).mono ?_; rintro e w' ⟨rfl, h'⟩; subst w'; rw [hmo])
                | (at_builtin; refine wpList_app_tts _ rfl _ _ rfl W3.heap.size (.slice x8 m8 c8) L8 rfl HGY.out wr.heap.size 0 1 1 [t] rfl HOB.out rfl (by have := HFS.out; have := HF8.out; omega) HBZ.out ?_; intro v' w2 hgr2 _ hbel2))
              go_roundw
              case rel => exact ⟨q + 1, by omega, by go_num, by rw [HST.out]; exact hgr2, HA3.out, HBY.out.trans hbel2⟩
              case measure => simp [intOf]; omega
        · have hqe : q = F.length := by omega
          subst hqe
          rw [List.take_length] at HG HCS HFS ⊢
          have HALL := Lib.hid (HIV.out.all (fun x hx => by obtain ⟨i, hi, rfl⟩ := mem_onth hx; exact HAL.out i hi))
          have HLST := Lib.hid (HIV.out.list HOK.out)
          have HUPP := Lib.hid HIV.out.up
          obtain ⟨L8, hL8⟩ : ∃ L, F.filter (fun x => !(x.mon == 0)) = L := ⟨_, rfl⟩
          rw [hL8] at HG HCS HLST HUPP HFS ⊢
          obtain ⟨m8, hm8⟩ : ∃ m, L8.length = m := ⟨_, rfl⟩
          rw [hm8] at HG ⊢
          have HM8 := Lib.hid hm8
          have hm8s : m8 ≤ 9223372036854775807 := by have := HFS.out; have := HF8.out; omega
          clear hL8 hm8
          by_cases h4 : 400 < m8
          · have h4' : (400 : Int) < (m8 : Int) := by omega
            go_wp2_with fail
            go_ret2
            exact ⟨_, _, rfl, .inr (.inl ⟨HALL.out, L8, HLST.out, by rw [HM8.out]; exact h4, rfl, rfl⟩), HB3.out.trans (HBQ.out.mono HB3.out.size)⟩
          · have h4' : ¬ ((400 : Int) < (m8 : Int)) := by omega
            go_wp2_with fail
            go_ret2
            exact ⟨_, _, rfl, .inr (.inr ⟨HALL.out, L8, HLST.out, by rw [HM8.out]; omega, HUPP.out, rfl, x8, c8, by rw [HM8.out]; rfl, HCS.out⟩), HB3.out.trans (HBQ.out.mono HB3.out.size)⟩
end Go.Proofs.Ytfamnlaignjhkaa
