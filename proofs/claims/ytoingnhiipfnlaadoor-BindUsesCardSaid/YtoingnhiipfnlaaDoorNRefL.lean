/-
  Promise H2: the walk of the reference's BindLines; there is one answer.
-/
import Derived.Test.YtoingnhiipfnlaaDoorNRefM
import Derived.Test.YtoingnhiipfnlaaDoorNRefS
import Derived.Test.YtoingnhiipfnlaaDoorXChkR
import Derived.Test.YtoingnhiipfnlaaDoorNKnR
namespace Go.Proofs.YtoingnhiipfnlaaDoor
open Go.RowKit Go.Sort

theorem BindIs.unique {l : List Ln} {k : Kn} {i e i' e' : Int} (h : BindIs l k i e) (h' : BindIs l k i' e') : i = i' ∧ e = e' := by
  rcases h with ⟨a1, a2, a3⟩ | ⟨a1, a2, a3, a4⟩ | ⟨a1, a2, a3⟩ <;> rcases h' with ⟨b1, b2, b3⟩ | ⟨b1, b2, b3, b4⟩ | ⟨b1, b2, b3⟩
  · exact ⟨by omega, by omega⟩
  · exact absurd b1 a1
  · exact absurd b1 a1
  · exact absurd a1 b1
  · exact ⟨by omega, by omega⟩
  · exact absurd b2 a2
  · exact absurd a1 b1
  · exact absurd a2 b2
  · rcases a3 with ⟨c1, c2, c3⟩ | ⟨j, c1, c2, c3, c4, c5⟩ <;> rcases b3 with ⟨d1, d2, d3⟩ | ⟨q, d1, d2, d3, d4, d5⟩
    · exact ⟨by omega, by omega⟩
    · exact absurd (d3.trans (c3 q d1)) d4
    · exact absurd (c3.trans (d3 j c1)) c4
    · have : j = q := by
        by_cases h1 : j < q
        · exact absurd (c3.trans (d5 j h1)) c4
        · by_cases h2 : q < j
          · exact absurd (d3.trans (c5 q h2)) d4
          · omega
      subst this
      exact ⟨by omega, by omega⟩
set_option maxRecDepth 100000 in
set_option maxHeartbeats 4000000 in
theorem lines_ref (a : Option Addr) (n cap : Nat) (l : List Ln) (a1 a2 a3 : Option Addr) (n1 n2 n3 c1 c2 c3 : Nat) (k : Kn) (w : World) (hl : CameL w a l) (hn : l.length = n) (hm : n ≤ maxLen) (hc : CameK w a1 a2 a3 k) (h1 : k.ins.length = n1) (h2 : k.tbs.length = n2) (h3 : k.yrs.length = n3) :
    Calls Tryd.prog 13 #[.slice a n cap, .agg #[.slice a1 n1 c1, .slice a2 n2 c2, .slice a3 n3 c3]] w fun e w' => BindRet w l k e w' := by
  have hm' : n ≤ 9223372036854775807 := by unfold maxLen at hm; omega
  have HMX := Lib.hid hm
  have HL := Lib.hid hl
  have HN := Lib.hid hn
  have HC := Lib.hid hc
  have H1 := Lib.hid h1
  have H2 := Lib.hid h2
  have H3 := Lib.hid h3
  clear hl hn hc h1 h2 h3 hm
  have HB0 := Lib.hid (kbelow_box w (.cells #[.slice a1 n1 c1, .slice a2 n2 c2, .slice a3 n3 c3] 25))
  have HK0 := Lib.hid (KAt.made w (.slice a1 n1 c1) (.slice a2 n2 c2) (.slice a3 n3 c3) 25)
  go_enter Tryd.func13, Tryd.ntmps13
  go_wp2_with fail
  refine (checkLines_ref a n cap l _ (HL.out.below HB0.out) HN.out HMX.out).mono ?_
  rintro e w1 ⟨rfl, hb1⟩
  have HB1 := Lib.hid (HB0.out.trans (hb1.mono HB0.out.size))
  have HK1 := Lib.hid (KAt.below HK0.out hb1)
  clear hb1 HK0 HB0
  obtain ⟨_, x0, x1, x2⟩ := HK1.out
  by_cases z1 : linesE l = 0
  · have HZ1 := Lib.hid z1
    rw [z1]
    clear z1
    go_wp2_with fail
    refine (known_ref a1 a2 a3 n1 n2 n3 c1 c2 c3 k _ (HC.out.below HB1.out) H1.out H2.out H3.out).mono ?_
    rintro e w2 ⟨rfl, hb2⟩
    have HB2 := Lib.hid (HB1.out.trans (hb2.mono HB1.out.size))
    have HK2 := Lib.hid (KAt.below HK1.out hb2)
    clear hb2 HK1 HB1 x0 x1 x2
    by_cases z2 : knE k = 0
    · have HZ2 := Lib.hid z2
      rw [z2]
      clear z2
      go_wp2_with fail
      go_loopw [7] (fun i wr => ∃ j : Nat, j ≤ n ∧ i = .int .i64 j ∧ (∀ q, q < j → lineOk l k q = 0) ∧ KAt wr w.heap.size (.slice a1 n1 c1) (.slice a2 n2 c2) (.slice a3 n3 c3) ∧ Below w.heap.size w wr) (fun i _ => n - (intOf i).toNat)
      case atStart => exact ⟨0, Nat.zero_le _, rfl, fun q hq => by omega, HK2.out, HB2.out⟩
      case round =>
        clear HK2 HB2
        obtain ⟨j, hj, rfl, hall, hkk, hb⟩ := hrel
        have HA := Lib.hid hall
        have HKK := Lib.hid hkk
        have HB := Lib.hid hb
        clear hall hkk hb
        obtain ⟨_, x0, x1, x2⟩ := HKK.out
        by_cases hlt : j < n
        · have hlt' : (j : Int) < (n : Int) := by omega
          have HJ : Hid (j < l.length) := by have := HN.out; unfold Hid; omega
          obtain ⟨b, off, rfl, hcell⟩ := HL.out.open HN.out (by omega)
          obtain ⟨aj, cj, ⟨y0, y1, y2, y3, y4, y5⟩, _, hkj⟩ := hcell wr HB.out j hlt
          have HKJ := Lib.hid hkj
          clear hkj hcell
          have H6 : Hid ((valsK l k j (lnth l j).name).isSome = true → BindIs l k j 6) := fun hv => by
            have ho : lineOk l k j = 6 := by unfold lineOk; rw [hv]; rfl
            exact .inr (.inr ⟨HZ1.out, HZ2.out, .inr ⟨j, HJ.out, rfl, ho.symm, by omega, HA.out⟩⟩)
          have hge := optI_ge (lastN (fun j => (lnth l j).name) j (lnth l j).name)
          have hge2 := optI_ge (firstN (fun j => (anth k.ins j).name) n1 (lnth l j).name)
          cases ho : (lastN (fun j => (lnth l j).name) j (lnth l j).name).isSome
          · rw [ho] at hge
            cases hq : (firstN (fun j => (anth k.ins j).name) n1 (lnth l j).name).isSome
            · rw [hq] at hge2
              have HV : Hid ((valsK l k j (lnth l j).name).isSome = false) := by unfold Hid; rw [vals_none ho, H1.out, hq]
              clear ho hq
              go_wp2_with fail
              go_quiet (first
                | (go_at_call 33; exact Calls.quiet_of_same (lineAt_same _ n cap l (lnth l j).name j _ ((HL.out.below HB.out).below (kbelow_dN (Below.refl _ _) _)) HN.out HMX.out (by omega)))
                | (go_at_call 34; exact Calls.quiet_of_same (amountAt_same _ n1 c1 k.ins (lnth l j).name _ ((HC.out.1.below HB.out).below (kbelow_dN (Below.refl _ _) _)) H1.out (by have := HC.out.2.2.2.2.2.1; have := H1.out; omega))))
              go_wp2_with fail
              have HBW := Lib.hid (kbelow_dN HB.out nq)
              have HKW := Lib.hid (HKK.out.below (kbelow_dN (Below.refl wr.heap.size wr) nq))
              have HKJW := Lib.hid (HKJ.out.below (kbelow_dN (Below.refl wr.heap.size wr) nq))
              have e0 : (wr.drewN nq).cell? ⟨b, off + j * 6 + 2, none⟩ = some (.int .i64 (lnth l j).ex.k) := y2
              have e1 : (wr.drewN nq).cell? ⟨b, off + j * 6 + 3, none⟩ = some (.int .i64 (lnth l j).ex.n) := y3
              have e2 : (wr.drewN nq).cell? ⟨b, off + j * 6 + 4, none⟩ = some (.string (lnth l j).ex.s) := y4
              have e3 : (wr.drewN nq).cell? ⟨b, off + j * 6 + 5, none⟩ = some (.slice aj (lnth l j).ex.m cj) := y5
              clear y0 y1 y2 y3 y4 y5 x0 x1 x2 hge hge2 H6
              obtain ⟨_, x0, x1, x2⟩ := HKW.out
              generalize wr.drewN nq = W at *
              have z0 := cell_regrown e0
              have z1 := cell_regrown e1
              have z2 := cell_regrown e2
              have z3 := cell_regrown e3
              have z4 := cell_regrown x0
              have z5 := cell_regrown x1
              have z6 := cell_regrown x2
              refine wp_region_quiet_below (by kernel_rfl) (by kernel_rfl) ?_
              repeat (quiet_step (exact Calls.regrown_of (means_ref (some ⟨b, off, none⟩) n cap l j a1 a2 a3 n1 n2 n3 c1 c2 c3 k HN.out HMX.out (by omega) H1.out H2.out (lnth l j).ex aj cj _ (HKJW.out.below (below_regrown W _ _)) ((HL.out.below HBW.out).below (below_regrown W _ _)) ((HC.out.below HBW.out).below (below_regrown W _ _)))))
              refine wpQuiet_nil ?_
              intro _ hw'
              obtain ⟨⟨dq, osq⟩, hw''⟩ := hw'
              subst hw''
              have HB9 := Lib.hid (HBW.out.trans ((below_regrown W dq osq).mono HBW.out.size))
              have HK9 := Lib.hid (HKW.out.below (below_regrown W dq osq))
              clear z0 z1 z2 z3 z4 z5 z6 e0 e1 e2 e3 x0 x1 x2
              generalize grow (redrawn W dq) osq = W9 at *
              cases hkn : (lnth l j).ex.all (knowB (valsK l k j) (linesG l) (tabsG k))
              · have HR : Hid (BindIs l k j 5) := by
                  have ho : lineOk l k j = 5 := by unfold lineOk; rw [HV.out, hkn]; rfl
                  exact .inr (.inr ⟨HZ1.out, HZ2.out, .inr ⟨j, HJ.out, rfl, ho.symm, by omega, HA.out⟩⟩)
                go_wp2_with fail
                go_ret2
                exact ⟨_, _, rfl, HR.out, HB9.out⟩
              · have HA1 : Hid (∀ q, q < j + 1 → lineOk l k q = 0) := fun q hq => by
                  by_cases e : q = j
                  · subst e; unfold lineOk; rw [HV.out, hkn]; rfl
                  · exact HA.out q (by omega)
                go_wp2_with fail
                go_roundw
                case rel => exact ⟨j + 1, by omega, by go_num, HA1.out, HK9.out, HB9.out⟩
                case measure => simp [intOf]; omega
            · rw [hq] at hge2
              have HR := Lib.hid (H6.out (by rw [vals_none ho, H1.out, hq]))
              clear ho hq
              go_wp2_with fail
              go_quiet (first
                | (go_at_call 33; exact Calls.quiet_of_same (lineAt_same _ n cap l (lnth l j).name j _ ((HL.out.below HB.out).below (kbelow_dN (Below.refl _ _) _)) HN.out HMX.out (by omega)))
                | (go_at_call 34; exact Calls.quiet_of_same (amountAt_same _ n1 c1 k.ins (lnth l j).name _ ((HC.out.1.below HB.out).below (kbelow_dN (Below.refl _ _) _)) H1.out (by have := HC.out.2.2.2.2.2.1; have := H1.out; omega))))
              have HBW := Lib.hid (kbelow_dN HB.out nq)
              go_wp2_with fail
              go_ret2
              exact ⟨_, _, rfl, HR.out, HBW.out⟩
          · rw [ho] at hge
            have HR := Lib.hid (H6.out (vals_some ho))
            clear ho
            go_wp2_with fail
            go_quiet (first
              | (go_at_call 33; exact Calls.quiet_of_same (lineAt_same _ n cap l (lnth l j).name j _ ((HL.out.below HB.out).below (kbelow_dN (Below.refl _ _) _)) HN.out HMX.out (by omega)))
              | (go_at_call 34; exact Calls.quiet_of_same (amountAt_same _ n1 c1 k.ins (lnth l j).name _ ((HC.out.1.below HB.out).below (kbelow_dN (Below.refl _ _) _)) H1.out (by have := HC.out.2.2.2.2.2.1; have := H1.out; omega))))
            have HBW := Lib.hid (kbelow_dN HB.out nq)
            go_wp2_with fail
            go_ret2
            exact ⟨_, _, rfl, HR.out, HBW.out⟩
        · have hjn : j = n := by omega
          have HR : Hid (BindIs l k 0 0) := .inr (.inr ⟨HZ1.out, HZ2.out, .inl ⟨rfl, rfl, fun q hq => HA.out q (by have := HN.out; omega)⟩⟩)
          subst hjn
          go_wp2_with fail
          go_ret2
          exact ⟨_, _, rfl, HR.out, HB.out⟩
    · have z2B : decide (knE k = 0) = false := decide_eq_false z2
      have z2N : (knE k != 0) = true := by simpa using z2
      have HR : Hid (BindIs l k 0 (knE k)) := .inr (.inl ⟨HZ1.out, z2, rfl, rfl⟩)
      generalize knE k = z at *
      go_wp2_with fail
      go_ret2
      exact ⟨_, _, rfl, HR.out, HB2.out⟩
  · have z1B : decide (linesE l = 0) = false := decide_eq_false z1
    have z1N : (linesE l != 0) = true := by simpa using z1
    have z1E : (linesE l == 0) = false := by simpa using z1
    have HR : Hid (BindIs l k 0 (linesE l)) := .inl ⟨z1, rfl, rfl⟩
    generalize linesE l = z at *
    go_wp2_with fail
    go_ret2
    exact ⟨_, _, rfl, HR.out, HB1.out⟩
end Go.Proofs.YtoingnhiipfnlaaDoor
