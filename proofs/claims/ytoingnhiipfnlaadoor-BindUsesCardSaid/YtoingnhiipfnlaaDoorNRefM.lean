/-
  Promise H2: the walk of the reference's means, over whatever expression.
-/
import Derived.Test.YtoingnhiipfnlaaDoorNRefA
import Derived.Lib.QuietBelow
namespace Go.Proofs.YtoingnhiipfnlaaDoor
open Go.RowKit Go.Sort

theorem vals_none {l : List Ln} {k : Kn} {p : Nat} {s : ByteArray} (h : (lastN (fun j => (lnth l j).name) p s).isSome = false) : (valsK l k p s).isSome = (firstN (fun j => (anth k.ins j).name) k.ins.length s).isSome := by
  rw [firstN_some]
  unfold valsK
  cases e : lastN (fun j => (lnth l j).name) p s
  · rfl
  · rw [e] at h; cases h
theorem vals_some {l : List Ln} {k : Kn} {p : Nat} {s : ByteArray} (h : (lastN (fun j => (lnth l j).name) p s).isSome = true) : (valsK l k p s).isSome = true := by
  unfold valsK
  cases e : lastN (fun j => (lnth l j).name) p s
  · rw [e] at h; cases h
  · rfl
set_option maxRecDepth 100000 in
set_option maxHeartbeats 8000000 in
theorem means_ref (a : Option Addr) (n0 cap : Nat) (l : List Ln) (p : Nat) (a1 a2 a3 : Option Addr) (n1 n2 n3 c1 c2 c3 : Nat) (k : Kn) (hn : l.length = n0) (hm0 : n0 ≤ maxLen) (hp : p ≤ n0) (h1 : k.ins.length = n1) (h2 : k.tbs.length = n2) (x : Ex) : ∀ (ax : Option Addr) (cx : Nat) (w : World), KidsAt w x ax → CameL w a l → CameK w a1 a2 a3 k →
    Calls Tryd.prog 35 #[.agg #[.int .i64 x.k, .int .i64 x.n, .string x.s, .slice ax x.m cx], .slice a n0 cap, .int .i64 p, .agg #[.slice a1 n1 c1, .slice a2 n2 c2, .slice a3 n3 c3]] w fun e w' => e = .returned (.bool (x.all (knowB (valsK l k p) (linesG l) (tabsG k)))) ∧ Below w.heap.size w w' := by
  have HN := Lib.hid hn
  have HM0 := Lib.hid hm0
  have HP0 := Lib.hid hp
  have H1 := Lib.hid h1
  have H2 := Lib.hid h2
  have hn0 : n0 ≤ 9223372036854775807 := by unfold maxLen at hm0; omega
  clear hn hm0 hp h1 h2
  have HPD : Hid (∃ P, P = knowB (valsK l k p) (linesG l) (tabsG k)) := ⟨_, rfl⟩
  obtain ⟨P, hP⟩ := HPD.out
  rw [← hP]
  have HPE := Lib.hid hP
  clear HPD hP
  induction x with
  | no => intro ax cx w h; exact h.elim
  | mk kk n s m kid ih =>
    intro ax cx w hk hl hc
    show Calls Tryd.prog 35 #[.agg #[.int .i64 kk, .int .i64 n, .string s, .slice ax m cx], .slice a n0 cap, .int .i64 p, .agg #[.slice a1 n1 c1, .slice a2 n2 c2, .slice a3 n3 c3]] w _
    have hm : m ≤ 9223372036854775807 := by have := hk.many; unfold maxLen at this; exact this
    have HK := Lib.hid hk
    have HL := Lib.hid hl
    have HC := Lib.hid hc
    have HIH := Lib.hid ih
    have HM := Lib.hid (all_mk P kk n s m kid)
    clear hk hl hc ih
    generalize (Ex.mk kk n s m kid).all P = z at *
    have HB0 := Lib.hid (kbelow_box w (.cells #[.int .i64 kk, .int .i64 n, .string s, .slice ax m cx] 50))
    have HX0 := Lib.hid (XBox.made w kk n s ax m cx 50)
    have HB2 := Lib.hid (HB0.out.alloc HB0.out.size (.cells #[.slice a1 n1 c1, .slice a2 n2 c2, .slice a3 n3 c3] 25))
    have HX2 := Lib.hid (HX0.out.below (kbelow_box _ (.cells #[.slice a1 n1 c1, .slice a2 n2 c2, .slice a3 n3 c3] 25)))
    have HK2 : Hid (KAt ((w.alloc (.cells #[.int .i64 kk, .int .i64 n, .string s, .slice ax m cx] 50)).alloc (.cells #[.slice a1 n1 c1, .slice a2 n2 c2, .slice a3 n3 c3] 25)) (w.heap.size + 1) (.slice a1 n1 c1) (.slice a2 n2 c2) (.slice a3 n3 c3)) := by
      refine ⟨?_, ?_, ?_, ?_⟩ <;> simp
    clear HB0 HX0
    go_enter Tryd.func35, Tryd.ntmps35
    by_cases hk2 : kk = 2
    · have HPK : Hid (P kk s = (valsK l k p s).isSome) := by unfold Hid; rw [HPE.out, hk2]; rfl
      subst hk2
      go_wp2_with fail
      refine (lineAt_ref a n0 cap l s p _ (HL.out.below HB2.out) HN.out HM0.out HP0.out).mono ?_
      rintro e w1 ⟨rfl, hb1⟩
      have HB1 := HB2
      have HX1 := HX2
      have HK1 := HK2
      clear HB2 HX2 HK2
      have HB2 := Lib.hid (HB1.out.trans (hb1.mono HB1.out.size))
      have HX2 := Lib.hid (HX1.out.below hb1)
      have HK2 := Lib.hid (KAt.below HK1.out hb1)
      clear hb1 HB1 HX1 HK1
      obtain ⟨_, v0, v1, v2, v3⟩ := HX2.out
      obtain ⟨_, t0, t1, t2⟩ := HK2.out
      have hge := optI_ge (lastN (fun j => (lnth l j).name) p s)
      cases ho : (lastN (fun j => (lnth l j).name) p s).isSome
      · rw [ho] at hge
        have HV : Hid (P 2 s = (firstN (fun j => (anth k.ins j).name) n1 s).isSome) := by unfold Hid; rw [HPK.out, vals_none ho, H1.out]
        clear HPK ho
        generalize optI (lastN (fun j => (lnth l j).name) p s) = r at *
        go_wp2_with fail
        refine (amountAt_ref a1 n1 c1 k.ins s _ (HC.out.1.below HB2.out) H1.out (by have := HC.out.2.2.2.2.2.1; have := H1.out; omega)).mono ?_
        rintro e w1 ⟨rfl, hb1⟩
        have HB1 := HB2
        have HX1 := HX2
        have HK1 := HK2
        clear HB2 HX2 HK2
        have HB2 := Lib.hid (HB1.out.trans (hb1.mono HB1.out.size))
        have HX2 := Lib.hid (HX1.out.below hb1)
        have HK2 := Lib.hid (KAt.below HK1.out hb1)
        clear hb1 HB1 HX1 HK1
        obtain ⟨_, v0, v1, v2, v3⟩ := HX2.out
        obtain ⟨_, t0, t1, t2⟩ := HK2.out
        have hge2 := optI_ge (firstN (fun j => (anth k.ins j).name) n1 s)
        cases hq : (firstN (fun j => (anth k.ins j).name) n1 s).isSome
        · rw [hq] at hge2
          have HP : Hid (P 2 s = false) := by unfold Hid; rw [HV.out, hq]
          clear HV hq
          generalize optI (firstN (fun j => (anth k.ins j).name) n1 s) = r2 at *
          obtain ⟨kk, hkk⟩ : ∃ kk : Int, kk = 2 := ⟨_, rfl⟩
          rw [← hkk] at HX2 HM HP
          go_wp2_with fail
          go_loopw [9, 10] (fun ov i wr => ∃ (j : Nat) (bk : Bool), j ≤ m ∧ i = .int .i64 j ∧ ov = .bool bk ∧ (false && allN (fun j => (kid j).all P) j) = bk ∧ XBox wr w.heap.size kk n s ax m cx ∧ KAt wr (w.heap.size + 1) (.slice a1 n1 c1) (.slice a2 n2 c2) (.slice a3 n3 c3) ∧ Below w.heap.size w wr) (fun _ i _ => m - (intOf i).toNat)
          case atStart => exact ⟨0, false, Nat.zero_le _, rfl, rfl, rfl, HX2.out, HK2.out, HB2.out⟩
          case round =>
            obtain ⟨j, bk, hj, rfl, rfl, hf, hx, hkk, hb⟩ := hrel
            have HF := Lib.hid hf
            have HX := Lib.hid hx
            have HKK := Lib.hid hkk
            have HB := Lib.hid hb
            clear hf hx hkk hb
            obtain ⟨_, v0, v1, v2, v3⟩ := HX.out
            obtain ⟨_, t0, t1, t2⟩ := HKK.out
            by_cases hlt : j < m
            · have hlt' : (j : Int) < (m : Int) := by omega
              obtain ⟨b, off, rfl, hcell⟩ := HK.out.open (show 0 < m by omega)
              obtain ⟨aj, cj, ⟨x0, x1, x2, x3⟩, hkj⟩ := hcell wr HB.out j hlt
              have HKJ := Lib.hid hkj
              clear hcell hkj
              have x0' : wr.cell? ⟨b, off + j * 4, none⟩ = some (.int .i64 (kid j).k) := x0
              have x1' : wr.cell? ⟨b, off + j * 4 + 1, none⟩ = some (.int .i64 (kid j).n) := x1
              have x2' : wr.cell? ⟨b, off + j * 4 + 2, none⟩ = some (.string (kid j).s) := x2
              have x3' : wr.cell? ⟨b, off + j * 4 + 3, none⟩ = some (.slice aj (kid j).m cj) := x3
              clear x0 x1 x2 x3
              have z0 := cell_regrown x0'
              have z1 := cell_regrown x1'
              have z2 := cell_regrown x2'
              have z3 := cell_regrown x3'
              have z4 := cell_regrown v3
              have z5 := cell_regrown t0
              have z6 := cell_regrown t1
              have z7 := cell_regrown t2
              cases bk
              · have HF1 : Hid ((false && allN (fun j => (kid j).all P) (j + 1)) = false) := by
                  have h := HF.out
                  unfold Hid
                  simp only [allN]
                  rw [← Bool.and_assoc, h]
                  rfl
                clear z0 z1 z2 z3 z4 z5 z6 z7
                go_wp2_with fail
                go_quiet (fail)
                go_wp2_with fail
                go_roundw
                case rel => exact ⟨j + 1, false, by omega, by go_num, rfl, HF1.out, HX.out.below (kbelow_dN (Below.refl _ _) _), HKK.out.below (kbelow_dN (Below.refl _ _) _), kbelow_dN HB.out _⟩
                case measure => simp [intOf]; omega
              · have HF1 : Hid ((false && allN (fun j => (kid j).all P) (j + 1)) = (kid j).all P) := by
                  have h := HF.out
                  unfold Hid
                  simp only [allN]
                  rw [← Bool.and_assoc, h]
                  rfl
                go_wp2_with fail
                refine wp_region_quiet_below (by kernel_rfl) (by kernel_rfl) ?_
                repeat (quiet_step (exact Calls.regrown_of (HIH.out j aj cj _ (HKJ.out.below (below_regrown wr _ _)) ((HL.out.below HB.out).below (below_regrown wr _ _)) ((HC.out.below HB.out).below (below_regrown wr _ _)))))
                refine wpQuiet_nil ?_
                intro _ hw'
                obtain ⟨⟨dq, osq⟩, hw''⟩ := hw'
                subst hw''
                generalize (kid j).all P = y at *
                go_wp2_with fail
                go_roundw
                case rel => exact ⟨j + 1, y, by omega, by go_num, rfl, HF1.out, HX.out.below (below_regrown wr dq osq), HKK.out.below (below_regrown wr dq osq), HB.out.trans ((below_regrown wr dq osq).mono HB.out.size)⟩
                case measure => simp [intOf]; omega
            · have hjm : j = m := by omega
              subst hjm
              have HR : Hid (z = bk) := by unfold Hid; rw [HM.out, HP.out, HF.out]
              go_wp2_with fail
              go_ret
              exact ⟨kret_bool HR.out.symm, HB.out⟩
        · rw [hq] at hge2
          have HP : Hid (P 2 s = true) := by unfold Hid; rw [HV.out, hq]
          clear HV hq
          generalize optI (firstN (fun j => (anth k.ins j).name) n1 s) = r2 at *
          obtain ⟨kk, hkk⟩ : ∃ kk : Int, kk = 2 := ⟨_, rfl⟩
          rw [← hkk] at HX2 HM HP
          go_wp2_with fail
          go_loopw [9, 10] (fun ov i wr => ∃ (j : Nat) (bk : Bool), j ≤ m ∧ i = .int .i64 j ∧ ov = .bool bk ∧ (true && allN (fun j => (kid j).all P) j) = bk ∧ XBox wr w.heap.size kk n s ax m cx ∧ KAt wr (w.heap.size + 1) (.slice a1 n1 c1) (.slice a2 n2 c2) (.slice a3 n3 c3) ∧ Below w.heap.size w wr) (fun _ i _ => m - (intOf i).toNat)
          case atStart => exact ⟨0, true, Nat.zero_le _, rfl, rfl, rfl, HX2.out, HK2.out, HB2.out⟩
          case round =>
            obtain ⟨j, bk, hj, rfl, rfl, hf, hx, hkk, hb⟩ := hrel
            have HF := Lib.hid hf
            have HX := Lib.hid hx
            have HKK := Lib.hid hkk
            have HB := Lib.hid hb
            clear hf hx hkk hb
            obtain ⟨_, v0, v1, v2, v3⟩ := HX.out
            obtain ⟨_, t0, t1, t2⟩ := HKK.out
            by_cases hlt : j < m
            · have hlt' : (j : Int) < (m : Int) := by omega
              obtain ⟨b, off, rfl, hcell⟩ := HK.out.open (show 0 < m by omega)
              obtain ⟨aj, cj, ⟨x0, x1, x2, x3⟩, hkj⟩ := hcell wr HB.out j hlt
              have HKJ := Lib.hid hkj
              clear hcell hkj
              have x0' : wr.cell? ⟨b, off + j * 4, none⟩ = some (.int .i64 (kid j).k) := x0
              have x1' : wr.cell? ⟨b, off + j * 4 + 1, none⟩ = some (.int .i64 (kid j).n) := x1
              have x2' : wr.cell? ⟨b, off + j * 4 + 2, none⟩ = some (.string (kid j).s) := x2
              have x3' : wr.cell? ⟨b, off + j * 4 + 3, none⟩ = some (.slice aj (kid j).m cj) := x3
              clear x0 x1 x2 x3
              have z0 := cell_regrown x0'
              have z1 := cell_regrown x1'
              have z2 := cell_regrown x2'
              have z3 := cell_regrown x3'
              have z4 := cell_regrown v3
              have z5 := cell_regrown t0
              have z6 := cell_regrown t1
              have z7 := cell_regrown t2
              cases bk
              · have HF1 : Hid ((true && allN (fun j => (kid j).all P) (j + 1)) = false) := by
                  have h := HF.out
                  unfold Hid
                  simp only [allN]
                  rw [← Bool.and_assoc, h]
                  rfl
                clear z0 z1 z2 z3 z4 z5 z6 z7
                go_wp2_with fail
                go_quiet (fail)
                go_wp2_with fail
                go_roundw
                case rel => exact ⟨j + 1, false, by omega, by go_num, rfl, HF1.out, HX.out.below (kbelow_dN (Below.refl _ _) _), HKK.out.below (kbelow_dN (Below.refl _ _) _), kbelow_dN HB.out _⟩
                case measure => simp [intOf]; omega
              · have HF1 : Hid ((true && allN (fun j => (kid j).all P) (j + 1)) = (kid j).all P) := by
                  have h := HF.out
                  unfold Hid
                  simp only [allN]
                  rw [← Bool.and_assoc, h]
                  rfl
                go_wp2_with fail
                refine wp_region_quiet_below (by kernel_rfl) (by kernel_rfl) ?_
                repeat (quiet_step (exact Calls.regrown_of (HIH.out j aj cj _ (HKJ.out.below (below_regrown wr _ _)) ((HL.out.below HB.out).below (below_regrown wr _ _)) ((HC.out.below HB.out).below (below_regrown wr _ _)))))
                refine wpQuiet_nil ?_
                intro _ hw'
                obtain ⟨⟨dq, osq⟩, hw''⟩ := hw'
                subst hw''
                generalize (kid j).all P = y at *
                go_wp2_with fail
                go_roundw
                case rel => exact ⟨j + 1, y, by omega, by go_num, rfl, HF1.out, HX.out.below (below_regrown wr dq osq), HKK.out.below (below_regrown wr dq osq), HB.out.trans ((below_regrown wr dq osq).mono HB.out.size)⟩
                case measure => simp [intOf]; omega
            · have hjm : j = m := by omega
              subst hjm
              have HR : Hid (z = bk) := by unfold Hid; rw [HM.out, HP.out, HF.out]
              go_wp2_with fail
              go_ret
              exact ⟨kret_bool HR.out.symm, HB.out⟩
      · rw [ho] at hge
        have HP : Hid (P 2 s = true) := by unfold Hid; rw [HPK.out, vals_some ho]
        clear HPK ho
        generalize optI (lastN (fun j => (lnth l j).name) p s) = r at *
        obtain ⟨kk, hkk⟩ : ∃ kk : Int, kk = 2 := ⟨_, rfl⟩
        rw [← hkk] at HX2 HM HP
        go_wp2_with fail
        go_loopw [9, 10] (fun ov i wr => ∃ (j : Nat) (bk : Bool), j ≤ m ∧ i = .int .i64 j ∧ ov = .bool bk ∧ (true && allN (fun j => (kid j).all P) j) = bk ∧ XBox wr w.heap.size kk n s ax m cx ∧ KAt wr (w.heap.size + 1) (.slice a1 n1 c1) (.slice a2 n2 c2) (.slice a3 n3 c3) ∧ Below w.heap.size w wr) (fun _ i _ => m - (intOf i).toNat)
        case atStart => exact ⟨0, true, Nat.zero_le _, rfl, rfl, rfl, HX2.out, HK2.out, HB2.out⟩
        case round =>
          obtain ⟨j, bk, hj, rfl, rfl, hf, hx, hkk, hb⟩ := hrel
          have HF := Lib.hid hf
          have HX := Lib.hid hx
          have HKK := Lib.hid hkk
          have HB := Lib.hid hb
          clear hf hx hkk hb
          obtain ⟨_, v0, v1, v2, v3⟩ := HX.out
          obtain ⟨_, t0, t1, t2⟩ := HKK.out
          by_cases hlt : j < m
          · have hlt' : (j : Int) < (m : Int) := by omega
            obtain ⟨b, off, rfl, hcell⟩ := HK.out.open (show 0 < m by omega)
            obtain ⟨aj, cj, ⟨x0, x1, x2, x3⟩, hkj⟩ := hcell wr HB.out j hlt
            have HKJ := Lib.hid hkj
            clear hcell hkj
            have x0' : wr.cell? ⟨b, off + j * 4, none⟩ = some (.int .i64 (kid j).k) := x0
            have x1' : wr.cell? ⟨b, off + j * 4 + 1, none⟩ = some (.int .i64 (kid j).n) := x1
            have x2' : wr.cell? ⟨b, off + j * 4 + 2, none⟩ = some (.string (kid j).s) := x2
            have x3' : wr.cell? ⟨b, off + j * 4 + 3, none⟩ = some (.slice aj (kid j).m cj) := x3
            clear x0 x1 x2 x3
            have z0 := cell_regrown x0'
            have z1 := cell_regrown x1'
            have z2 := cell_regrown x2'
            have z3 := cell_regrown x3'
            have z4 := cell_regrown v3
            have z5 := cell_regrown t0
            have z6 := cell_regrown t1
            have z7 := cell_regrown t2
            cases bk
            · have HF1 : Hid ((true && allN (fun j => (kid j).all P) (j + 1)) = false) := by
                have h := HF.out
                unfold Hid
                simp only [allN]
                rw [← Bool.and_assoc, h]
                rfl
              clear z0 z1 z2 z3 z4 z5 z6 z7
              go_wp2_with fail
              go_quiet (fail)
              go_wp2_with fail
              go_roundw
              case rel => exact ⟨j + 1, false, by omega, by go_num, rfl, HF1.out, HX.out.below (kbelow_dN (Below.refl _ _) _), HKK.out.below (kbelow_dN (Below.refl _ _) _), kbelow_dN HB.out _⟩
              case measure => simp [intOf]; omega
            · have HF1 : Hid ((true && allN (fun j => (kid j).all P) (j + 1)) = (kid j).all P) := by
                have h := HF.out
                unfold Hid
                simp only [allN]
                rw [← Bool.and_assoc, h]
                rfl
              go_wp2_with fail
              refine wp_region_quiet_below (by kernel_rfl) (by kernel_rfl) ?_
              repeat (quiet_step (exact Calls.regrown_of (HIH.out j aj cj _ (HKJ.out.below (below_regrown wr _ _)) ((HL.out.below HB.out).below (below_regrown wr _ _)) ((HC.out.below HB.out).below (below_regrown wr _ _)))))
              refine wpQuiet_nil ?_
              intro _ hw'
              obtain ⟨⟨dq, osq⟩, hw''⟩ := hw'
              subst hw''
              generalize (kid j).all P = y at *
              go_wp2_with fail
              go_roundw
              case rel => exact ⟨j + 1, y, by omega, by go_num, rfl, HF1.out, HX.out.below (below_regrown wr dq osq), HKK.out.below (below_regrown wr dq osq), HB.out.trans ((below_regrown wr dq osq).mono HB.out.size)⟩
              case measure => simp [intOf]; omega
          · have hjm : j = m := by omega
            subst hjm
            have HR : Hid (z = bk) := by unfold Hid; rw [HM.out, HP.out, HF.out]
            go_wp2_with fail
            go_ret
            exact ⟨kret_bool HR.out.symm, HB.out⟩
    · have hk2B : decide (kk = 2) = false := decide_eq_false hk2
      have hk2E : (kk == 2) = false := by simpa using hk2
      by_cases hk3 : kk = 3
      · have HPK : Hid (P kk s = (linesG l s).isSome) := by unfold Hid; rw [HPE.out, hk3]; rfl
        clear hk2 hk2B hk2E
        subst hk3
        go_wp2_with fail
        refine (lineAt_ref a n0 cap l s n0 _ (HL.out.below HB2.out) HN.out HM0.out (Nat.le_refl _)).mono ?_
        rintro e w1 ⟨rfl, hb1⟩
        have HB1 := HB2
        have HX1 := HX2
        have HK1 := HK2
        clear HB2 HX2 HK2
        have HB2 := Lib.hid (HB1.out.trans (hb1.mono HB1.out.size))
        have HX2 := Lib.hid (HX1.out.below hb1)
        have HK2 := Lib.hid (KAt.below HK1.out hb1)
        clear hb1 HB1 HX1 HK1
        obtain ⟨_, v0, v1, v2, v3⟩ := HX2.out
        obtain ⟨_, t0, t1, t2⟩ := HK2.out
        have hge := optI_ge (lastN (fun j => (lnth l j).name) n0 s)
        have HV : Hid (P 3 s = (lastN (fun j => (lnth l j).name) n0 s).isSome) := by unfold Hid; rw [HPK.out]; unfold linesG; rw [HN.out]
        clear HPK
        cases ho : (lastN (fun j => (lnth l j).name) n0 s).isSome
        · rw [ho] at hge
          have HP : Hid (P 3 s = false) := by unfold Hid; rw [HV.out, ho]
          clear HV ho
          generalize optI (lastN (fun j => (lnth l j).name) n0 s) = r at *
          obtain ⟨kk, hkk⟩ : ∃ kk : Int, kk = 3 := ⟨_, rfl⟩
          rw [← hkk] at HX2 HM HP
          go_wp2_with fail
          go_loopw [9, 10] (fun ov i wr => ∃ (j : Nat) (bk : Bool), j ≤ m ∧ i = .int .i64 j ∧ ov = .bool bk ∧ (false && allN (fun j => (kid j).all P) j) = bk ∧ XBox wr w.heap.size kk n s ax m cx ∧ KAt wr (w.heap.size + 1) (.slice a1 n1 c1) (.slice a2 n2 c2) (.slice a3 n3 c3) ∧ Below w.heap.size w wr) (fun _ i _ => m - (intOf i).toNat)
          case atStart => exact ⟨0, false, Nat.zero_le _, rfl, rfl, rfl, HX2.out, HK2.out, HB2.out⟩
          case round =>
            obtain ⟨j, bk, hj, rfl, rfl, hf, hx, hkk, hb⟩ := hrel
            have HF := Lib.hid hf
            have HX := Lib.hid hx
            have HKK := Lib.hid hkk
            have HB := Lib.hid hb
            clear hf hx hkk hb
            obtain ⟨_, v0, v1, v2, v3⟩ := HX.out
            obtain ⟨_, t0, t1, t2⟩ := HKK.out
            by_cases hlt : j < m
            · have hlt' : (j : Int) < (m : Int) := by omega
              obtain ⟨b, off, rfl, hcell⟩ := HK.out.open (show 0 < m by omega)
              obtain ⟨aj, cj, ⟨x0, x1, x2, x3⟩, hkj⟩ := hcell wr HB.out j hlt
              have HKJ := Lib.hid hkj
              clear hcell hkj
              have x0' : wr.cell? ⟨b, off + j * 4, none⟩ = some (.int .i64 (kid j).k) := x0
              have x1' : wr.cell? ⟨b, off + j * 4 + 1, none⟩ = some (.int .i64 (kid j).n) := x1
              have x2' : wr.cell? ⟨b, off + j * 4 + 2, none⟩ = some (.string (kid j).s) := x2
              have x3' : wr.cell? ⟨b, off + j * 4 + 3, none⟩ = some (.slice aj (kid j).m cj) := x3
              clear x0 x1 x2 x3
              have z0 := cell_regrown x0'
              have z1 := cell_regrown x1'
              have z2 := cell_regrown x2'
              have z3 := cell_regrown x3'
              have z4 := cell_regrown v3
              have z5 := cell_regrown t0
              have z6 := cell_regrown t1
              have z7 := cell_regrown t2
              cases bk
              · have HF1 : Hid ((false && allN (fun j => (kid j).all P) (j + 1)) = false) := by
                  have h := HF.out
                  unfold Hid
                  simp only [allN]
                  rw [← Bool.and_assoc, h]
                  rfl
                clear z0 z1 z2 z3 z4 z5 z6 z7
                go_wp2_with fail
                go_quiet (fail)
                go_wp2_with fail
                go_roundw
                case rel => exact ⟨j + 1, false, by omega, by go_num, rfl, HF1.out, HX.out.below (kbelow_dN (Below.refl _ _) _), HKK.out.below (kbelow_dN (Below.refl _ _) _), kbelow_dN HB.out _⟩
                case measure => simp [intOf]; omega
              · have HF1 : Hid ((false && allN (fun j => (kid j).all P) (j + 1)) = (kid j).all P) := by
                  have h := HF.out
                  unfold Hid
                  simp only [allN]
                  rw [← Bool.and_assoc, h]
                  rfl
                go_wp2_with fail
                refine wp_region_quiet_below (by kernel_rfl) (by kernel_rfl) ?_
                repeat (quiet_step (exact Calls.regrown_of (HIH.out j aj cj _ (HKJ.out.below (below_regrown wr _ _)) ((HL.out.below HB.out).below (below_regrown wr _ _)) ((HC.out.below HB.out).below (below_regrown wr _ _)))))
                refine wpQuiet_nil ?_
                intro _ hw'
                obtain ⟨⟨dq, osq⟩, hw''⟩ := hw'
                subst hw''
                generalize (kid j).all P = y at *
                go_wp2_with fail
                go_roundw
                case rel => exact ⟨j + 1, y, by omega, by go_num, rfl, HF1.out, HX.out.below (below_regrown wr dq osq), HKK.out.below (below_regrown wr dq osq), HB.out.trans ((below_regrown wr dq osq).mono HB.out.size)⟩
                case measure => simp [intOf]; omega
            · have hjm : j = m := by omega
              subst hjm
              have HR : Hid (z = bk) := by unfold Hid; rw [HM.out, HP.out, HF.out]
              go_wp2_with fail
              go_ret
              exact ⟨kret_bool HR.out.symm, HB.out⟩
        · rw [ho] at hge
          have HP : Hid (P 3 s = true) := by unfold Hid; rw [HV.out, ho]
          clear HV ho
          generalize optI (lastN (fun j => (lnth l j).name) n0 s) = r at *
          obtain ⟨kk, hkk⟩ : ∃ kk : Int, kk = 3 := ⟨_, rfl⟩
          rw [← hkk] at HX2 HM HP
          go_wp2_with fail
          go_loopw [9, 10] (fun ov i wr => ∃ (j : Nat) (bk : Bool), j ≤ m ∧ i = .int .i64 j ∧ ov = .bool bk ∧ (true && allN (fun j => (kid j).all P) j) = bk ∧ XBox wr w.heap.size kk n s ax m cx ∧ KAt wr (w.heap.size + 1) (.slice a1 n1 c1) (.slice a2 n2 c2) (.slice a3 n3 c3) ∧ Below w.heap.size w wr) (fun _ i _ => m - (intOf i).toNat)
          case atStart => exact ⟨0, true, Nat.zero_le _, rfl, rfl, rfl, HX2.out, HK2.out, HB2.out⟩
          case round =>
            obtain ⟨j, bk, hj, rfl, rfl, hf, hx, hkk, hb⟩ := hrel
            have HF := Lib.hid hf
            have HX := Lib.hid hx
            have HKK := Lib.hid hkk
            have HB := Lib.hid hb
            clear hf hx hkk hb
            obtain ⟨_, v0, v1, v2, v3⟩ := HX.out
            obtain ⟨_, t0, t1, t2⟩ := HKK.out
            by_cases hlt : j < m
            · have hlt' : (j : Int) < (m : Int) := by omega
              obtain ⟨b, off, rfl, hcell⟩ := HK.out.open (show 0 < m by omega)
              obtain ⟨aj, cj, ⟨x0, x1, x2, x3⟩, hkj⟩ := hcell wr HB.out j hlt
              have HKJ := Lib.hid hkj
              clear hcell hkj
              have x0' : wr.cell? ⟨b, off + j * 4, none⟩ = some (.int .i64 (kid j).k) := x0
              have x1' : wr.cell? ⟨b, off + j * 4 + 1, none⟩ = some (.int .i64 (kid j).n) := x1
              have x2' : wr.cell? ⟨b, off + j * 4 + 2, none⟩ = some (.string (kid j).s) := x2
              have x3' : wr.cell? ⟨b, off + j * 4 + 3, none⟩ = some (.slice aj (kid j).m cj) := x3
              clear x0 x1 x2 x3
              have z0 := cell_regrown x0'
              have z1 := cell_regrown x1'
              have z2 := cell_regrown x2'
              have z3 := cell_regrown x3'
              have z4 := cell_regrown v3
              have z5 := cell_regrown t0
              have z6 := cell_regrown t1
              have z7 := cell_regrown t2
              cases bk
              · have HF1 : Hid ((true && allN (fun j => (kid j).all P) (j + 1)) = false) := by
                  have h := HF.out
                  unfold Hid
                  simp only [allN]
                  rw [← Bool.and_assoc, h]
                  rfl
                clear z0 z1 z2 z3 z4 z5 z6 z7
                go_wp2_with fail
                go_quiet (fail)
                go_wp2_with fail
                go_roundw
                case rel => exact ⟨j + 1, false, by omega, by go_num, rfl, HF1.out, HX.out.below (kbelow_dN (Below.refl _ _) _), HKK.out.below (kbelow_dN (Below.refl _ _) _), kbelow_dN HB.out _⟩
                case measure => simp [intOf]; omega
              · have HF1 : Hid ((true && allN (fun j => (kid j).all P) (j + 1)) = (kid j).all P) := by
                  have h := HF.out
                  unfold Hid
                  simp only [allN]
                  rw [← Bool.and_assoc, h]
                  rfl
                go_wp2_with fail
                refine wp_region_quiet_below (by kernel_rfl) (by kernel_rfl) ?_
                repeat (quiet_step (exact Calls.regrown_of (HIH.out j aj cj _ (HKJ.out.below (below_regrown wr _ _)) ((HL.out.below HB.out).below (below_regrown wr _ _)) ((HC.out.below HB.out).below (below_regrown wr _ _)))))
                refine wpQuiet_nil ?_
                intro _ hw'
                obtain ⟨⟨dq, osq⟩, hw''⟩ := hw'
                subst hw''
                generalize (kid j).all P = y at *
                go_wp2_with fail
                go_roundw
                case rel => exact ⟨j + 1, y, by omega, by go_num, rfl, HF1.out, HX.out.below (below_regrown wr dq osq), HKK.out.below (below_regrown wr dq osq), HB.out.trans ((below_regrown wr dq osq).mono HB.out.size)⟩
                case measure => simp [intOf]; omega
            · have hjm : j = m := by omega
              subst hjm
              have HR : Hid (z = bk) := by unfold Hid; rw [HM.out, HP.out, HF.out]
              go_wp2_with fail
              go_ret
              exact ⟨kret_bool HR.out.symm, HB.out⟩
      · have hk3B : decide (kk = 3) = false := decide_eq_false hk3
        have hk3E : (kk == 3) = false := by simpa using hk3
        by_cases hk5 : kk = 5
        · have HPK : Hid (P kk s = (tabsG k s).isSome) := by unfold Hid; rw [HPE.out, hk5]; rfl
          clear hk2 hk2B hk2E hk3 hk3B hk3E
          subst hk5
          go_wp2_with fail
          refine (tableAt_ref a2 n2 c2 k.tbs s _ (HC.out.2.1.below HB2.out) H2.out (by have := HC.out.2.2.2.2.2.2.1; have := H2.out; omega)).mono ?_
          rintro e w1 ⟨rfl, hb1⟩
          have HB1 := HB2
          have HX1 := HX2
          have HK1 := HK2
          clear HB2 HX2 HK2
          have HB2 := Lib.hid (HB1.out.trans (hb1.mono HB1.out.size))
          have HX2 := Lib.hid (HX1.out.below hb1)
          have HK2 := Lib.hid (KAt.below HK1.out hb1)
          clear hb1 HB1 HX1 HK1
          obtain ⟨_, v0, v1, v2, v3⟩ := HX2.out
          obtain ⟨_, t0, t1, t2⟩ := HK2.out
          have hge := optI_ge (firstN (fun j => (tnth k.tbs j).name) n2 s)
          have HV : Hid (P 5 s = (firstN (fun j => (tnth k.tbs j).name) n2 s).isSome) := by unfold Hid; rw [HPK.out, firstN_some]; unfold tabsG; rw [H2.out]
          clear HPK
          cases ho : (firstN (fun j => (tnth k.tbs j).name) n2 s).isSome
          · rw [ho] at hge
            have HP : Hid (P 5 s = false) := by unfold Hid; rw [HV.out, ho]
            clear HV ho
            generalize optI (firstN (fun j => (tnth k.tbs j).name) n2 s) = r at *
            obtain ⟨kk, hkk⟩ : ∃ kk : Int, kk = 5 := ⟨_, rfl⟩
            rw [← hkk] at HX2 HM HP
            go_wp2_with fail
            go_loopw [9, 10] (fun ov i wr => ∃ (j : Nat) (bk : Bool), j ≤ m ∧ i = .int .i64 j ∧ ov = .bool bk ∧ (false && allN (fun j => (kid j).all P) j) = bk ∧ XBox wr w.heap.size kk n s ax m cx ∧ KAt wr (w.heap.size + 1) (.slice a1 n1 c1) (.slice a2 n2 c2) (.slice a3 n3 c3) ∧ Below w.heap.size w wr) (fun _ i _ => m - (intOf i).toNat)
            case atStart => exact ⟨0, false, Nat.zero_le _, rfl, rfl, rfl, HX2.out, HK2.out, HB2.out⟩
            case round =>
              obtain ⟨j, bk, hj, rfl, rfl, hf, hx, hkk, hb⟩ := hrel
              have HF := Lib.hid hf
              have HX := Lib.hid hx
              have HKK := Lib.hid hkk
              have HB := Lib.hid hb
              clear hf hx hkk hb
              obtain ⟨_, v0, v1, v2, v3⟩ := HX.out
              obtain ⟨_, t0, t1, t2⟩ := HKK.out
              by_cases hlt : j < m
              · have hlt' : (j : Int) < (m : Int) := by omega
                obtain ⟨b, off, rfl, hcell⟩ := HK.out.open (show 0 < m by omega)
                obtain ⟨aj, cj, ⟨x0, x1, x2, x3⟩, hkj⟩ := hcell wr HB.out j hlt
                have HKJ := Lib.hid hkj
                clear hcell hkj
                have x0' : wr.cell? ⟨b, off + j * 4, none⟩ = some (.int .i64 (kid j).k) := x0
                have x1' : wr.cell? ⟨b, off + j * 4 + 1, none⟩ = some (.int .i64 (kid j).n) := x1
                have x2' : wr.cell? ⟨b, off + j * 4 + 2, none⟩ = some (.string (kid j).s) := x2
                have x3' : wr.cell? ⟨b, off + j * 4 + 3, none⟩ = some (.slice aj (kid j).m cj) := x3
                clear x0 x1 x2 x3
                have z0 := cell_regrown x0'
                have z1 := cell_regrown x1'
                have z2 := cell_regrown x2'
                have z3 := cell_regrown x3'
                have z4 := cell_regrown v3
                have z5 := cell_regrown t0
                have z6 := cell_regrown t1
                have z7 := cell_regrown t2
                cases bk
                · have HF1 : Hid ((false && allN (fun j => (kid j).all P) (j + 1)) = false) := by
                    have h := HF.out
                    unfold Hid
                    simp only [allN]
                    rw [← Bool.and_assoc, h]
                    rfl
                  clear z0 z1 z2 z3 z4 z5 z6 z7
                  go_wp2_with fail
                  go_quiet (fail)
                  go_wp2_with fail
                  go_roundw
                  case rel => exact ⟨j + 1, false, by omega, by go_num, rfl, HF1.out, HX.out.below (kbelow_dN (Below.refl _ _) _), HKK.out.below (kbelow_dN (Below.refl _ _) _), kbelow_dN HB.out _⟩
                  case measure => simp [intOf]; omega
                · have HF1 : Hid ((false && allN (fun j => (kid j).all P) (j + 1)) = (kid j).all P) := by
                    have h := HF.out
                    unfold Hid
                    simp only [allN]
                    rw [← Bool.and_assoc, h]
                    rfl
                  go_wp2_with fail
                  refine wp_region_quiet_below (by kernel_rfl) (by kernel_rfl) ?_
                  repeat (quiet_step (exact Calls.regrown_of (HIH.out j aj cj _ (HKJ.out.below (below_regrown wr _ _)) ((HL.out.below HB.out).below (below_regrown wr _ _)) ((HC.out.below HB.out).below (below_regrown wr _ _)))))
                  refine wpQuiet_nil ?_
                  intro _ hw'
                  obtain ⟨⟨dq, osq⟩, hw''⟩ := hw'
                  subst hw''
                  generalize (kid j).all P = y at *
                  go_wp2_with fail
                  go_roundw
                  case rel => exact ⟨j + 1, y, by omega, by go_num, rfl, HF1.out, HX.out.below (below_regrown wr dq osq), HKK.out.below (below_regrown wr dq osq), HB.out.trans ((below_regrown wr dq osq).mono HB.out.size)⟩
                  case measure => simp [intOf]; omega
              · have hjm : j = m := by omega
                subst hjm
                have HR : Hid (z = bk) := by unfold Hid; rw [HM.out, HP.out, HF.out]
                go_wp2_with fail
                go_ret
                exact ⟨kret_bool HR.out.symm, HB.out⟩
          · rw [ho] at hge
            have HP : Hid (P 5 s = true) := by unfold Hid; rw [HV.out, ho]
            clear HV ho
            generalize optI (firstN (fun j => (tnth k.tbs j).name) n2 s) = r at *
            obtain ⟨kk, hkk⟩ : ∃ kk : Int, kk = 5 := ⟨_, rfl⟩
            rw [← hkk] at HX2 HM HP
            go_wp2_with fail
            go_loopw [9, 10] (fun ov i wr => ∃ (j : Nat) (bk : Bool), j ≤ m ∧ i = .int .i64 j ∧ ov = .bool bk ∧ (true && allN (fun j => (kid j).all P) j) = bk ∧ XBox wr w.heap.size kk n s ax m cx ∧ KAt wr (w.heap.size + 1) (.slice a1 n1 c1) (.slice a2 n2 c2) (.slice a3 n3 c3) ∧ Below w.heap.size w wr) (fun _ i _ => m - (intOf i).toNat)
            case atStart => exact ⟨0, true, Nat.zero_le _, rfl, rfl, rfl, HX2.out, HK2.out, HB2.out⟩
            case round =>
              obtain ⟨j, bk, hj, rfl, rfl, hf, hx, hkk, hb⟩ := hrel
              have HF := Lib.hid hf
              have HX := Lib.hid hx
              have HKK := Lib.hid hkk
              have HB := Lib.hid hb
              clear hf hx hkk hb
              obtain ⟨_, v0, v1, v2, v3⟩ := HX.out
              obtain ⟨_, t0, t1, t2⟩ := HKK.out
              by_cases hlt : j < m
              · have hlt' : (j : Int) < (m : Int) := by omega
                obtain ⟨b, off, rfl, hcell⟩ := HK.out.open (show 0 < m by omega)
                obtain ⟨aj, cj, ⟨x0, x1, x2, x3⟩, hkj⟩ := hcell wr HB.out j hlt
                have HKJ := Lib.hid hkj
                clear hcell hkj
                have x0' : wr.cell? ⟨b, off + j * 4, none⟩ = some (.int .i64 (kid j).k) := x0
                have x1' : wr.cell? ⟨b, off + j * 4 + 1, none⟩ = some (.int .i64 (kid j).n) := x1
                have x2' : wr.cell? ⟨b, off + j * 4 + 2, none⟩ = some (.string (kid j).s) := x2
                have x3' : wr.cell? ⟨b, off + j * 4 + 3, none⟩ = some (.slice aj (kid j).m cj) := x3
                clear x0 x1 x2 x3
                have z0 := cell_regrown x0'
                have z1 := cell_regrown x1'
                have z2 := cell_regrown x2'
                have z3 := cell_regrown x3'
                have z4 := cell_regrown v3
                have z5 := cell_regrown t0
                have z6 := cell_regrown t1
                have z7 := cell_regrown t2
                cases bk
                · have HF1 : Hid ((true && allN (fun j => (kid j).all P) (j + 1)) = false) := by
                    have h := HF.out
                    unfold Hid
                    simp only [allN]
                    rw [← Bool.and_assoc, h]
                    rfl
                  clear z0 z1 z2 z3 z4 z5 z6 z7
                  go_wp2_with fail
                  go_quiet (fail)
                  go_wp2_with fail
                  go_roundw
                  case rel => exact ⟨j + 1, false, by omega, by go_num, rfl, HF1.out, HX.out.below (kbelow_dN (Below.refl _ _) _), HKK.out.below (kbelow_dN (Below.refl _ _) _), kbelow_dN HB.out _⟩
                  case measure => simp [intOf]; omega
                · have HF1 : Hid ((true && allN (fun j => (kid j).all P) (j + 1)) = (kid j).all P) := by
                    have h := HF.out
                    unfold Hid
                    simp only [allN]
                    rw [← Bool.and_assoc, h]
                    rfl
                  go_wp2_with fail
                  refine wp_region_quiet_below (by kernel_rfl) (by kernel_rfl) ?_
                  repeat (quiet_step (exact Calls.regrown_of (HIH.out j aj cj _ (HKJ.out.below (below_regrown wr _ _)) ((HL.out.below HB.out).below (below_regrown wr _ _)) ((HC.out.below HB.out).below (below_regrown wr _ _)))))
                  refine wpQuiet_nil ?_
                  intro _ hw'
                  obtain ⟨⟨dq, osq⟩, hw''⟩ := hw'
                  subst hw''
                  generalize (kid j).all P = y at *
                  go_wp2_with fail
                  go_roundw
                  case rel => exact ⟨j + 1, y, by omega, by go_num, rfl, HF1.out, HX.out.below (below_regrown wr dq osq), HKK.out.below (below_regrown wr dq osq), HB.out.trans ((below_regrown wr dq osq).mono HB.out.size)⟩
                  case measure => simp [intOf]; omega
              · have hjm : j = m := by omega
                subst hjm
                have HR : Hid (z = bk) := by unfold Hid; rw [HM.out, HP.out, HF.out]
                go_wp2_with fail
                go_ret
                exact ⟨kret_bool HR.out.symm, HB.out⟩
        · have hk5B : decide (kk = 5) = false := decide_eq_false hk5
          have hk5E : (kk == 5) = false := by simpa using hk5
          have HP : Hid (P kk s = true) := by unfold Hid; rw [HPE.out]; unfold knowB; rw [if_neg hk2, if_neg hk3, if_neg hk5]
          go_wp2_with fail
          go_loopw [9, 10] (fun ov i wr => ∃ (j : Nat) (bk : Bool), j ≤ m ∧ i = .int .i64 j ∧ ov = .bool bk ∧ (true && allN (fun j => (kid j).all P) j) = bk ∧ XBox wr w.heap.size kk n s ax m cx ∧ KAt wr (w.heap.size + 1) (.slice a1 n1 c1) (.slice a2 n2 c2) (.slice a3 n3 c3) ∧ Below w.heap.size w wr) (fun _ i _ => m - (intOf i).toNat)
          case atStart => exact ⟨0, true, Nat.zero_le _, rfl, rfl, rfl, HX2.out, HK2.out, HB2.out⟩
          case round =>
            obtain ⟨j, bk, hj, rfl, rfl, hf, hx, hkk, hb⟩ := hrel
            have HF := Lib.hid hf
            have HX := Lib.hid hx
            have HKK := Lib.hid hkk
            have HB := Lib.hid hb
            clear hf hx hkk hb
            obtain ⟨_, v0, v1, v2, v3⟩ := HX.out
            obtain ⟨_, t0, t1, t2⟩ := HKK.out
            by_cases hlt : j < m
            · have hlt' : (j : Int) < (m : Int) := by omega
              obtain ⟨b, off, rfl, hcell⟩ := HK.out.open (show 0 < m by omega)
              obtain ⟨aj, cj, ⟨x0, x1, x2, x3⟩, hkj⟩ := hcell wr HB.out j hlt
              have HKJ := Lib.hid hkj
              clear hcell hkj
              have x0' : wr.cell? ⟨b, off + j * 4, none⟩ = some (.int .i64 (kid j).k) := x0
              have x1' : wr.cell? ⟨b, off + j * 4 + 1, none⟩ = some (.int .i64 (kid j).n) := x1
              have x2' : wr.cell? ⟨b, off + j * 4 + 2, none⟩ = some (.string (kid j).s) := x2
              have x3' : wr.cell? ⟨b, off + j * 4 + 3, none⟩ = some (.slice aj (kid j).m cj) := x3
              clear x0 x1 x2 x3
              have z0 := cell_regrown x0'
              have z1 := cell_regrown x1'
              have z2 := cell_regrown x2'
              have z3 := cell_regrown x3'
              have z4 := cell_regrown v3
              have z5 := cell_regrown t0
              have z6 := cell_regrown t1
              have z7 := cell_regrown t2
              cases bk
              · have HF1 : Hid ((true && allN (fun j => (kid j).all P) (j + 1)) = false) := by
                  have h := HF.out
                  unfold Hid
                  simp only [allN]
                  rw [← Bool.and_assoc, h]
                  rfl
                clear z0 z1 z2 z3 z4 z5 z6 z7
                go_wp2_with fail
                go_quiet (fail)
                go_wp2_with fail
                go_roundw
                case rel => exact ⟨j + 1, false, by omega, by go_num, rfl, HF1.out, HX.out.below (kbelow_dN (Below.refl _ _) _), HKK.out.below (kbelow_dN (Below.refl _ _) _), kbelow_dN HB.out _⟩
                case measure => simp [intOf]; omega
              · have HF1 : Hid ((true && allN (fun j => (kid j).all P) (j + 1)) = (kid j).all P) := by
                  have h := HF.out
                  unfold Hid
                  simp only [allN]
                  rw [← Bool.and_assoc, h]
                  rfl
                go_wp2_with fail
                refine wp_region_quiet_below (by kernel_rfl) (by kernel_rfl) ?_
                repeat (quiet_step (exact Calls.regrown_of (HIH.out j aj cj _ (HKJ.out.below (below_regrown wr _ _)) ((HL.out.below HB.out).below (below_regrown wr _ _)) ((HC.out.below HB.out).below (below_regrown wr _ _)))))
                refine wpQuiet_nil ?_
                intro _ hw'
                obtain ⟨⟨dq, osq⟩, hw''⟩ := hw'
                subst hw''
                generalize (kid j).all P = y at *
                go_wp2_with fail
                go_roundw
                case rel => exact ⟨j + 1, y, by omega, by go_num, rfl, HF1.out, HX.out.below (below_regrown wr dq osq), HKK.out.below (below_regrown wr dq osq), HB.out.trans ((below_regrown wr dq osq).mono HB.out.size)⟩
                case measure => simp [intOf]; omega
            · have hjm : j = m := by omega
              subst hjm
              have HR : Hid (z = bk) := by unfold Hid; rw [HM.out, HP.out, HF.out]
              go_wp2_with fail
              go_ret
              exact ⟨kret_bool HR.out.symm, HB.out⟩
end Go.Proofs.YtoingnhiipfnlaaDoor
