/-
  Promise H1: the walk of the reference's CheckKnown.
-/
import Derived.Test.YtoingnhiipfnlaaDoorNAmR
import Derived.Test.YtoingnhiipfnlaaDoorNTbE
namespace Go.Proofs.YtoingnhiipfnlaaDoor
open Go.RowKit Go.Sort

theorem tblE_bd' (s : ByteArray) (l : List Bk) : 0 ≤ tblE s l ∧ tblE s l ≤ 6 := by have := tblE_bd s l; omega
/-- What the reference has found behind the first loop. -/
theorem tbsE_err {l : List Tb} {n k : Nat} (hn : l.length = n) (hk : k < n) (h0 : firstE (tbE l) k = 0) (he : tbE l k ≠ 0) : tbsE l = tbE l k := by
  have h := firstE_err hk h0 he
  unfold tbsE
  rw [hn, h]
  exact if_neg he
set_option maxRecDepth 100000 in
set_option maxHeartbeats 4000000 in
theorem known_ref (a1 a2 a3 : Option Addr) (n1 n2 n3 c1 c2 c3 : Nat) (k : Kn) (w : World) (hc : CameK w a1 a2 a3 k) (h1 : k.ins.length = n1) (h2 : k.tbs.length = n2) (h3 : k.yrs.length = n3) :
    Calls Tryd.prog 11 #[.agg #[.slice a1 n1 c1, .slice a2 n2 c2, .slice a3 n3 c3]] w fun e w' => e = .returned (.int .i64 (knE k)) ∧ Below w.heap.size w w' := by
  have hm1 : n1 ≤ 9223372036854775807 := by have := hc.2.2.2.2.2.1; unfold maxLen at this; omega
  have hm2 : n2 ≤ 9223372036854775807 := by have := hc.2.2.2.2.2.2.1; unfold maxLen at this; omega
  have hm3 : n3 ≤ 9223372036854775807 := by have := hc.2.2.2.2.2.2.2; unfold maxLen at this; omega
  have HC := Lib.hid hc
  have H1 := Lib.hid h1
  have H2 := Lib.hid h2
  have H3 := Lib.hid h3
  have HE : Hid (knE k = if 30 < n1 ∨ 30 < n2 ∨ 30 < n3 then 2 else if amsE k.ins = 0 then (if amsE k.yrs = 0 then tbsE k.tbs else amsE k.yrs) else amsE k.ins) := by unfold Hid knE; rw [h1, h2, h3]
  clear hc h1 h2 h3
  have HB0 := Lib.hid (kbelow_box w (.cells #[.slice a1 n1 c1, .slice a2 n2 c2, .slice a3 n3 c3] 25))
  have HK0 := Lib.hid (KAt.made w (.slice a1 n1 c1) (.slice a2 n2 c2) (.slice a3 n3 c3) 25)
  by_cases g1 : 30 < n1
  · have g1' : (30 : Int) < (n1 : Int) := by omega
    have HR : Hid (knE k = 2) := by unfold Hid; rw [HE.out, if_pos (.inl g1)]
    go_enter Tryd.func11, Tryd.ntmps11
    go_wp2_with fail
    go_ret
    exact ⟨kret_int HR.out.symm, HB0.out⟩
  · have g1' : decide ((30 : Int) < (n1 : Int)) = false := decide_eq_false (by omega)
    by_cases g2 : 30 < n2
    · have g2' : (30 : Int) < (n2 : Int) := by omega
      have HR : Hid (knE k = 2) := by unfold Hid; rw [HE.out, if_pos (.inr (.inl g2))]
      go_enter Tryd.func11, Tryd.ntmps11
      go_wp2_with fail
      go_ret
      exact ⟨kret_int HR.out.symm, HB0.out⟩
    · have g2' : decide ((30 : Int) < (n2 : Int)) = false := decide_eq_false (by omega)
      by_cases g3 : 30 < n3
      · have g3' : (30 : Int) < (n3 : Int) := by omega
        have HR : Hid (knE k = 2) := by unfold Hid; rw [HE.out, if_pos (.inr (.inr g3))]
        go_enter Tryd.func11, Tryd.ntmps11
        go_wp2_with fail
        go_ret
        exact ⟨kret_int HR.out.symm, HB0.out⟩
      · have g3' : decide ((30 : Int) < (n3 : Int)) = false := decide_eq_false (by omega)
        have HEN : Hid (knE k = if amsE k.ins = 0 then (if amsE k.yrs = 0 then tbsE k.tbs else amsE k.yrs) else amsE k.ins) := by unfold Hid; rw [HE.out, if_neg (by omega)]
        go_enter Tryd.func11, Tryd.ntmps11
        go_wp2_with fail
        refine (checkAmounts_ref a1 n1 c1 k.ins _ (HC.out.1.below HB0.out) HC.out.2.2.2.1 H1.out (by have := HC.out.2.2.2.2.2.1; have := H1.out; omega)).mono ?_
        rintro e w1 ⟨rfl, hb1⟩
        have HB1 := Lib.hid (HB0.out.trans (hb1.mono HB0.out.size))
        have HX1 := Lib.hid (KAt.below HK0.out hb1)
        clear hb1
        obtain ⟨_, x0, x1, x2⟩ := HX1.out
        have hb1 := amsE_bd k.ins
        have hb3 := amsE_bd k.yrs
        by_cases z1 : amsE k.ins = 0
        · rw [if_pos z1] at HEN
          rw [z1]
          clear hb1
          go_wp2_with fail
          refine (checkAmounts_ref a3 n3 c3 k.yrs _ (HC.out.2.2.1.below HB1.out) HC.out.2.2.2.2.1 H3.out (by have := HC.out.2.2.2.2.2.2.2; have := H3.out; omega)).mono ?_
          rintro e w2 ⟨rfl, hb2⟩
          have HB2 := Lib.hid (HB1.out.trans (hb2.mono HB1.out.size))
          have HX2 := Lib.hid (KAt.below HX1.out hb2)
          clear hb2 x0 x1 x2
          obtain ⟨_, x0, x1, x2⟩ := HX2.out
          have HZ : Hid (amsE k.yrs ≠ 0 → knE k = amsE k.yrs) := fun h => by rw [HEN.out]; exact if_neg h
          have HZE : Hid (amsE k.yrs = 0 → knE k = tbsE k.tbs) := fun h => by rw [HEN.out]; exact if_pos h
          clear HEN
          generalize amsE k.yrs = z at *
          go_wp2_with fail
          go_loopw [3, 4] (fun ev i wr => ∃ (j : Nat) (x : Int), j ≤ n2 ∧ i = .int .i64 j ∧ ev = .int .i64 x ∧ 0 ≤ x ∧ x ≤ 6 ∧ (x = 0 → firstE (tbE k.tbs) j = 0 ∧ z = 0) ∧ (x ≠ 0 → knE k = x) ∧ Below w2.heap.size w2 wr) (fun _ i _ => n2 - (intOf i).toNat)
          case atStart => exact ⟨0, z, Nat.zero_le _, rfl, rfl, by omega, by omega, fun h => ⟨rfl, h⟩, HZ.out, Below.refl _ _⟩
          case round =>
            obtain ⟨j, x, hj, rfl, rfl, hx0, hx6, hfx, hkx, hbr⟩ := hrel
            have HFX := Lib.hid hfx
            have HKX := Lib.hid hkx
            have HBR := Lib.hid hbr
            have HX3 := Lib.hid (KAt.below HX2.out hbr)
            have HBW := Lib.hid (HB2.out.trans (hbr.mono HB2.out.size))
            clear hfx hkx hbr x0 x1 x2
            obtain ⟨_, x0, x1, x2⟩ := HX3.out
            by_cases hlt : j < n2
            · have hlt' : (j : Int) < (n2 : Int) := by omega
              by_cases hx : x = 0
              · have HF0 := Lib.hid (HFX.out hx)
                clear HFX HKX
                subst hx
                obtain ⟨b, off, rfl, hcell⟩ := HC.out.2.1.open H2.out (by omega)
                obtain ⟨ax, cx, y0, y1, hcb, hs, hlb⟩ := hcell wr HBW.out j hlt
                have HCB := Lib.hid hcb
                have HLB := Lib.hid hlb
                clear hcell hcb hlb
                go_wp2_with fail
                refine (check_ref (tnth k.tbs j).name ax _ cx (tnth k.tbs j).bks _ (by unfold maxLen at hs; omega) HCB.out rfl HLB.out).mono ?_
                rintro e w3 ⟨rfl, hb3⟩
                have HB3 := Lib.hid (HBR.out.trans (hb3.mono HBR.out.size))
                have hbd := tblE_bd' (tnth k.tbs j).name (tnth k.tbs j).bks
                clear hb3 x0 x1 x2 y0 y1
                have HF1 : Hid (tblE (tnth k.tbs j).name (tnth k.tbs j).bks = 0 → firstE (tbE k.tbs) (j + 1) = 0 ∧ z = 0) := fun h => ⟨by rw [firstE_ok HF0.out.1]; exact h, HF0.out.2⟩
                have HF2 : Hid (tblE (tnth k.tbs j).name (tnth k.tbs j).bks ≠ 0 → knE k = tblE (tnth k.tbs j).name (tnth k.tbs j).bks) := fun h => by
                  rw [HZE.out HF0.out.2]
                  exact tbsE_err H2.out hlt HF0.out.1 h
                generalize tblE (tnth k.tbs j).name (tnth k.tbs j).bks = y at *
                go_wp2_with fail
                go_roundw
                case rel => exact ⟨j + 1, y, by omega, by go_num, rfl, by omega, by omega, HF1.out, HF2.out, HB3.out⟩
                case measure => simp [intOf]; omega
              · have hxB : decide (x = 0) = false := decide_eq_false hx
                have hxE : (x == 0) = false := by simpa using hx
                have HR := Lib.hid (HKX.out hx)
                clear HFX HKX
                go_wp2_with fail
                go_loopw [3, 5] (fun ev i wq => ev = .int .i64 x ∧ i = .int .i64 1 ∧ Below wr.heap.size wr wq) (fun _ _ _ => 0)
                case atStart => exact ⟨rfl, rfl, Below.refl _ _⟩
                case round =>
                  obtain ⟨rfl, rfl, hbq⟩ := hrel
                  have HBQ := Lib.hid (HBW.out.trans (hbq.mono HBW.out.size))
                  have HX4 := Lib.hid (KAt.below HX3.out hbq)
                  clear hbq x0 x1 x2
                  obtain ⟨_, x0, x1, x2⟩ := HX4.out
                  by_cases h1 : (1 : Int) < (n2 : Int)
                  · go_wp2_with fail
                    go_ret
                    exact ⟨kret_int HR.out.symm, HBQ.out⟩
                  · have h1B : decide ((1 : Int) < (n2 : Int)) = false := decide_eq_false h1
                    go_wp2_with fail
                    go_ret
                    exact ⟨kret_int HR.out.symm, HBQ.out⟩
            · have hlB : decide ((j : Int) < (n2 : Int)) = false := decide_eq_false (by omega)
              have hjn : j = n2 := by omega
              subst hjn
              have HT : Hid (x = 0 → knE k = if upN (fun j => (tnth k.tbs j).name) j = false then 6 else 0) := fun h => by
                rw [HZE.out (HFX.out h).2]
                unfold tbsE
                rw [H2.out]
                exact if_pos (HFX.out h).1
              clear HFX
              go_wp2_with fail
              go_loopw [3, 5] (fun ev i wq => ∃ (r : Nat) (y : Int), (r + 1 ≤ j ∨ r = 0) ∧ i = .int .i64 ((r : Int) + 1) ∧ ev = .int .i64 y ∧ 0 ≤ y ∧ y ≤ 6 ∧ (y = 0 → x = 0 ∧ ∀ i, i < r → leS (tnth k.tbs (i + 1)).name (tnth k.tbs i).name = false) ∧ (y ≠ 0 → knE k = y) ∧ Below wr.heap.size wr wq) (fun _ i _ => j - (intOf i).toNat)
              case atStart => exact ⟨0, x, .inr rfl, rfl, rfl, by omega, by omega, fun h => ⟨h, fun i hi => by omega⟩, HKX.out, Below.refl _ _⟩
              case round =>
                obtain ⟨r, y, hrk, rfl, rfl, hy0, hy6, hall, hky, hbq⟩ := hrel
                have HA := Lib.hid hall
                have HKY := Lib.hid hky
                have HBQ := Lib.hid hbq
                have HBV := Lib.hid (HBW.out.trans (hbq.mono HBW.out.size))
                have HX4 := Lib.hid (KAt.below HX3.out hbq)
                clear hall hky hbq x0 x1 x2
                obtain ⟨_, x0, x1, x2⟩ := HX4.out
                by_cases hlt : r + 1 < j
                · have hlt' : (r : Int) + 1 < (j : Int) := by omega
                  by_cases hy : y = 0
                  · have HA0 := Lib.hid (HA.out hy)
                    clear HA HKY
                    subst hy
                    have hlt0 : (r : Int) < (j : Int) := by omega
                    obtain ⟨b, off, rfl, hcell⟩ := HC.out.2.1.open H2.out (by omega)
                    obtain ⟨ax, cx, p0, p1, _⟩ := hcell _ HBV.out r (by omega)
                    obtain ⟨ay, cy, q0, q1, _⟩ := hcell _ HBV.out (r + 1) (by omega)
                    clear hcell
                    have htn : ((r : Int) + 1).toNat = r + 1 := by omega
                    have hsub : (r : Int) + 1 - 1 = (r : Int) := by omega
                    cases hle : leS (tnth k.tbs (r + 1)).name (tnth k.tbs r).name
                    · have HA1 : Hid (∀ i, i < r + 1 → leS (tnth k.tbs (i + 1)).name (tnth k.tbs i).name = false) := fun i hi => by
                        by_cases e : i = r
                        · subst e; exact hle
                        · exact HA0.out.2 i (by omega)
                      have HX0 := Lib.hid HA0.out.1
                      unfold leS at hle
                      go_wp2_with fail
                      go_quiet (fail)
                      go_wp2_with fail
                      go_roundw
                      case rel => exact ⟨r + 1, 0, .inl (by omega), by go_num, rfl, by omega, by omega, fun _ => ⟨HX0.out, HA1.out⟩, fun h => absurd rfl h, kbelow_dN HBQ.out _⟩
                      case measure => simp [intOf]; omega
                    · have HR : Hid (knE k = 6) := by
                        unfold Hid
                        rw [HT.out HA0.out.1, if_pos (upN_not (f := fun j => (tnth k.tbs j).name) hlt hle)]
                      unfold leS at hle
                      go_wp2_with fail
                      go_quiet (fail)
                      go_wp2_with fail
                      go_roundw
                      case rel => exact ⟨r + 1, 6, .inl (by omega), by go_num, rfl, by omega, by omega, fun h => by omega, fun _ => HR.out, kbelow_dN HBQ.out _⟩
                      case measure => simp [intOf]; omega
                  · have hyB : decide (y = 0) = false := decide_eq_false hy
                    have hyE : (y == 0) = false := by simpa using hy
                    have HR := Lib.hid (HKY.out hy)
                    go_wp2_with fail
                    go_ret
                    exact ⟨kret_int HR.out.symm, HBV.out⟩
                · have hlB2 : decide ((r : Int) + 1 < (j : Int)) = false := decide_eq_false (by omega)
                  have HR : Hid (knE k = y) := by
                    unfold Hid
                    by_cases hy : y = 0
                    · rw [HT.out (HA.out hy).1, upN_iff.2 (fun i hi => (HA.out hy).2 i (by omega))]
                      simp [hy]
                    · exact HKY.out hy
                  clear HA HKY
                  go_wp2_with fail
                  go_ret
                  exact ⟨kret_int HR.out.symm, HBV.out⟩
        · rw [if_neg z1] at HEN
          have z1B : decide (amsE k.ins = 0) = false := decide_eq_false z1
          have z1N : (amsE k.ins == 0) = false := by simpa using z1
          have HZ : Hid (amsE k.ins ≠ 0 → knE k = amsE k.ins) := fun _ => HEN.out
          have HZE : Hid (amsE k.ins = 0 → knE k = tbsE k.tbs) := fun h => absurd h z1
          clear HEN hb3
          generalize amsE k.ins = z at *
          have HB2 := HB1
          have HX2 := HX1
          generalize w1 = w2 at *
          go_wp2_with fail
          go_loopw [3, 4] (fun ev i wr => ∃ (j : Nat) (x : Int), j ≤ n2 ∧ i = .int .i64 j ∧ ev = .int .i64 x ∧ 0 ≤ x ∧ x ≤ 6 ∧ (x = 0 → firstE (tbE k.tbs) j = 0 ∧ z = 0) ∧ (x ≠ 0 → knE k = x) ∧ Below w2.heap.size w2 wr) (fun _ i _ => n2 - (intOf i).toNat)
          case atStart => exact ⟨0, z, Nat.zero_le _, rfl, rfl, by omega, by omega, fun h => ⟨rfl, h⟩, HZ.out, Below.refl _ _⟩
          case round =>
            obtain ⟨j, x, hj, rfl, rfl, hx0, hx6, hfx, hkx, hbr⟩ := hrel
            have HFX := Lib.hid hfx
            have HKX := Lib.hid hkx
            have HBR := Lib.hid hbr
            have HX3 := Lib.hid (KAt.below HX2.out hbr)
            have HBW := Lib.hid (HB2.out.trans (hbr.mono HB2.out.size))
            clear hfx hkx hbr x0 x1 x2
            obtain ⟨_, x0, x1, x2⟩ := HX3.out
            by_cases hlt : j < n2
            · have hlt' : (j : Int) < (n2 : Int) := by omega
              by_cases hx : x = 0
              · have HF0 := Lib.hid (HFX.out hx)
                clear HFX HKX
                subst hx
                obtain ⟨b, off, rfl, hcell⟩ := HC.out.2.1.open H2.out (by omega)
                obtain ⟨ax, cx, y0, y1, hcb, hs, hlb⟩ := hcell wr HBW.out j hlt
                have HCB := Lib.hid hcb
                have HLB := Lib.hid hlb
                clear hcell hcb hlb
                go_wp2_with fail
                refine (check_ref (tnth k.tbs j).name ax _ cx (tnth k.tbs j).bks _ (by unfold maxLen at hs; omega) HCB.out rfl HLB.out).mono ?_
                rintro e w3 ⟨rfl, hb3⟩
                have HB3 := Lib.hid (HBR.out.trans (hb3.mono HBR.out.size))
                have hbd := tblE_bd' (tnth k.tbs j).name (tnth k.tbs j).bks
                clear hb3 x0 x1 x2 y0 y1
                have HF1 : Hid (tblE (tnth k.tbs j).name (tnth k.tbs j).bks = 0 → firstE (tbE k.tbs) (j + 1) = 0 ∧ z = 0) := fun h => ⟨by rw [firstE_ok HF0.out.1]; exact h, HF0.out.2⟩
                have HF2 : Hid (tblE (tnth k.tbs j).name (tnth k.tbs j).bks ≠ 0 → knE k = tblE (tnth k.tbs j).name (tnth k.tbs j).bks) := fun h => by
                  rw [HZE.out HF0.out.2]
                  exact tbsE_err H2.out hlt HF0.out.1 h
                generalize tblE (tnth k.tbs j).name (tnth k.tbs j).bks = y at *
                go_wp2_with fail
                go_roundw
                case rel => exact ⟨j + 1, y, by omega, by go_num, rfl, by omega, by omega, HF1.out, HF2.out, HB3.out⟩
                case measure => simp [intOf]; omega
              · have hxB : decide (x = 0) = false := decide_eq_false hx
                have hxE : (x == 0) = false := by simpa using hx
                have HR := Lib.hid (HKX.out hx)
                clear HFX HKX
                go_wp2_with fail
                go_loopw [3, 5] (fun ev i wq => ev = .int .i64 x ∧ i = .int .i64 1 ∧ Below wr.heap.size wr wq) (fun _ _ _ => 0)
                case atStart => exact ⟨rfl, rfl, Below.refl _ _⟩
                case round =>
                  obtain ⟨rfl, rfl, hbq⟩ := hrel
                  have HBQ := Lib.hid (HBW.out.trans (hbq.mono HBW.out.size))
                  have HX4 := Lib.hid (KAt.below HX3.out hbq)
                  clear hbq x0 x1 x2
                  obtain ⟨_, x0, x1, x2⟩ := HX4.out
                  by_cases h1 : (1 : Int) < (n2 : Int)
                  · go_wp2_with fail
                    go_ret
                    exact ⟨kret_int HR.out.symm, HBQ.out⟩
                  · have h1B : decide ((1 : Int) < (n2 : Int)) = false := decide_eq_false h1
                    go_wp2_with fail
                    go_ret
                    exact ⟨kret_int HR.out.symm, HBQ.out⟩
            · have hlB : decide ((j : Int) < (n2 : Int)) = false := decide_eq_false (by omega)
              have hjn : j = n2 := by omega
              subst hjn
              have HT : Hid (x = 0 → knE k = if upN (fun j => (tnth k.tbs j).name) j = false then 6 else 0) := fun h => by
                rw [HZE.out (HFX.out h).2]
                unfold tbsE
                rw [H2.out]
                exact if_pos (HFX.out h).1
              clear HFX
              go_wp2_with fail
              go_loopw [3, 5] (fun ev i wq => ∃ (r : Nat) (y : Int), (r + 1 ≤ j ∨ r = 0) ∧ i = .int .i64 ((r : Int) + 1) ∧ ev = .int .i64 y ∧ 0 ≤ y ∧ y ≤ 6 ∧ (y = 0 → x = 0 ∧ ∀ i, i < r → leS (tnth k.tbs (i + 1)).name (tnth k.tbs i).name = false) ∧ (y ≠ 0 → knE k = y) ∧ Below wr.heap.size wr wq) (fun _ i _ => j - (intOf i).toNat)
              case atStart => exact ⟨0, x, .inr rfl, rfl, rfl, by omega, by omega, fun h => ⟨h, fun i hi => by omega⟩, HKX.out, Below.refl _ _⟩
              case round =>
                obtain ⟨r, y, hrk, rfl, rfl, hy0, hy6, hall, hky, hbq⟩ := hrel
                have HA := Lib.hid hall
                have HKY := Lib.hid hky
                have HBQ := Lib.hid hbq
                have HBV := Lib.hid (HBW.out.trans (hbq.mono HBW.out.size))
                have HX4 := Lib.hid (KAt.below HX3.out hbq)
                clear hall hky hbq x0 x1 x2
                obtain ⟨_, x0, x1, x2⟩ := HX4.out
                by_cases hlt : r + 1 < j
                · have hlt' : (r : Int) + 1 < (j : Int) := by omega
                  by_cases hy : y = 0
                  · have HA0 := Lib.hid (HA.out hy)
                    clear HA HKY
                    subst hy
                    have hlt0 : (r : Int) < (j : Int) := by omega
                    obtain ⟨b, off, rfl, hcell⟩ := HC.out.2.1.open H2.out (by omega)
                    obtain ⟨ax, cx, p0, p1, _⟩ := hcell _ HBV.out r (by omega)
                    obtain ⟨ay, cy, q0, q1, _⟩ := hcell _ HBV.out (r + 1) (by omega)
                    clear hcell
                    have htn : ((r : Int) + 1).toNat = r + 1 := by omega
                    have hsub : (r : Int) + 1 - 1 = (r : Int) := by omega
                    cases hle : leS (tnth k.tbs (r + 1)).name (tnth k.tbs r).name
                    · have HA1 : Hid (∀ i, i < r + 1 → leS (tnth k.tbs (i + 1)).name (tnth k.tbs i).name = false) := fun i hi => by
                        by_cases e : i = r
                        · subst e; exact hle
                        · exact HA0.out.2 i (by omega)
                      have HX0 := Lib.hid HA0.out.1
                      unfold leS at hle
                      go_wp2_with fail
                      go_quiet (fail)
                      go_wp2_with fail
                      go_roundw
                      case rel => exact ⟨r + 1, 0, .inl (by omega), by go_num, rfl, by omega, by omega, fun _ => ⟨HX0.out, HA1.out⟩, fun h => absurd rfl h, kbelow_dN HBQ.out _⟩
                      case measure => simp [intOf]; omega
                    · have HR : Hid (knE k = 6) := by
                        unfold Hid
                        rw [HT.out HA0.out.1, if_pos (upN_not (f := fun j => (tnth k.tbs j).name) hlt hle)]
                      unfold leS at hle
                      go_wp2_with fail
                      go_quiet (fail)
                      go_wp2_with fail
                      go_roundw
                      case rel => exact ⟨r + 1, 6, .inl (by omega), by go_num, rfl, by omega, by omega, fun h => by omega, fun _ => HR.out, kbelow_dN HBQ.out _⟩
                      case measure => simp [intOf]; omega
                  · have hyB : decide (y = 0) = false := decide_eq_false hy
                    have hyE : (y == 0) = false := by simpa using hy
                    have HR := Lib.hid (HKY.out hy)
                    go_wp2_with fail
                    go_ret
                    exact ⟨kret_int HR.out.symm, HBV.out⟩
                · have hlB2 : decide ((r : Int) + 1 < (j : Int)) = false := decide_eq_false (by omega)
                  have HR : Hid (knE k = y) := by
                    unfold Hid
                    by_cases hy : y = 0
                    · rw [HT.out (HA.out hy).1, upN_iff.2 (fun i hi => (HA.out hy).2 i (by omega))]
                      simp [hy]
                    · exact HKY.out hy
                  clear HA HKY
                  go_wp2_with fail
                  go_ret
                  exact ⟨kret_int HR.out.symm, HBV.out⟩
end Go.Proofs.YtoingnhiipfnlaaDoor
