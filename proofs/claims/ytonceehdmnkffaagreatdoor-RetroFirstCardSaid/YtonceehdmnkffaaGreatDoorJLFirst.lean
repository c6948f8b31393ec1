/-
  The walk of the law RetroFirst: it answers true at every plan and all ints.
-/
import Derived.Test.YtonceehdmnkffaaGreatDoorJS
import Derived.Test.YtonceehdmnkffaaGreatDoorJP
import Derived.Test.YtonceehdmnkffaaGreatDoorJO
import Derived.Test.YtonceehdmnkffaaGreatDoorJQ
import Derived.Test.YtonceehdmnkffaaGreatDoorJT
import Derived.Deep.RegionHeldLaw
set_option linter.unusedSimpArgs false
namespace Go.Proofs.YtonceehdmnkffaaGreatDoor
open Go.RowKit Go.Sort

/-- No period that is asked is known otherwise. -/
theorem first_none {p : Pl} {was is k a f t : Int} {ok : Bool} {ni : Nat} (hF : FirstIs p was is k ok 0) (h3 : p.ins.length = ni) (hat : Cal.AtIs p.K p.A p.L a f t 0) (hc : ok = false ∨ a < k) : difN p.ins f was is ni = false := by
  have key : ∀ n0 : Nat, (∀ j, j < n0 → SameP p was is j) → a < n0 → difN p.ins f was is ni = false := by
    intro n0 hn0 hlt
    have ha := (at_day hat).2.1
    obtain ⟨f', t', q1, q2⟩ := hn0 a.toNat (by omega)
    rw [show ((a.toNat : Nat) : Int) = a by omega] at q1
    obtain ⟨rfl, _, _⟩ := hat.unique q1
    rw [h3] at q2
    exact q2
  rcases hF with ⟨_, h, _⟩ | ⟨_, _, h, _⟩ | ⟨_, _, _, _, ⟨q, n0, rfl, _, hn0, _⟩ | ⟨_, _, n0, _, hn0, hend⟩⟩
  · exact absurd rfl h
  · cases h
  · rcases hc with hc | hc
    · rw [q] at hc; cases hc
    · exact key n0 hn0 hc
  · refine key n0 hn0 ?_
    rcases Int.lt_or_le a n0 with q | q
    · exact q
    · exfalso
      rcases hend with rfl | ⟨f', t', e, he, hae⟩
      · have := (at_day hat).2
        omega
      · exact he (at_mono hat (by omega) q hae)
theorem which_bd {K A L x r e : Int} (h : Cal.WhichIs K A L x r e) : 0 ≤ r ∧ r ≤ 5000 := by
  rcases h with ⟨_, rfl, _⟩ | ⟨hz, ⟨_, rfl, _⟩ | ⟨_, ⟨hK, h⟩ | ⟨_, k, m, d, k', m', d', _, _, h⟩⟩⟩
  · omega
  · omega
  · obtain ⟨h1, _⟩ := Cal.schedE_ok hz
    rcases h with ⟨_, rfl, _⟩ | ⟨hA, ⟨_, rfl, _⟩ | ⟨⟨_, hq⟩, rfl, _⟩⟩
    · omega
    · omega
    · exact ⟨Int.ediv_nonneg (by omega) (by omega), by omega⟩
  · rcases h with ⟨_, rfl, _⟩ | ⟨⟨hN, ⟨_, rfl, _⟩ | ⟨h, rfl, _⟩⟩, _⟩
    · omega
    · omega
    · omega
set_option maxRecDepth 100000 in
set_option maxHeartbeats 8000000 in
theorem walk_retroFirst (p : Pl) (al : Option Addr) (nl cl : Nat) (at' : Option Addr) (nt ct : Nat) (ai : Option Addr) (ni ci : Nat) (was : Int) (_ : (Lit.int .i64 was).wf = true) (is : Int) (_ : (Lit.int .i64 is).wf = true) (other : Int) (wo : (Lit.int .i64 other).wf = true) {w : World} (hc : CameP w al at' ai p) (h1 : p.lns.length = nl) (h2 : p.tbs.length = nt) (h3 : p.ins.length = ni) (hS : Shp w) :
    Calls Tryz.prog 5 #[.agg #[.int .i64 p.K, .int .i64 p.A, .int .i64 p.L, .slice al nl cl, .slice at' nt ct, .slice ai ni ci], .int .i64 was, .int .i64 is, .int .i64 other] w fun e w' => e = .returned (.bool true) ∧ Below w.heap.size w w' := by
  have HB0 := Lib.hid (kbelow_box w (.cells #[.int .i64 p.K, .int .i64 p.A, .int .i64 p.L, .slice al nl cl, .slice at' nt ct, .slice ai ni ci] 28))
  have HP0 := Lib.hid (PBox.made w p.K p.A p.L al at' ai nl nt ni cl ct ci)
  have HC := Lib.hid hc
  have HS := Lib.hid hS
  have H1 := Lib.hid h1
  have H2 := Lib.hid h2
  have H3 := Lib.hid h3
  have HO : Hid (-9223372036854775808 ≤ other ∧ other ≤ 9223372036854775807) := Lib.hid (by simp only [Lit.wf, Bool.and_eq_true, decide_eq_true_eq] at wo; exact wo)
  clear hS hc h1 h2 h3 wo
  obtain ⟨_, x0, x1, x2, x3, x4, x5⟩ := HP0.out
  go_enter Tryz.func5, Tryz.ntmps5
  go_wp2_with fail
  refine (First_any p al at' ai nl nt ni cl ct ci was is _ (HS.out.below HB0.out) (HC.out.below HB0.out) H1.out H2.out H3.out).mono ?_
  rintro e w1 ⟨k, ok, er, rfl, hfi, hb1⟩
  have HB1 := Lib.hid (HB0.out.trans (hb1.mono HB0.out.size))
  have HP1 := Lib.hid (HP0.out.below hb1 HP0.out.1)
  clear hb1 HP0 HB0 x0 x1 x2 x3 x4 x5
  obtain ⟨_, x0, x1, x2, x3, x4, x5⟩ := HP1.out
  go_wp2_with fail
  refine (checkPlan_ref p al at' ai nl nt ni cl ct ci _ (HC.out.below HB1.out) H1.out H2.out H3.out).mono ?_
  rintro e w2 ⟨e2, rfl, hp2, hb2⟩
  have HB2 := Lib.hid (HB1.out.trans (hb2.mono HB1.out.size))
  have HP2 := Lib.hid (HP1.out.below hb2 HP1.out.1)
  clear hb2 HP1 HB1 x0 x1 x2 x3 x4 x5
  have hfi0 := hfi
  rcases hfi with ⟨hp, hne, rfl, rfl⟩ | ⟨hp, hdy, rfl, rfl, rfl⟩ | ⟨hp, hwas, his, rfl, hcs⟩
  · obtain rfl := hp.unique hp2
    have hb1 : (er == 0) = false := by simp [hne]
    have hb2 : (er != 0) = true := by simp [hne]
    have hb3 : (er != er) = false := by simp
    have hb4 : (er == er) = true := by simp
    clear hp hp2 hfi0
    go_wp2_with fail
    refine (retroBegun_any _ (HS.out.below HB2.out)).mono ?_
    rintro e w3 ⟨rfl, hb3⟩
    have HB3 := Lib.hid (HB2.out.trans (hb3.mono HB2.out.size))
    clear hb3
    go_wp2_with fail
    refine (retroBegun_any _ (HS.out.below HB3.out)).mono ?_
    rintro e w4 ⟨rfl, hb4⟩
    have HB4 := Lib.hid (HB3.out.trans (hb4.mono HB3.out.size))
    clear hb4
    go_wp2_with fail
    go_ret
    exact ⟨rfl, HB4.out⟩
  · obtain rfl := hp.unique hp2
    clear hp hp2 hfi0
    by_cases hwas : Cal.dayB was = true
    · have his : Cal.dayB is = false := by
        rcases hdy with h | h
        · rw [hwas] at h; cases h
        · exact h
      clear hdy
      go_wp2_with (first | (go_at_call 17; refine (Cal.isDay_ref _ _).mono ?_; rintro e w' ⟨rfl, h'⟩; subst w'; first | rw [hwas] | rw [his]))
      refine (retroBegun_any _ (HS.out.below HB2.out)).mono ?_
      rintro e w3 ⟨rfl, hb3⟩
      have HB3 := Lib.hid (HB2.out.trans (hb3.mono HB2.out.size))
      clear hb3
      go_wp2_with fail
      refine (retroBegun_any _ (HS.out.below HB3.out)).mono ?_
      rintro e w4 ⟨rfl, hb4⟩
      have HB4 := Lib.hid (HB3.out.trans (hb4.mono HB3.out.size))
      clear hb4
      go_wp2_with fail
      go_ret
      exact ⟨rfl, HB4.out⟩
    · have hwas : Cal.dayB was = false := by simpa using hwas
      clear hdy
      go_wp2_with (first | (go_at_call 17; refine (Cal.isDay_ref _ _).mono ?_; rintro e w' ⟨rfl, h'⟩; subst w'; first | rw [hwas] | rw [his]))
      refine (retroBegun_any _ (HS.out.below HB2.out)).mono ?_
      rintro e w3 ⟨rfl, hb3⟩
      have HB3 := Lib.hid (HB2.out.trans (hb3.mono HB2.out.size))
      clear hb3
      go_wp2_with fail
      refine (retroBegun_any _ (HS.out.below HB3.out)).mono ?_
      rintro e w4 ⟨rfl, hb4⟩
      have HB4 := Lib.hid (HB3.out.trans (hb4.mono HB3.out.size))
      clear hb4
      go_wp2_with fail
      go_ret
      exact ⟨rfl, HB4.out⟩
  · obtain rfl := hp.unique hp2
    have HF := Lib.hid hfi0
    have HPL := Lib.hid hp
    have HDY := Lib.hid (And.intro hwas his)
    have hni : ni ≤ 30 := by have := hp.small.2; have := H3.out; omega
    have HOT : Hid (∀ W day, Below w.heap.size w W → Cal.dayB day = true → Calls Tryz.prog 19 #[.agg #[.int .i64 p.K, .int .i64 p.A, .int .i64 p.L, .slice al nl cl, .slice at' nt ct, .slice ai ni ci], .int .i64 day, .int .i64 was, .int .i64 is] W fun e w' => e = .returned (.bool (difN p.ins day was is ni)) ∧ Below W.heap.size W w') := fun W day hW hd => otherwise_ref p al at' ai nl nt ni cl ct ci day was is W (HC.out.i.below hW) H3.out (by have := hp.small.2; have := H3.out; omega) (fun j hj => hp.hist j (by have := H3.out; omega)) hd hwas his
    clear hp2 hfi0 hp
    go_wp2_with (first | (go_at_call 17; refine (Cal.isDay_ref _ _).mono ?_; rintro e w' ⟨rfl, h'⟩; subst w'; first | rw [hwas] | rw [his]))
    refine (retroBegun_any _ (HS.out.below HB2.out)).mono ?_
    rintro e w3 ⟨rfl, hb3⟩
    have HB3 := Lib.hid (HB2.out.trans (hb3.mono HB2.out.size))
    have HP3 := Lib.hid (HP2.out.below hb3 HP2.out.1)
    clear hb3 HP2 HB2 hwas his
    have HOKK := Lib.hid hcs
    clear hcs
    cases ok with
    | true =>
      obtain ⟨f, t, hat, hdf⟩ : ∃ (f t : Int), Cal.AtIs p.K p.A p.L k f t 0 ∧ difN p.ins f was is ni = true := by
        rcases HOKK.out with ⟨_, n0, rfl, _, _, f, t, h1, h2⟩ | ⟨h, _⟩
        · exact ⟨f, t, h1, by rw [← H3.out]; exact h2⟩
        · cases h
      have HAT := Lib.hid hat
      have HDF := Lib.hid hdf
      clear hat hdf HOKK
      obtain ⟨_, x0, x1, x2, x3, x4, x5⟩ := HP3.out
      go_wp2_with fail
      refine (Cal.periodAt_ref p.K p.A p.L k _).mono ?_
      rintro e w4 ⟨f', t', e4, rfl, hat4, hb4⟩
      obtain ⟨rfl, rfl, rfl⟩ := hat4.unique HAT.out
      have HBA := Lib.hid (HB3.out.trans (hb4.mono HB3.out.size))
      have HBB := Lib.hid (kbelow_box w4 (.cells #[.int .i64 f', .int .i64 t'] 42))
      have HB5' := Lib.hid (HBA.out.trans (HBB.out.mono HBA.out.size))
      have HP5' := Lib.hid ((HP3.out.below hb4 HP3.out.1).below HBB.out (HP3.out.below hb4 HP3.out.1).1)
      have q4 : (w4.alloc (.cells #[.int .i64 f', .int .i64 t'] 42)).cell? ⟨w4.heap.size, 0, none⟩ = some (.int .i64 f') := by simp
      clear hb4 hat4 HBA HBB HB3 HP3 x0 x1 x2 x3 x4 x5
      obtain ⟨_, x0, x1, x2, x3, x4, x5⟩ := HP5'.out
      go_wp2_with fail
      refine (HOT.out _ f' HB5'.out (at_day HAT.out).1).mono ?_
      rintro e w6 ⟨rfl, hb6⟩
      rw [HDF.out]
      have HBS := Lib.hid (HB5'.out.trans (hb6.mono HB5'.out.size))
      have HPS := Lib.hid (HP5'.out.below hb6 HP5'.out.1)
      clear hb6 q4 HB5' HP5' x0 x1 x2 x3 x4 x5
      go_wp2_with fail
      go_loopw [15] (fun v wr => ∃ i : Int, -1 ≤ i ∧ i ≤ ni ∧ v = .int .i64 i ∧ PBox wr w.heap.size p.K p.A p.L al at' ai nl nt ni cl ct ci ∧ Below w.heap.size w wr) (fun v _ => ((ni : Int) - intOf v).toNat)
      case atStart => exact ⟨-1, by omega, by omega, rfl, HPS.out, HBS.out⟩
      case round =>
        clear HPS HBS
        obtain ⟨i, hi0, hi1, rfl, hpb, hb⟩ := hrel
        have HP5 := Lib.hid hpb
        have HB5 := Lib.hid hb
        clear hpb hb
        obtain ⟨_, u0, u1, u2, u3, u4, u5⟩ := HP5.out
        by_cases hlt : i < (ni : Int)
        · by_cases hi : 0 ≤ i
          · obtain ⟨q, rfl⟩ : ∃ q : Nat, i = (q : Int) := ⟨i.toNat, by omega⟩
            have hqn : q < ni := by omega
            obtain ⟨b, off, rfl, hcell⟩ := HC.out.i.open H3.out (by omega)
            obtain ⟨aj, cj, y0, y1, hcr, hns, hrm⟩ := hcell wr HB5.out q hqn
            obtain ⟨rs, hrs⟩ : ∃ rs, (inth p.ins q).rows = rs := ⟨_, rfl⟩
            rw [hrs] at y1 hcr hrm
            obtain ⟨m, hm⟩ : ∃ m, rs.length = m := ⟨_, rfl⟩
            rw [hm] at y1 hrm
            have HCELL := Lib.hid hcell
            have HRS := Lib.hid hrs
            have HRN := Lib.hid hm
            have hm50 : m ≤ 50 := by have := (Hst.histE_ok (HPL.out.hist q (by have := H3.out; omega))).1; rw [hrs, hm] at this; exact this
            clear hcell hns hrs hm hcr hrm
            go_wp2_with fail
            clear y0 y1 u0 u1 u2 u3 u4 u5
            go_loopw [17] (fun v wr => ∃ j : Nat, j ≤ m + 1 ∧ v = .int .i64 j ∧ PBox wr w.heap.size p.K p.A p.L al at' (some ⟨b, off, none⟩) nl nt ni cl ct ci ∧ Below w.heap.size w wr) (fun v _ => m + 1 - (intOf v).toNat)
            case atStart => exact ⟨0, Nat.zero_le _, rfl, HP5.out, HB5.out⟩
            case round =>
              clear HP5 HB5
              obtain ⟨j, hj, rfl, hpb, hb⟩ := hrel
              have HP6 := Lib.hid hpb
              have HB6 := Lib.hid hb
              clear hpb hb
              by_cases hjn : j ≤ m
              · have hjn' : (j : Int) ≤ (m : Int) := by omega
                obtain ⟨c0, hc0⟩ : ∃ c0, chooseI other 5000 = c0 := ⟨_, rfl⟩
                have hcb := choose_bd other 5000 (by omega)
                rw [hc0] at hcb
                have HC0 := Lib.hid hc0
                obtain ⟨hcb0, hcb1⟩ := hcb
                clear hc0
                by_cases hjm : j < m
                · have hjm' : (j : Int) < (m : Int) := by omega
                  obtain ⟨aj, cj, y0, y1, hcr, hns, hrm⟩ := HCELL.out wr HB6.out q hqn
                  rw [HRS.out, HRN.out] at y1
                  rw [HRS.out] at hcr
                  obtain ⟨b2, off2, rfl, hrow⟩ := Hst.CameR.open hcr HRN.out (by omega)
                  obtain ⟨r0, _⟩ := hrow wr (Below.refl _ _) j hjm
                  obtain ⟨fr, hfr⟩ : ∃ fr, (Hst.rnth rs j).frm = fr := ⟨_, rfl⟩
                  rw [hfr] at r0
                  clear hfr hrow hcr hns hrm y0
                  obtain ⟨_, v0, v1, v2, v3, v4, v5⟩ := HP6.out
                  go_wp2_with (first | (go_at_call 20; refine (choose_any other 5000 _ HO.out.1 HO.out.2 (by omega) (by omega)).mono ?_; rintro e w' ⟨rfl, h'⟩; subst w'; rw [HC0.out]))
                  go_region_held_law (fun w' => w'.cell? ⟨w.heap.size, 0, none⟩ = some (.int .i64 p.K) ∧ w'.cell? ⟨w.heap.size, 1, none⟩ = some (.int .i64 p.A) ∧ w'.cell? ⟨w.heap.size, 2, none⟩ = some (.int .i64 p.L) ∧ w'.cell? ⟨w.heap.size, 5, none⟩ = some (.slice (some ⟨b, off, none⟩) ni ci) ∧ w'.cell? ⟨b, off + q * 2 + 1, none⟩ = some (.slice (some ⟨b2, off2, none⟩) m cj) ∧ w'.cell? ⟨b2, off2 + j * 4, none⟩ = some (.int .i64 fr)) (go_keep)
                    (first
                      | (go_at_call 21; refine (Cal.which_ref p.K p.A p.L fr _).mono ?_; rintro e w7 ⟨r7, e7, rfl, hwh, hb7⟩
                         have HB7' := Lib.hid (HB6.out.trans ((nfrom_drew hb7).mono HB6.out.size))
                         have HP7' := Lib.hid (HP6.out.below (nfrom_drew hb7) HP6.out.1)
                         have c0' := (hb7.cell (p := ⟨w.heap.size, 0, none⟩) (blt_of_cell v0)).trans v0
                         have c1' := (hb7.cell (p := ⟨w.heap.size, 1, none⟩) (blt_of_cell v1)).trans v1
                         have c2' := (hb7.cell (p := ⟨w.heap.size, 2, none⟩) (blt_of_cell v2)).trans v2
                         have c5' := (hb7.cell (p := ⟨w.heap.size, 5, none⟩) (blt_of_cell v5)).trans v5
                         have cy' := (hb7.cell (p := ⟨b, off + q * 2 + 1, none⟩) (blt_of_cell y1)).trans y1
                         have cr' := (hb7.cell (p := ⟨b2, off2 + j * 4, none⟩) (blt_of_cell r0)).trans r0
                         have hwb := which_bd hwh
                         clear hb7 hwh))
                  obtain ⟨hwb0, hwb1⟩ := hwb
                  clear c0' c1' c2' c5' cy' cr' v0 v1 v2 v3 v4 v5 y1 r0 HP6 HB6
                  by_cases he7 : e7 = 0
                  · subst he7
                    go_wp2_with fail
                    have HPL3 := HP7'
                    have HBL3 := HB7'
                    clear HP7' HB7'
                    go_loopw [21] (fun v wr => ∃ a : Int, 0 ≤ a ∧ a ≤ (r7 + 1) + 1 ∧ v = .int .i64 a ∧ PBox wr w.heap.size p.K p.A p.L al at' (some ⟨b, off, none⟩) nl nt ni cl ct ci ∧ Below w.heap.size w wr) (fun v _ => ((r7 + 1) + 1 - intOf v).toNat)
                    case atStart => exact ⟨_, by omega, by omega, rfl, HPL3.out, HBL3.out⟩
                    case round =>
                      clear HPL3 HBL3
                      obtain ⟨a, ha0, ha1, rfl, hpb, hb⟩ := hrel
                      have HP7 := Lib.hid hpb
                      have HB7 := Lib.hid hb
                      clear hpb hb
                      by_cases hle : a ≤ (r7 + 1)
                      · obtain ⟨_, z0, z1, z2, z3, z4, z5⟩ := HP7.out
                        go_wp2_with fail
                        refine (Cal.periodAt_ref p.K p.A p.L a _).mono ?_
                        rintro e w8 ⟨f3, t3, e3, rfl, hat3, hb8⟩
                        have HBA := Lib.hid (HB7.out.trans (hb8.mono HB7.out.size))
                        have HBB := Lib.hid (kbelow_box w8 (.cells #[.int .i64 f3, .int .i64 t3] 42))
                        have HB8 := Lib.hid (HBA.out.trans (HBB.out.mono HBA.out.size))
                        have HP8 := Lib.hid ((HP7.out.below hb8 HP7.out.1).below HBB.out (HP7.out.below hb8 HP7.out.1).1)
                        have q8 : (w8.alloc (.cells #[.int .i64 f3, .int .i64 t3] 42)).cell? ⟨w8.heap.size, 0, none⟩ = some (.int .i64 f3) := by simp
                        clear hb8 HBA HBB HB7 HP7 z0 z1 z2 z3 z4 z5
                        obtain ⟨_, y0, y1, y2, y3, y4, y5⟩ := HP8.out
                        by_cases he3 : e3 = 0
                        · subst he3
                          by_cases hak : a < k
                          · have hakB : decide (a < k) = true := decide_eq_true hak
                            have HD0 := Lib.hid (first_none HF.out H3.out hat3 (.inr hak))
                            have HDD := Lib.hid (at_day hat3).1
                            clear hat3
                            go_wp2_with fail
                            refine (HOT.out _ f3 HB8.out HDD.out).mono ?_
                            rintro e w9 ⟨rfl, hb9⟩
                            rw [HD0.out]
                            have HB9 := Lib.hid (HB8.out.trans (hb9.mono HB8.out.size))
                            have HP9 := Lib.hid (HP8.out.below hb9 HP8.out.1)
                            clear hb9 y0 y1 y2 y3 y4 y5
                            go_wp2_with fail
                            go_roundw
                            case rel => exact ⟨a + 1, by omega, by omega, by go_num, HP9.out, HB9.out⟩
                            case measure => simp [intOf]; omega
                          · have hakB : decide (a < k) = false := decide_eq_false hak
                            clear hat3
                            go_wp2_with fail
                            go_roundw
                            case rel => exact ⟨a + 1, by omega, by omega, by go_num, HP8.out, HB8.out⟩
                            case measure => simp [intOf]; omega
                        · have heB : (e3 == 0) = false := by simp [he3]
                          clear hat3
                          go_wp2_with fail
                          go_roundw
                          case rel => exact ⟨a + 1, by omega, by omega, by go_num, HP8.out, HB8.out⟩
                          case measure => simp [intOf]; omega
                      · have hleB : decide (a ≤ (r7 + 1)) = false := decide_eq_false hle
                        go_wp2_with fail
                        go_roundw
                        case rel => exact ⟨j + 1, by omega, by go_num, HP7.out, HB7.out⟩
                        case measure => simp [intOf]; omega
                  · have heB : (e7 != 0) = true := by simp [he7]
                    go_wp2_with fail
                    go_roundw
                    case rel => exact ⟨j + 1, by omega, by go_num, HP7'.out, HB7'.out⟩
                    case measure => simp [intOf]; omega
                · have hjl : decide ((j : Int) < (m : Int)) = false := decide_eq_false (by omega)
                  go_wp2_with (first | (go_at_call 20; refine (choose_any other 5000 _ HO.out.1 HO.out.2 (by omega) (by omega)).mono ?_; rintro e w' ⟨rfl, h'⟩; subst w'; rw [HC0.out]))
                  have HPL3 := HP6
                  have HBL3 := HB6
                  go_loopw [21] (fun v wr => ∃ a : Int, 0 ≤ a ∧ a ≤ c0 + 1 ∧ v = .int .i64 a ∧ PBox wr w.heap.size p.K p.A p.L al at' (some ⟨b, off, none⟩) nl nt ni cl ct ci ∧ Below w.heap.size w wr) (fun v _ => (c0 + 1 - intOf v).toNat)
                  case atStart => exact ⟨_, by omega, by omega, rfl, HPL3.out, HBL3.out⟩
                  case round =>
                    clear HPL3 HBL3
                    obtain ⟨a, ha0, ha1, rfl, hpb, hb⟩ := hrel
                    have HP7 := Lib.hid hpb
                    have HB7 := Lib.hid hb
                    clear hpb hb
                    by_cases hle : a ≤ c0
                    · obtain ⟨_, z0, z1, z2, z3, z4, z5⟩ := HP7.out
                      go_wp2_with fail
                      refine (Cal.periodAt_ref p.K p.A p.L a _).mono ?_
                      rintro e w8 ⟨f3, t3, e3, rfl, hat3, hb8⟩
                      have HBA := Lib.hid (HB7.out.trans (hb8.mono HB7.out.size))
                      have HBB := Lib.hid (kbelow_box w8 (.cells #[.int .i64 f3, .int .i64 t3] 42))
                      have HB8 := Lib.hid (HBA.out.trans (HBB.out.mono HBA.out.size))
                      have HP8 := Lib.hid ((HP7.out.below hb8 HP7.out.1).below HBB.out (HP7.out.below hb8 HP7.out.1).1)
                      have q8 : (w8.alloc (.cells #[.int .i64 f3, .int .i64 t3] 42)).cell? ⟨w8.heap.size, 0, none⟩ = some (.int .i64 f3) := by simp
                      clear hb8 HBA HBB HB7 HP7 z0 z1 z2 z3 z4 z5
                      obtain ⟨_, y0, y1, y2, y3, y4, y5⟩ := HP8.out
                      by_cases he3 : e3 = 0
                      · subst he3
                        by_cases hak : a < k
                        · have hakB : decide (a < k) = true := decide_eq_true hak
                          have HD0 := Lib.hid (first_none HF.out H3.out hat3 (.inr hak))
                          have HDD := Lib.hid (at_day hat3).1
                          clear hat3
                          go_wp2_with fail
                          refine (HOT.out _ f3 HB8.out HDD.out).mono ?_
                          rintro e w9 ⟨rfl, hb9⟩
                          rw [HD0.out]
                          have HB9 := Lib.hid (HB8.out.trans (hb9.mono HB8.out.size))
                          have HP9 := Lib.hid (HP8.out.below hb9 HP8.out.1)
                          clear hb9 y0 y1 y2 y3 y4 y5
                          go_wp2_with fail
                          go_roundw
                          case rel => exact ⟨a + 1, by omega, by omega, by go_num, HP9.out, HB9.out⟩
                          case measure => simp [intOf]; omega
                        · have hakB : decide (a < k) = false := decide_eq_false hak
                          clear hat3
                          go_wp2_with fail
                          go_roundw
                          case rel => exact ⟨a + 1, by omega, by omega, by go_num, HP8.out, HB8.out⟩
                          case measure => simp [intOf]; omega
                      · have heB : (e3 == 0) = false := by simp [he3]
                        clear hat3
                        go_wp2_with fail
                        go_roundw
                        case rel => exact ⟨a + 1, by omega, by omega, by go_num, HP8.out, HB8.out⟩
                        case measure => simp [intOf]; omega
                    · have hleB : decide (a ≤ c0) = false := decide_eq_false hle
                      go_wp2_with fail
                      go_roundw
                      case rel => exact ⟨j + 1, by omega, by go_num, HP7.out, HB7.out⟩
                      case measure => simp [intOf]; omega
              · have hjB : decide ((j : Int) ≤ (m : Int)) = false := decide_eq_false (by omega)
                go_wp2_with fail
                go_roundw
                case rel => exact ⟨(q : Int) + 1, by omega, by omega, by go_num, HP6.out, HB6.out⟩
                case measure => simp [intOf]; omega
          · have hiB : decide ((0 : Int) ≤ i) = false := decide_eq_false hi
            go_wp2_with fail
            clear u0 u1 u2 u3 u4 u5
            go_loopw [17] (fun v wr => ∃ j : Nat, j ≤ 0 + 1 ∧ v = .int .i64 j ∧ PBox wr w.heap.size p.K p.A p.L al at' ai nl nt ni cl ct ci ∧ Below w.heap.size w wr) (fun v _ => 0 + 1 - (intOf v).toNat)
            case atStart => exact ⟨0, Nat.zero_le _, rfl, HP5.out, HB5.out⟩
            case round =>
              clear HP5 HB5
              obtain ⟨j, hj, rfl, hpb, hb⟩ := hrel
              have HP6 := Lib.hid hpb
              have HB6 := Lib.hid hb
              clear hpb hb
              by_cases hjn : j ≤ 0
              · have hjn' : (j : Int) ≤ 0 := by omega
                obtain ⟨c0, hc0⟩ : ∃ c0, chooseI other 5000 = c0 := ⟨_, rfl⟩
                have hcb := choose_bd other 5000 (by omega)
                rw [hc0] at hcb
                have HC0 := Lib.hid hc0
                obtain ⟨hcb0, hcb1⟩ := hcb
                clear hc0
                have hjl : decide ((j : Int) < 0) = false := decide_eq_false (by omega)
                go_wp2_with (first | (go_at_call 20; refine (choose_any other 5000 _ HO.out.1 HO.out.2 (by omega) (by omega)).mono ?_; rintro e w' ⟨rfl, h'⟩; subst w'; rw [HC0.out]))
                have HPL3 := HP6
                have HBL3 := HB6
                go_loopw [21] (fun v wr => ∃ a : Int, 0 ≤ a ∧ a ≤ c0 + 1 ∧ v = .int .i64 a ∧ PBox wr w.heap.size p.K p.A p.L al at' ai nl nt ni cl ct ci ∧ Below w.heap.size w wr) (fun v _ => (c0 + 1 - intOf v).toNat)
                case atStart => exact ⟨_, by omega, by omega, rfl, HPL3.out, HBL3.out⟩
                case round =>
                  clear HPL3 HBL3
                  obtain ⟨a, ha0, ha1, rfl, hpb, hb⟩ := hrel
                  have HP7 := Lib.hid hpb
                  have HB7 := Lib.hid hb
                  clear hpb hb
                  by_cases hle : a ≤ c0
                  · obtain ⟨_, z0, z1, z2, z3, z4, z5⟩ := HP7.out
                    go_wp2_with fail
                    refine (Cal.periodAt_ref p.K p.A p.L a _).mono ?_
                    rintro e w8 ⟨f3, t3, e3, rfl, hat3, hb8⟩
                    have HBA := Lib.hid (HB7.out.trans (hb8.mono HB7.out.size))
                    have HBB := Lib.hid (kbelow_box w8 (.cells #[.int .i64 f3, .int .i64 t3] 42))
                    have HB8 := Lib.hid (HBA.out.trans (HBB.out.mono HBA.out.size))
                    have HP8 := Lib.hid ((HP7.out.below hb8 HP7.out.1).below HBB.out (HP7.out.below hb8 HP7.out.1).1)
                    have q8 : (w8.alloc (.cells #[.int .i64 f3, .int .i64 t3] 42)).cell? ⟨w8.heap.size, 0, none⟩ = some (.int .i64 f3) := by simp
                    clear hb8 HBA HBB HB7 HP7 z0 z1 z2 z3 z4 z5
                    obtain ⟨_, y0, y1, y2, y3, y4, y5⟩ := HP8.out
                    by_cases he3 : e3 = 0
                    · subst he3
                      by_cases hak : a < k
                      · have hakB : decide (a < k) = true := decide_eq_true hak
                        have HD0 := Lib.hid (first_none HF.out H3.out hat3 (.inr hak))
                        have HDD := Lib.hid (at_day hat3).1
                        clear hat3
                        go_wp2_with fail
                        refine (HOT.out _ f3 HB8.out HDD.out).mono ?_
                        rintro e w9 ⟨rfl, hb9⟩
                        rw [HD0.out]
                        have HB9 := Lib.hid (HB8.out.trans (hb9.mono HB8.out.size))
                        have HP9 := Lib.hid (HP8.out.below hb9 HP8.out.1)
                        clear hb9 y0 y1 y2 y3 y4 y5
                        go_wp2_with fail
                        go_roundw
                        case rel => exact ⟨a + 1, by omega, by omega, by go_num, HP9.out, HB9.out⟩
                        case measure => simp [intOf]; omega
                      · have hakB : decide (a < k) = false := decide_eq_false hak
                        clear hat3
                        go_wp2_with fail
                        go_roundw
                        case rel => exact ⟨a + 1, by omega, by omega, by go_num, HP8.out, HB8.out⟩
                        case measure => simp [intOf]; omega
                    · have heB : (e3 == 0) = false := by simp [he3]
                      clear hat3
                      go_wp2_with fail
                      go_roundw
                      case rel => exact ⟨a + 1, by omega, by omega, by go_num, HP8.out, HB8.out⟩
                      case measure => simp [intOf]; omega
                  · have hleB : decide (a ≤ c0) = false := decide_eq_false hle
                    go_wp2_with fail
                    go_roundw
                    case rel => exact ⟨j + 1, by omega, by go_num, HP7.out, HB7.out⟩
                    case measure => simp [intOf]; omega
              · have hjB : decide ((j : Int) ≤ 0) = false := decide_eq_false (by omega)
                go_wp2_with fail
                go_roundw
                case rel => exact ⟨i + 1, by omega, by omega, by go_num, HP6.out, HB6.out⟩
                case measure => simp [intOf]; omega
        · have hltB : decide (i < (ni : Int)) = false := decide_eq_false hlt
          go_wp2_with fail
          go_ret
          exact ⟨rfl, HB5.out⟩
    | false =>
      obtain rfl : k = 0 := by
        rcases HOKK.out with ⟨h, _⟩ | ⟨_, h, _⟩
        · cases h
        · exact h
      clear HOKK
      have HBS := HB3
      have HPS := HP3
      clear HB3 HP3
      go_wp2_with fail
      go_loopw [15] (fun v wr => ∃ i : Int, -1 ≤ i ∧ i ≤ ni ∧ v = .int .i64 i ∧ PBox wr w.heap.size p.K p.A p.L al at' ai nl nt ni cl ct ci ∧ Below w.heap.size w wr) (fun v _ => ((ni : Int) - intOf v).toNat)
      case atStart => exact ⟨-1, by omega, by omega, rfl, HPS.out, HBS.out⟩
      case round =>
        clear HPS HBS
        obtain ⟨i, hi0, hi1, rfl, hpb, hb⟩ := hrel
        have HP5 := Lib.hid hpb
        have HB5 := Lib.hid hb
        clear hpb hb
        obtain ⟨_, u0, u1, u2, u3, u4, u5⟩ := HP5.out
        by_cases hlt : i < (ni : Int)
        · by_cases hi : 0 ≤ i
          · obtain ⟨q, rfl⟩ : ∃ q : Nat, i = (q : Int) := ⟨i.toNat, by omega⟩
            have hqn : q < ni := by omega
            obtain ⟨b, off, rfl, hcell⟩ := HC.out.i.open H3.out (by omega)
            obtain ⟨aj, cj, y0, y1, hcr, hns, hrm⟩ := hcell wr HB5.out q hqn
            obtain ⟨rs, hrs⟩ : ∃ rs, (inth p.ins q).rows = rs := ⟨_, rfl⟩
            rw [hrs] at y1 hcr hrm
            obtain ⟨m, hm⟩ : ∃ m, rs.length = m := ⟨_, rfl⟩
            rw [hm] at y1 hrm
            have HCELL := Lib.hid hcell
            have HRS := Lib.hid hrs
            have HRN := Lib.hid hm
            have hm50 : m ≤ 50 := by have := (Hst.histE_ok (HPL.out.hist q (by have := H3.out; omega))).1; rw [hrs, hm] at this; exact this
            clear hcell hns hrs hm hcr hrm
            go_wp2_with fail
            clear y0 y1 u0 u1 u2 u3 u4 u5
            go_loopw [17] (fun v wr => ∃ j : Nat, j ≤ m + 1 ∧ v = .int .i64 j ∧ PBox wr w.heap.size p.K p.A p.L al at' (some ⟨b, off, none⟩) nl nt ni cl ct ci ∧ Below w.heap.size w wr) (fun v _ => m + 1 - (intOf v).toNat)
            case atStart => exact ⟨0, Nat.zero_le _, rfl, HP5.out, HB5.out⟩
            case round =>
              clear HP5 HB5
              obtain ⟨j, hj, rfl, hpb, hb⟩ := hrel
              have HP6 := Lib.hid hpb
              have HB6 := Lib.hid hb
              clear hpb hb
              by_cases hjn : j ≤ m
              · have hjn' : (j : Int) ≤ (m : Int) := by omega
                obtain ⟨c0, hc0⟩ : ∃ c0, chooseI other 5000 = c0 := ⟨_, rfl⟩
                have hcb := choose_bd other 5000 (by omega)
                rw [hc0] at hcb
                have HC0 := Lib.hid hc0
                obtain ⟨hcb0, hcb1⟩ := hcb
                clear hc0
                by_cases hjm : j < m
                · have hjm' : (j : Int) < (m : Int) := by omega
                  obtain ⟨aj, cj, y0, y1, hcr, hns, hrm⟩ := HCELL.out wr HB6.out q hqn
                  rw [HRS.out, HRN.out] at y1
                  rw [HRS.out] at hcr
                  obtain ⟨b2, off2, rfl, hrow⟩ := Hst.CameR.open hcr HRN.out (by omega)
                  obtain ⟨r0, _⟩ := hrow wr (Below.refl _ _) j hjm
                  obtain ⟨fr, hfr⟩ : ∃ fr, (Hst.rnth rs j).frm = fr := ⟨_, rfl⟩
                  rw [hfr] at r0
                  clear hfr hrow hcr hns hrm y0
                  obtain ⟨_, v0, v1, v2, v3, v4, v5⟩ := HP6.out
                  go_wp2_with (first | (go_at_call 20; refine (choose_any other 5000 _ HO.out.1 HO.out.2 (by omega) (by omega)).mono ?_; rintro e w' ⟨rfl, h'⟩; subst w'; rw [HC0.out]))
                  go_region_held_law (fun w' => w'.cell? ⟨w.heap.size, 0, none⟩ = some (.int .i64 p.K) ∧ w'.cell? ⟨w.heap.size, 1, none⟩ = some (.int .i64 p.A) ∧ w'.cell? ⟨w.heap.size, 2, none⟩ = some (.int .i64 p.L) ∧ w'.cell? ⟨w.heap.size, 5, none⟩ = some (.slice (some ⟨b, off, none⟩) ni ci) ∧ w'.cell? ⟨b, off + q * 2 + 1, none⟩ = some (.slice (some ⟨b2, off2, none⟩) m cj) ∧ w'.cell? ⟨b2, off2 + j * 4, none⟩ = some (.int .i64 fr)) (go_keep)
                    (first
                      | (go_at_call 21; refine (Cal.which_ref p.K p.A p.L fr _).mono ?_; rintro e w7 ⟨r7, e7, rfl, hwh, hb7⟩
                         have HB7' := Lib.hid (HB6.out.trans ((nfrom_drew hb7).mono HB6.out.size))
                         have HP7' := Lib.hid (HP6.out.below (nfrom_drew hb7) HP6.out.1)
                         have c0' := (hb7.cell (p := ⟨w.heap.size, 0, none⟩) (blt_of_cell v0)).trans v0
                         have c1' := (hb7.cell (p := ⟨w.heap.size, 1, none⟩) (blt_of_cell v1)).trans v1
                         have c2' := (hb7.cell (p := ⟨w.heap.size, 2, none⟩) (blt_of_cell v2)).trans v2
                         have c5' := (hb7.cell (p := ⟨w.heap.size, 5, none⟩) (blt_of_cell v5)).trans v5
                         have cy' := (hb7.cell (p := ⟨b, off + q * 2 + 1, none⟩) (blt_of_cell y1)).trans y1
                         have cr' := (hb7.cell (p := ⟨b2, off2 + j * 4, none⟩) (blt_of_cell r0)).trans r0
                         have hwb := which_bd hwh
                         clear hb7 hwh))
                  obtain ⟨hwb0, hwb1⟩ := hwb
                  clear c0' c1' c2' c5' cy' cr' v0 v1 v2 v3 v4 v5 y1 r0 HP6 HB6
                  by_cases he7 : e7 = 0
                  · subst he7
                    go_wp2_with fail
                    have HPL3 := HP7'
                    have HBL3 := HB7'
                    clear HP7' HB7'
                    go_loopw [21] (fun v wr => ∃ a : Int, 0 ≤ a ∧ a ≤ (r7 + 1) + 1 ∧ v = .int .i64 a ∧ PBox wr w.heap.size p.K p.A p.L al at' (some ⟨b, off, none⟩) nl nt ni cl ct ci ∧ Below w.heap.size w wr) (fun v _ => ((r7 + 1) + 1 - intOf v).toNat)
                    case atStart => exact ⟨_, by omega, by omega, rfl, HPL3.out, HBL3.out⟩
                    case round =>
                      clear HPL3 HBL3
                      obtain ⟨a, ha0, ha1, rfl, hpb, hb⟩ := hrel
                      have HP7 := Lib.hid hpb
                      have HB7 := Lib.hid hb
                      clear hpb hb
                      by_cases hle : a ≤ (r7 + 1)
                      · obtain ⟨_, z0, z1, z2, z3, z4, z5⟩ := HP7.out
                        go_wp2_with fail
                        refine (Cal.periodAt_ref p.K p.A p.L a _).mono ?_
                        rintro e w8 ⟨f3, t3, e3, rfl, hat3, hb8⟩
                        have HBA := Lib.hid (HB7.out.trans (hb8.mono HB7.out.size))
                        have HBB := Lib.hid (kbelow_box w8 (.cells #[.int .i64 f3, .int .i64 t3] 42))
                        have HB8 := Lib.hid (HBA.out.trans (HBB.out.mono HBA.out.size))
                        have HP8 := Lib.hid ((HP7.out.below hb8 HP7.out.1).below HBB.out (HP7.out.below hb8 HP7.out.1).1)
                        have q8 : (w8.alloc (.cells #[.int .i64 f3, .int .i64 t3] 42)).cell? ⟨w8.heap.size, 0, none⟩ = some (.int .i64 f3) := by simp
                        clear hb8 HBA HBB HB7 HP7 z0 z1 z2 z3 z4 z5
                        obtain ⟨_, y0, y1, y2, y3, y4, y5⟩ := HP8.out
                        by_cases he3 : e3 = 0
                        · subst he3
                          have HD0 := Lib.hid (first_none HF.out H3.out hat3 (.inl rfl))
                          have HDD := Lib.hid (at_day hat3).1
                          clear hat3
                          go_wp2_with fail
                          refine (HOT.out _ f3 HB8.out HDD.out).mono ?_
                          rintro e w9 ⟨rfl, hb9⟩
                          rw [HD0.out]
                          have HB9 := Lib.hid (HB8.out.trans (hb9.mono HB8.out.size))
                          have HP9 := Lib.hid (HP8.out.below hb9 HP8.out.1)
                          clear hb9 y0 y1 y2 y3 y4 y5
                          go_wp2_with fail
                          go_roundw
                          case rel => exact ⟨a + 1, by omega, by omega, by go_num, HP9.out, HB9.out⟩
                          case measure => simp [intOf]; omega
                        · have heB : (e3 == 0) = false := by simp [he3]
                          clear hat3
                          go_wp2_with fail
                          go_roundw
                          case rel => exact ⟨a + 1, by omega, by omega, by go_num, HP8.out, HB8.out⟩
                          case measure => simp [intOf]; omega
                      · have hleB : decide (a ≤ (r7 + 1)) = false := decide_eq_false hle
                        go_wp2_with fail
                        go_roundw
                        case rel => exact ⟨j + 1, by omega, by go_num, HP7.out, HB7.out⟩
                        case measure => simp [intOf]; omega
                  · have heB : (e7 != 0) = true := by simp [he7]
                    go_wp2_with fail
                    go_roundw
                    case rel => exact ⟨j + 1, by omega, by go_num, HP7'.out, HB7'.out⟩
                    case measure => simp [intOf]; omega
                · have hjl : decide ((j : Int) < (m : Int)) = false := decide_eq_false (by omega)
                  go_wp2_with (first | (go_at_call 20; refine (choose_any other 5000 _ HO.out.1 HO.out.2 (by omega) (by omega)).mono ?_; rintro e w' ⟨rfl, h'⟩; subst w'; rw [HC0.out]))
                  have HPL3 := HP6
                  have HBL3 := HB6
                  go_loopw [21] (fun v wr => ∃ a : Int, 0 ≤ a ∧ a ≤ c0 + 1 ∧ v = .int .i64 a ∧ PBox wr w.heap.size p.K p.A p.L al at' (some ⟨b, off, none⟩) nl nt ni cl ct ci ∧ Below w.heap.size w wr) (fun v _ => (c0 + 1 - intOf v).toNat)
                  case atStart => exact ⟨_, by omega, by omega, rfl, HPL3.out, HBL3.out⟩
                  case round =>
                    clear HPL3 HBL3
                    obtain ⟨a, ha0, ha1, rfl, hpb, hb⟩ := hrel
                    have HP7 := Lib.hid hpb
                    have HB7 := Lib.hid hb
                    clear hpb hb
                    by_cases hle : a ≤ c0
                    · obtain ⟨_, z0, z1, z2, z3, z4, z5⟩ := HP7.out
                      go_wp2_with fail
                      refine (Cal.periodAt_ref p.K p.A p.L a _).mono ?_
                      rintro e w8 ⟨f3, t3, e3, rfl, hat3, hb8⟩
                      have HBA := Lib.hid (HB7.out.trans (hb8.mono HB7.out.size))
                      have HBB := Lib.hid (kbelow_box w8 (.cells #[.int .i64 f3, .int .i64 t3] 42))
                      have HB8 := Lib.hid (HBA.out.trans (HBB.out.mono HBA.out.size))
                      have HP8 := Lib.hid ((HP7.out.below hb8 HP7.out.1).below HBB.out (HP7.out.below hb8 HP7.out.1).1)
                      have q8 : (w8.alloc (.cells #[.int .i64 f3, .int .i64 t3] 42)).cell? ⟨w8.heap.size, 0, none⟩ = some (.int .i64 f3) := by simp
                      clear hb8 HBA HBB HB7 HP7 z0 z1 z2 z3 z4 z5
                      obtain ⟨_, y0, y1, y2, y3, y4, y5⟩ := HP8.out
                      by_cases he3 : e3 = 0
                      · subst he3
                        have HD0 := Lib.hid (first_none HF.out H3.out hat3 (.inl rfl))
                        have HDD := Lib.hid (at_day hat3).1
                        clear hat3
                        go_wp2_with fail
                        refine (HOT.out _ f3 HB8.out HDD.out).mono ?_
                        rintro e w9 ⟨rfl, hb9⟩
                        rw [HD0.out]
                        have HB9 := Lib.hid (HB8.out.trans (hb9.mono HB8.out.size))
                        have HP9 := Lib.hid (HP8.out.below hb9 HP8.out.1)
                        clear hb9 y0 y1 y2 y3 y4 y5
                        go_wp2_with fail
                        go_roundw
                        case rel => exact ⟨a + 1, by omega, by omega, by go_num, HP9.out, HB9.out⟩
                        case measure => simp [intOf]; omega
                      · have heB : (e3 == 0) = false := by simp [he3]
                        clear hat3
                        go_wp2_with fail
                        go_roundw
                        case rel => exact ⟨a + 1, by omega, by omega, by go_num, HP8.out, HB8.out⟩
                        case measure => simp [intOf]; omega
                    · have hleB : decide (a ≤ c0) = false := decide_eq_false hle
                      go_wp2_with fail
                      go_roundw
                      case rel => exact ⟨j + 1, by omega, by go_num, HP7.out, HB7.out⟩
                      case measure => simp [intOf]; omega
              · have hjB : decide ((j : Int) ≤ (m : Int)) = false := decide_eq_false (by omega)
                go_wp2_with fail
                go_roundw
                case rel => exact ⟨(q : Int) + 1, by omega, by omega, by go_num, HP6.out, HB6.out⟩
                case measure => simp [intOf]; omega
          · have hiB : decide ((0 : Int) ≤ i) = false := decide_eq_false hi
            go_wp2_with fail
            clear u0 u1 u2 u3 u4 u5
            go_loopw [17] (fun v wr => ∃ j : Nat, j ≤ 0 + 1 ∧ v = .int .i64 j ∧ PBox wr w.heap.size p.K p.A p.L al at' ai nl nt ni cl ct ci ∧ Below w.heap.size w wr) (fun v _ => 0 + 1 - (intOf v).toNat)
            case atStart => exact ⟨0, Nat.zero_le _, rfl, HP5.out, HB5.out⟩
            case round =>
              clear HP5 HB5
              obtain ⟨j, hj, rfl, hpb, hb⟩ := hrel
              have HP6 := Lib.hid hpb
              have HB6 := Lib.hid hb
              clear hpb hb
              by_cases hjn : j ≤ 0
              · have hjn' : (j : Int) ≤ 0 := by omega
                obtain ⟨c0, hc0⟩ : ∃ c0, chooseI other 5000 = c0 := ⟨_, rfl⟩
                have hcb := choose_bd other 5000 (by omega)
                rw [hc0] at hcb
                have HC0 := Lib.hid hc0
                obtain ⟨hcb0, hcb1⟩ := hcb
                clear hc0
                have hjl : decide ((j : Int) < 0) = false := decide_eq_false (by omega)
                go_wp2_with (first | (go_at_call 20; refine (choose_any other 5000 _ HO.out.1 HO.out.2 (by omega) (by omega)).mono ?_; rintro e w' ⟨rfl, h'⟩; subst w'; rw [HC0.out]))
                have HPL3 := HP6
                have HBL3 := HB6
                go_loopw [21] (fun v wr => ∃ a : Int, 0 ≤ a ∧ a ≤ c0 + 1 ∧ v = .int .i64 a ∧ PBox wr w.heap.size p.K p.A p.L al at' ai nl nt ni cl ct ci ∧ Below w.heap.size w wr) (fun v _ => (c0 + 1 - intOf v).toNat)
                case atStart => exact ⟨_, by omega, by omega, rfl, HPL3.out, HBL3.out⟩
                case round =>
                  clear HPL3 HBL3
                  obtain ⟨a, ha0, ha1, rfl, hpb, hb⟩ := hrel
                  have HP7 := Lib.hid hpb
                  have HB7 := Lib.hid hb
                  clear hpb hb
                  by_cases hle : a ≤ c0
                  · obtain ⟨_, z0, z1, z2, z3, z4, z5⟩ := HP7.out
                    go_wp2_with fail
                    refine (Cal.periodAt_ref p.K p.A p.L a _).mono ?_
                    rintro e w8 ⟨f3, t3, e3, rfl, hat3, hb8⟩
                    have HBA := Lib.hid (HB7.out.trans (hb8.mono HB7.out.size))
                    have HBB := Lib.hid (kbelow_box w8 (.cells #[.int .i64 f3, .int .i64 t3] 42))
                    have HB8 := Lib.hid (HBA.out.trans (HBB.out.mono HBA.out.size))
                    have HP8 := Lib.hid ((HP7.out.below hb8 HP7.out.1).below HBB.out (HP7.out.below hb8 HP7.out.1).1)
                    have q8 : (w8.alloc (.cells #[.int .i64 f3, .int .i64 t3] 42)).cell? ⟨w8.heap.size, 0, none⟩ = some (.int .i64 f3) := by simp
                    clear hb8 HBA HBB HB7 HP7 z0 z1 z2 z3 z4 z5
                    obtain ⟨_, y0, y1, y2, y3, y4, y5⟩ := HP8.out
                    by_cases he3 : e3 = 0
                    · subst he3
                      have HD0 := Lib.hid (first_none HF.out H3.out hat3 (.inl rfl))
                      have HDD := Lib.hid (at_day hat3).1
                      clear hat3
                      go_wp2_with fail
                      refine (HOT.out _ f3 HB8.out HDD.out).mono ?_
                      rintro e w9 ⟨rfl, hb9⟩
                      rw [HD0.out]
                      have HB9 := Lib.hid (HB8.out.trans (hb9.mono HB8.out.size))
                      have HP9 := Lib.hid (HP8.out.below hb9 HP8.out.1)
                      clear hb9 y0 y1 y2 y3 y4 y5
                      go_wp2_with fail
                      go_roundw
                      case rel => exact ⟨a + 1, by omega, by omega, by go_num, HP9.out, HB9.out⟩
                      case measure => simp [intOf]; omega
                    · have heB : (e3 == 0) = false := by simp [he3]
                      clear hat3
                      go_wp2_with fail
                      go_roundw
                      case rel => exact ⟨a + 1, by omega, by omega, by go_num, HP8.out, HB8.out⟩
                      case measure => simp [intOf]; omega
                  · have hleB : decide (a ≤ c0) = false := decide_eq_false hle
                    go_wp2_with fail
                    go_roundw
                    case rel => exact ⟨j + 1, by omega, by go_num, HP7.out, HB7.out⟩
                    case measure => simp [intOf]; omega
              · have hjB : decide ((j : Int) ≤ 0) = false := decide_eq_false (by omega)
                go_wp2_with fail
                go_roundw
                case rel => exact ⟨i + 1, by omega, by omega, by go_num, HP6.out, HB6.out⟩
                case measure => simp [intOf]; omega
        · have hltB : decide (i < (ni : Int)) = false := decide_eq_false hlt
          go_wp2_with fail
          go_ret
          exact ⟨rfl, HB5.out⟩
end Go.Proofs.YtonceehdmnkffaaGreatDoor
