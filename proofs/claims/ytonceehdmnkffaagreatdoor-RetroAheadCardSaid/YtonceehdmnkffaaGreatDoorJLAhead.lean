/-
  The walk of the law RetroAhead: it answers true at every plan and all ints.
-/
import Derived.Test.YtonceehdmnkffaaGreatDoorJP
import Derived.Test.YtonceehdmnkffaaGreatDoorJO
import Derived.Lib.QuietBelow
import Derived.BigQuiet
set_option linter.unusedSimpArgs false
namespace Go.Proofs.YtonceehdmnkffaaGreatDoor
open Go.RowKit Go.Sort Go.Lib

set_option maxRecDepth 100000 in
set_option maxHeartbeats 8000000 in
theorem walk_retroAhead (p : Pl) (al : Option Addr) (nl cl : Nat) (at' : Option Addr) (nt ct : Nat) (ai : Option Addr) (ni ci : Nat) (frm : Int) (_ : (Lit.int .i64 frm).wf = true) (to : Int) (wt : (Lit.int .i64 to).wf = true) (was : Int) (_ : (Lit.int .i64 was).wf = true) (is : Int) (_ : (Lit.int .i64 is).wf = true) {w : World} (hc : CameP w al at' ai p) (h1 : p.lns.length = nl) (h2 : p.tbs.length = nt) (h3 : p.ins.length = ni) (hS : Shp w) :
    Calls Tryz.prog 8 #[.agg #[.int .i64 p.K, .int .i64 p.A, .int .i64 p.L, .slice al nl cl, .slice at' nt ct, .slice ai ni ci], .int .i64 frm, .int .i64 to, .int .i64 was, .int .i64 is] w fun e w' => e = .returned (.bool true) ∧ Below w.heap.size w w' := by
  have HB0 := Lib.hid (kbelow_box w (.cells #[.int .i64 p.K, .int .i64 p.A, .int .i64 p.L, .slice al nl cl, .slice at' nt ct, .slice ai ni ci] 28))
  have HP0 := Lib.hid (PBox.made w p.K p.A p.L al at' ai nl nt ni cl ct ci)
  have HC := Lib.hid hc
  have HS := Lib.hid hS
  have H1 := Lib.hid h1
  have H2 := Lib.hid h2
  have H3 := Lib.hid h3
  have HT : Hid (to ≤ 9223372036854775807) := Lib.hid (wf_up wt)
  clear hS hc h1 h2 h3 wt
  obtain ⟨_, x0, x1, x2, x3, x4, x5⟩ := HP0.out
  go_enter Tryz.func8, Tryz.ntmps8
  go_wp2_with fail
  refine (retroBegun_any _ (HS.out.below HB0.out)).mono ?_
  rintro e w1 ⟨rfl, hb1⟩
  have HB1 := Lib.hid (HB0.out.trans (hb1.mono HB0.out.size))
  have HP1 := Lib.hid (HP0.out.below hb1 HP0.out.1)
  clear hb1 HP0 HB0 x0 x1 x2 x3 x4 x5
  obtain ⟨_, x0, x1, x2, x3, x4, x5⟩ := HP1.out
  go_wp2_with fail
  refine (First_any p al at' ai nl nt ni cl ct ci was is _ (HS.out.below HB1.out) (HC.out.below HB1.out) H1.out H2.out H3.out).mono ?_
  rintro e w2 ⟨k, ok, er, rfl, hfi, hb2⟩
  have HB2 := Lib.hid (HB1.out.trans (hb2.mono HB1.out.size))
  have HP2 := Lib.hid (HP1.out.below hb2 HP1.out.1)
  have HF := Lib.hid hfi
  clear hb2 HP1 HB1 x0 x1 x2 x3 x4 x5 hfi
  by_cases hz : er = 0
  · subst hz
    obtain ⟨_, x0, x1, x2, x3, x4, x5⟩ := HP2.out
    go_wp2_with fail
    refine (Fresh_any p al at' ai nl nt ni cl ct ci frm to was _ (HS.out.below HB2.out) (HC.out.below HB2.out) H1.out H2.out H3.out HT.out).mono ?_
    rintro e w3 ⟨ra, ea, rfl, hfa, hb3⟩
    have HB3 := Lib.hid (HB2.out.trans (hb3.mono HB2.out.size))
    have HP3 := Lib.hid (HP2.out.below hb3 HP2.out.1)
    have HFA := Lib.hid hfa
    clear hb3 HP2 x0 x1 x2 x3 x4 x5 hfa
    obtain ⟨_, x0, x1, x2, x3, x4, x5⟩ := HP3.out
    go_wp2_with fail
    refine (Fresh_any p al at' ai nl nt ni cl ct ci frm to is _ (HS.out.below HB3.out) (HC.out.below HB3.out) H1.out H2.out H3.out HT.out).mono ?_
    rintro e w4 ⟨rb, eb, rfl, hfb, hb4⟩
    have HB4 := Lib.hid (HB3.out.trans (hb4.mono HB3.out.size))
    have HFB := Lib.hid hfb
    have HBB := Lib.hid hb4
    clear hb4 HP3 x0 x1 x2 x3 x4 x5 hfb
    rcases HFA.out.lists with ⟨hea, _⟩ | ⟨rfl, _, hask, h60, n, ya, sa, oa, rowa, ga, ca, Ba, hna, hra, _, hola, rfl, _, hca, hla⟩
    · have heB : (ea != 0) = true := by simp [hea]
      go_wp2_with fail
      go_ret
      exact ⟨rfl, HB4.out⟩
    · rcases HFB.out.lists with ⟨heb, _⟩ | ⟨rfl, _, _, _, n', yb, sb, ob, rowb, gb, cb, Bb, hnb, hrb, _, holb, rfl, _, hcb, hlb⟩
      · have heB : (eb != 0) = true := by simp [heb]
        go_wp2_with fail
        go_ret
        exact ⟨rfl, HB4.out⟩
      · obtain rfl : n = n' := by omega
        have HRA := Lib.hid hra
        have HRB := Lib.hid hrb
        have HLA := Lib.hid (hla.below HBB.out)
        have HLB := Lib.hid hlb
        have HOA := Lib.hid hola
        have HOB := Lib.hid holb
        have hfr0 : 0 ≤ frm := hask.2.1
        have hn60 : n ≤ 60 := by omega
        have hfr : frm ≤ 5000 := by
          obtain ⟨f, t, q⟩ := hra.at (j := 0) (by have := hask.2.2; omega)
          have := (at_day q).2
          omega
        clear hra hrb hla hlb hola holb hask h60 hna hnb HFA HFB HBB HB3 HB2
        go_wp2_with fail
        go_loopw [18] (fun i wr => ∃ k : Nat, k ≤ n ∧ i = .int .i64 k ∧ Below w4.heap.size w4 wr) (fun i _ => n - (intOf i).toNat)
        case atStart => exact ⟨0, Nat.zero_le _, rfl, Below.refl _ _⟩
        case round =>
          obtain ⟨i, hi, rfl, hb⟩ := hrel
          have HB := Lib.hid hb
          clear hb
          by_cases hlt : i < n
          · have hlt' : (i : Int) < (n : Int) := by omega
            have HLA5 := Lib.hid (HLA.out.below HB.out)
            have HLB5 := Lib.hid (HLB.out.below HB.out)
            have xa := HLA5.out.cell i (by rw [HLA.out.len, HOA.out]; exact hlt)
            have xb := HLB5.out.cell i (by rw [HLB.out.len, HOB.out]; exact hlt)
            have HGA := Lib.hid (HLA5.out.row i (by rw [HLA.out.len, HOA.out]; exact hlt))
            have HGB := Lib.hid (HLB5.out.row i (by rw [HLB.out.len, HOB.out]; exact hlt))
            obtain ⟨va, hva⟩ : ∃ va, rowN rowa i = va := ⟨_, rfl⟩
            obtain ⟨vb, hvb⟩ : ∃ vb, rowN rowb i = vb := ⟨_, rfl⟩
            rw [hva] at xa HGA
            rw [hvb] at xb HGB
            clear hva hvb
            have hw1 : IntKind.i64.wrap (frm + (i : Int)) = frm + (i : Int) := IntWalk.i64_in _ (by omega)
            by_cases hcond : ok = false ∨ frm + i < k
            · have heq := ahead_same HF.out H1.out H3.out HRA.out HRB.out hfr0 hlt hcond
              rw [heq] at HGA
              have HLN : Hid ((outN ob i).length ≤ 1000000000) := Lib.hid (Nat.le_trans (HLB5.out.short H1.out HRB.out hlt) (by have := HF.out.plan.small.1; have := H1.out; omega))
              have HSAM : Hid (∀ W', Below wr.heap.size wr W' → Calls Tryz.prog 25 #[va, vb] W' fun e w' => e = .returned (.bool true) ∧ Below W'.heap.size W' w') := fun W' hb' => (same_grow (grow_below HGA.out hb') (grow_below HGB.out hb') HLN.out).mono fun e w' ⟨q1, q2, q3⟩ => ⟨q1, by rw [q3]; exact kbelow_dN (Below.refl _ _) _⟩
              clear heq HLN HGA HGB HLA5 HLB5
              cases ok
              · clear hcond
                go_wp2_with fail
                have za := cell_regrown xa
                have zb := cell_regrown xb
                refine wp_region_quiet_below (by kernel_rfl) (by kernel_rfl) ?_
                repeat (go_big_quiet_step (exact Calls.regrown_of (HSAM.out _ (below_regrown wr _ _))))
                refine wpQuiet_nil ?_
                intro _ hw'
                obtain ⟨⟨dq, osq⟩, hw''⟩ := hw'
                subst hw''
                have HBN := Lib.hid (HB.out.trans ((below_regrown wr dq osq).mono HB.out.size))
                go_wp2_with fail
                go_roundw
                case rel => exact ⟨i + 1, by omega, by go_num, HBN.out⟩
                case measure => simp [intOf]; omega
              · have hcd : decide (frm + (i : Int) < k) = true := by
                  rcases hcond with h | h
                  · cases h
                  · exact decide_eq_true h
                clear hcond
                go_wp2_with fail
                have za := cell_regrown xa
                have zb := cell_regrown xb
                refine wp_region_quiet_below (by kernel_rfl) (by kernel_rfl) ?_
                repeat (go_big_quiet_step (exact Calls.regrown_of (HSAM.out _ (below_regrown wr _ _))))
                refine wpQuiet_nil ?_
                intro _ hw'
                obtain ⟨⟨dq, osq⟩, hw''⟩ := hw'
                subst hw''
                have HBN := Lib.hid (HB.out.trans ((below_regrown wr dq osq).mono HB.out.size))
                go_wp2_with fail
                go_roundw
                case rel => exact ⟨i + 1, by omega, by go_num, HBN.out⟩
                case measure => simp [intOf]; omega
            · obtain rfl : ok = true := by
                cases ok
                · exact absurd (.inl rfl) hcond
                · rfl
              have hcd : decide (frm + (i : Int) < k) = false := decide_eq_false fun h => hcond (.inr h)
              clear hcond HGA HGB HLA5 HLB5
              go_wp2_with fail
              have za := cell_regrown xa
              have zb := cell_regrown xb
              refine wp_region_quiet_below (by kernel_rfl) (by kernel_rfl) ?_
              repeat (go_big_quiet_step (exact Calls.regrown_of (HSAM.out _ (below_regrown wr _ _))))
              refine wpQuiet_nil ?_
              intro _ hw'
              obtain ⟨⟨dq, osq⟩, hw''⟩ := hw'
              subst hw''
              have HBN := Lib.hid (HB.out.trans ((below_regrown wr dq osq).mono HB.out.size))
              go_wp2_with fail
              go_roundw
              case rel => exact ⟨i + 1, by omega, by go_num, HBN.out⟩
              case measure => simp [intOf]; omega
          · obtain rfl : i = n := by omega
            have hltB : decide ((i : Int) < (i : Int)) = false := decide_eq_false (by omega)
            go_wp2_with fail
            go_ret
            exact ⟨rfl, HB4.out.trans (HB.out.mono HB4.out.size)⟩
  · have hzB : (er != 0) = true := by simp [hz]
    obtain ⟨_, x0, x1, x2, x3, x4, x5⟩ := HP2.out
    go_wp2_with fail
    go_ret
    exact ⟨rfl, HB2.out⟩
end Go.Proofs.YtonceehdmnkffaaGreatDoor
